/- Walks of the document's own CheckPlan, Stock, Starts and IsTidy. -/
import Derived.Test.YtjhnfcmijijdcaaWalkJ
namespace Go.Proofs.Ytjhnfcmijijdcaa
open Go.RowKit

section
variable (K h : Int) (A : Option Addr) (n c : Nat) (cs : List Int) (A' : Option Addr) (n' c' : Nat) (ds : List Int) (P : Option Addr) (np pc : Nat) (ps : List Int) (w : World)
    (hT : Tin w A n c cs A' n' c' ds) (hP : Row w P np pc ps)
include hT hP

set_option maxHeartbeats 2000000 in
theorem rCheckPlan_any :
    Calls Try.prog 21 #[.agg #[.int .i64 K, .int .i64 h, .slice A n c, .slice A' n' c'], .slice P np pc] w (NumPost (okv (errP K h cs ds ps) ((tk K h cs ds).cost (pl ps) ds.length)) (errP K h cs ds ps) w) := by
  have HT := hide hT
  have HPr := hide hP
  have L1 := hT.1.length
  have L2 := hT.2.length
  have L3 := hP.length
  have B0 := hide ((Below.refl w.heap.size w).alloc (Nat.le_refl _) (.cells #[.int .i64 K, .int .i64 h, .slice A n c, .slice A' n' c'] 24))
  have K0 := hide (Bk.born w 24 #[.int .i64 K, .int .i64 h, .slice A n c, .slice A' n' c'])
  clear hT hP
  by_cases he : errP K h cs ds ps = 0
  case neg =>
    have HE := hide he
    have he' : (errP K h cs ds ps != 0) = true := by simpa using he
    clear he
    go_enter Try.func21, Try.ntmps21
    go_wp2_with fail
    refine (rplanned_any K h _ n c cs _ n' c' ds _ np pc ps _ (HT.out.alloc _) (HPr.out.alloc _)).mono ?_
    rintro e w1 ⟨rfl, b1⟩
    go_wp2_with fail
    go_ret2
    exact ⟨ret2_ii (okv_ne HE.out _).symm rfl, B0.out.trans (b1.mono (by simp))⟩
  obtain ⟨o, a, f⟩ := errP_zero he
  have hn1 : 1 ≤ n' := by have := o.n1; omega
  have hn2 : n' ≤ 12 := by have := o.n2; omega
  obtain rfl : n = n' := by have := o.c.1; omega
  obtain rfl : np = n := by have := a.1; omega
  have OK := hide (by have := o.tk; rw [L2] at this; exact this)
  have HPl := hide (by have := a.plan; rw [L2] at this; exact this)
  have HE := hide he
  have HN := hide L2
  clear o a f he L1 L3
  go_enter Try.func21, Try.ntmps21
  go_wp2_with fail
  refine (rplanned_any K h _ np c cs _ np c' ds _ np pc ps _ (HT.out.alloc _) (HPr.out.alloc _)).mono ?_
  rw [HE.out]
  rintro e w1 ⟨rfl, b1⟩
  have B1 := hide (B0.out.trans (b1.mono (by simp)))
  have K1 := hide (K0.out.keep b1 (by simp))
  obtain ⟨k0, k1, k2, k3, _⟩ := K1.out.four
  clear b1
  go_wp2_with fail
  refine (rcost_any K h _ np c cs _ c' ds _ pc ps _ (HT.out.below B1.out (Nat.le_refl _)) (HPr.out.below B1.out (Nat.le_refl _)) OK.out HPl.out hn1 hn2).mono ?_
  rintro e w2 ⟨rfl, b2⟩
  go_wp2_with fail
  go_ret2
  exact ⟨ret2_ii (by rw [okv_zero HE.out, HN.out]) HE.out.symm, B1.out.trans (b2.mono B1.out.size)⟩

set_option maxHeartbeats 2000000 in
theorem rStock_any :
    Calls Try.prog 25 #[.agg #[.int .i64 K, .int .i64 h, .slice A n c, .slice A' n' c'], .slice P np pc] w (ListPost (okl (errP K h cs ds ps) ((tk K h cs ds).stkL (pl ps) ds.length)) (errP K h cs ds ps) w) := by
  have HT := hide hT
  have HPr := hide hP
  have L1 := hT.1.length
  have L2 := hT.2.length
  have L3 := hP.length
  have B0 := hide ((Below.refl w.heap.size w).alloc (Nat.le_refl _) (.cells #[.int .i64 K, .int .i64 h, .slice A n c, .slice A' n' c'] 24))
  have K0 := hide (Bk.born w 24 #[.int .i64 K, .int .i64 h, .slice A n c, .slice A' n' c'])
  clear hT hP
  by_cases he : errP K h cs ds ps = 0
  case neg =>
    have HE := hide he
    have he' : (errP K h cs ds ps != 0) = true := by simpa using he
    clear he
    go_enter Try.func25, Try.ntmps25
    go_wp2_with fail
    refine (rplanned_any K h _ n c cs _ n' c' ds _ np pc ps _ (HT.out.alloc _) (HPr.out.alloc _)).mono ?_
    rintro e w1 ⟨rfl, b1⟩
    go_wp2_with fail
    go_ret2
    exact ⟨none, 0, 0, rfl, by rw [okl_ne HE.out]; exact Own.nil _ _, B0.out.trans (b1.mono (by simp))⟩
  obtain ⟨o, a, f⟩ := errP_zero he
  have hn1 : 1 ≤ n' := by have := o.n1; omega
  have hn2 : n' ≤ 12 := by have := o.n2; omega
  obtain rfl : n = n' := by have := o.c.1; omega
  obtain rfl : np = n := by have := a.1; omega
  have OK := hide (by have := o.tk; rw [L2] at this; exact this)
  have HPl := hide (by have := a.plan; rw [L2] at this; exact this)
  have HE := hide he
  have HN := hide L2
  clear o a f he L1 L3
  go_enter Try.func25, Try.ntmps25
  go_wp2_with fail
  refine (rplanned_any K h _ np c cs _ np c' ds _ np pc ps _ (HT.out.alloc _) (HPr.out.alloc _)).mono ?_
  rw [HE.out]
  rintro e w1 ⟨rfl, b1⟩
  have B1 := hide (B0.out.trans (b1.mono (by simp)))
  have K1 := hide (K0.out.keep b1 (by simp))
  obtain ⟨k0, k1, k2, k3, _⟩ := K1.out.four
  clear b1
  go_wp2_with fail
  refine (rstock_any K h _ np c cs _ c' ds _ pc ps _ (HT.out.below B1.out (Nat.le_refl _)) (HPr.out.below B1.out (Nat.le_refl _)) OK.out HPl.out hn1 hn2).mono ?_
  rintro e w2 ⟨A2, c2, rfl, o2, b2⟩
  go_wp2_with fail
  go_ret2
  exact ⟨_, _, _, by rw [HE.out]; rfl, by rw [okl_zero HE.out, HN.out]; exact o2.more B1.out.size, B1.out.trans (b2.mono B1.out.size)⟩

set_option maxHeartbeats 2000000 in
theorem rStarts_any :
    Calls Try.prog 27 #[.agg #[.int .i64 K, .int .i64 h, .slice A n c, .slice A' n' c'], .slice P np pc] w (ListPost (okl (errP K h cs ds ps) (pumpL (pl ps) ds.length)) (errP K h cs ds ps) w) := by
  have HT := hide hT
  have HPr := hide hP
  have L1 := hT.1.length
  have L2 := hT.2.length
  have L3 := hP.length
  have B0 := hide ((Below.refl w.heap.size w).alloc (Nat.le_refl _) (.cells #[.int .i64 K, .int .i64 h, .slice A n c, .slice A' n' c'] 24))
  have K0 := hide (Bk.born w 24 #[.int .i64 K, .int .i64 h, .slice A n c, .slice A' n' c'])
  clear hT hP
  by_cases he : errP K h cs ds ps = 0
  case neg =>
    have HE := hide he
    have he' : (errP K h cs ds ps != 0) = true := by simpa using he
    clear he
    go_enter Try.func27, Try.ntmps27
    go_wp2_with fail
    refine (rplanned_any K h _ n c cs _ n' c' ds _ np pc ps _ (HT.out.alloc _) (HPr.out.alloc _)).mono ?_
    rintro e w1 ⟨rfl, b1⟩
    go_wp2_with fail
    go_ret2
    exact ⟨none, 0, 0, rfl, by rw [okl_ne HE.out]; exact Own.nil _ _, B0.out.trans (b1.mono (by simp))⟩
  obtain ⟨o, a, f⟩ := errP_zero he
  have hn1 : 1 ≤ n' := by have := o.n1; omega
  have hn2 : n' ≤ 12 := by have := o.n2; omega
  obtain rfl : n = n' := by have := o.c.1; omega
  obtain rfl : np = n := by have := a.1; omega
  have OK := hide (by have := o.tk; rw [L2] at this; exact this)
  have HPl := hide (by have := a.plan; rw [L2] at this; exact this)
  have HE := hide he
  have HN := hide L2
  clear o a f he L1 L3
  go_enter Try.func27, Try.ntmps27
  go_wp2_with fail
  refine (rplanned_any K h _ np c cs _ np c' ds _ np pc ps _ (HT.out.alloc _) (HPr.out.alloc _)).mono ?_
  rw [HE.out]
  rintro e w1 ⟨rfl, b1⟩
  have B1 := hide (B0.out.trans (b1.mono (by simp)))
  have K1 := hide (K0.out.keep b1 (by simp))
  obtain ⟨k0, k1, k2, k3, _⟩ := K1.out.four
  clear b1
  have RP := hide (HPr.out.below B1.out (Nat.le_refl _))
  obtain ⟨bp, offp, rp⟩ := RP.out
  obtain rfl := rp.at_ (by omega)
  have RPA := hide rp
  have hcapp := rp.cap
  have hmaxp := rp.max
  clear rp k0 k1 k2 k3
  go_wp2_with fail
  go_loopw [7, 8] (fun v i wr => ∃ (k m : Nat) (A1 : Option Addr) (c1 : Nat), k ≤ np ∧ i = .int .i64 k ∧ v = .slice A1 m c1 ∧ m ≤ k ∧ Own wr w1.heap.size A1 m c1 (pumpL (pl ps) k) ∧ Below w1.heap.size w1 wr) (fun _ i _ => np - (intOf i).toNat)
  case atStart => exact ⟨0, 0, none, 0, Nat.zero_le _, rfl, rfl, Nat.le_refl _, Own.nil _ _, Below.refl _ _⟩
  case round =>
    obtain ⟨k, m, A1, c1, hk, rfl, rfl, hm, hown, hb⟩ := hrel
    by_cases hlt : k < np
    · have cp := (RPA.out.below hb (Nat.le_refl _)).cell k hlt
      rw [show ps.getD k 0 = pl ps k from rfl] at cp
      have HY := hide (fun h => pumpL_yes (p := pl ps) (k := k) h)
      have HN := hide (fun h => pumpL_no (p := pl ps) (k := k) h)
      generalize pl ps k = z at *
      have hsz := hb.size
      by_cases hz : 0 < z
      · go_wp2_with (at_builtin; refine wpList_app1 _ rfl (.tmp 26) (.tmp 28) rfl w1.heap.size m c1 A1 _ _ rfl rfl hown (by omega) hsz ?_; intro A2 c2 w2 hown1 hb1 hg1)
        go_roundw
        case rel => exact ⟨k + 1, m + 1, A2, c2, by omega, by go_num, by go_num, by omega, by rw [HY.out hz]; exact hown1, hb.trans (hb1.mono (by omega))⟩
        case measure => simp [intOf]; omega
      · go_wp2
        go_roundw
        case rel => exact ⟨k + 1, m, A1, c1, by omega, by go_num, by go_num, by omega, by rw [HN.out hz]; exact hown, hb⟩
        case measure => simp [intOf]; omega
    · obtain rfl : k = np := by omega
      go_wp2_with fail
      go_ret2
      exact ⟨_, _, _, by rw [HE.out]; rfl, by rw [okl_zero HE.out]; (try rw [HN.out]); exact hown.more B1.out.size, B1.out.trans (hb.mono B1.out.size)⟩

set_option maxHeartbeats 2000000 in
theorem rIsTidy_any :
    Calls Try.prog 29 #[.agg #[.int .i64 K, .int .i64 h, .slice A n c, .slice A' n' c'], .slice P np pc] w (BoolPost (okb (errP K h cs ds ps) (decide ((tk K h cs ds).Tidy (pl ps) ds.length))) (errP K h cs ds ps) w) := by
  have HT := hide hT
  have HPr := hide hP
  have L1 := hT.1.length
  have L2 := hT.2.length
  have L3 := hP.length
  have B0 := hide ((Below.refl w.heap.size w).alloc (Nat.le_refl _) (.cells #[.int .i64 K, .int .i64 h, .slice A n c, .slice A' n' c'] 24))
  have K0 := hide (Bk.born w 24 #[.int .i64 K, .int .i64 h, .slice A n c, .slice A' n' c'])
  clear hT hP
  by_cases he : errP K h cs ds ps = 0
  case neg =>
    have HE := hide he
    have he' : (errP K h cs ds ps != 0) = true := by simpa using he
    clear he
    go_enter Try.func29, Try.ntmps29
    go_wp2_with fail
    refine (rplanned_any K h _ n c cs _ n' c' ds _ np pc ps _ (HT.out.alloc _) (HPr.out.alloc _)).mono ?_
    rintro e w1 ⟨rfl, b1⟩
    go_wp2_with fail
    go_ret2
    exact ⟨ret2_bi (okb_ne HE.out _).symm rfl, B0.out.trans (b1.mono (by simp))⟩
  obtain ⟨o, a, f⟩ := errP_zero he
  have hn1 : 1 ≤ n' := by have := o.n1; omega
  have hn2 : n' ≤ 12 := by have := o.n2; omega
  obtain rfl : n = n' := by have := o.c.1; omega
  obtain rfl : np = n := by have := a.1; omega
  have OK := hide (by have := o.tk; rw [L2] at this; exact this)
  have HPl := hide (by have := a.plan; rw [L2] at this; exact this)
  have HE := hide he
  have HN := hide L2
  clear o a f he L1 L3
  go_enter Try.func29, Try.ntmps29
  go_wp2_with fail
  refine (rplanned_any K h _ np c cs _ np c' ds _ np pc ps _ (HT.out.alloc _) (HPr.out.alloc _)).mono ?_
  rw [HE.out]
  rintro e w1 ⟨rfl, b1⟩
  have B1 := hide (B0.out.trans (b1.mono (by simp)))
  have K1 := hide (K0.out.keep b1 (by simp))
  obtain ⟨k0, k1, k2, k3, _⟩ := K1.out.four
  clear b1
  go_wp2_with fail
  refine (rstock_any K h _ np c cs _ c' ds _ pc ps _ (HT.out.below B1.out (Nat.le_refl _)) (HPr.out.below B1.out (Nat.le_refl _)) OK.out HPl.out hn1 hn2).mono ?_
  rintro e w2 ⟨A2, c2, rfl, o2, b2⟩
  have B2 := hide (B1.out.trans (b2.mono B1.out.size))
  rcases o2.form with ⟨_, h0, _⟩ | ⟨g, rfl, hg1, hg2, _⟩
  · omega
  have O2 := hide o2
  have RP := hide (HPr.out.below B2.out (Nat.le_refl _))
  obtain ⟨bp, offp, rp⟩ := RP.out
  obtain rfl := rp.at_ (by omega)
  have RPA := hide rp
  clear k0 k1 k2 k3 o2 b2 rp
  go_wp2_with fail
  go_loop [8] (fun i => ∃ k : Nat, 1 ≤ k ∧ k ≤ np ∧ i = .int .i64 k ∧ TidyTo (tk K h cs ds) (pl ps) k) (fun i => np - (intOf i).toNat)
  case atStart => exact ⟨1, by omega, by omega, rfl, tidyTo_one _ _⟩
  case round =>
    obtain ⟨k, hk1, hk, rfl, ht⟩ := hrel
    have HTT := hide ht
    clear ht
    by_cases hlt : k < np
    · have cp := RPA.out.cell k hlt
      have cl := O2.out.cell (k := k - 1) (by omega)
      rw [show ps.getD k 0 = pl ps k from rfl] at cp
      rw [Tk.stkL_get _ _ (by omega), show k - 1 + 1 = k by omega] at cl
      have HY := hide (fun e => tidyTo_succ HTT.out (k := k) e)
      have HN' := hide (fun (e : 0 < pl ps k ∧ 0 < (tk K h cs ds).stk (pl ps) k) => decide_eq_false (p := (tk K h cs ds).Tidy (pl ps) np) fun f => f k hlt e)
      generalize (tk K h cs ds).stk (pl ps) k = x at *
      generalize pl ps k = z at *
      have w1 : IntKind.i64.wrap ((k : Int) - 1) = ((k - 1 : Nat) : Int) := by rw [IntWalk.i64_in _ (by omega)]; omega
      have l2 : ((k - 1 : Nat) : Int) < np := by omega
      by_cases hz : 0 < z
      · by_cases hx : 0 < x
        · go_wp2_with fail
          go_ret2
          exact ⟨ret2_bi (by rw [okb_zero HE.out]; (try rw [HN.out]); exact (HN'.out ⟨hz, hx⟩).symm) HE.out.symm, B2.out⟩
        · go_wp2_with fail
          go_round
          case rel => exact ⟨k + 1, by omega, by omega, by go_num, HY.out fun e => hx e.2⟩
          case measure => simp [intOf]; omega
      · go_wp2_with fail
        go_round
        case rel => exact ⟨k + 1, by omega, by omega, by go_num, HY.out fun e => hz e.1⟩
        case measure => simp [intOf]; omega
    · obtain rfl : k = np := by omega
      go_wp2_with fail
      go_ret2
      exact ⟨ret2_bi (by rw [okb_zero HE.out]; (try rw [HN.out]); exact (decide_eq_true (p := (tk K h cs ds).Tidy (pl ps) k) HTT.out).symm) HE.out.symm, B2.out⟩

end

end Go.Proofs.Ytjhnfcmijijdcaa
