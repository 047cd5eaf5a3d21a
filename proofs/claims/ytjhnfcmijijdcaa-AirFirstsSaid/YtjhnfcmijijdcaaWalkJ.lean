/- Walks of the document's own cost and errors of a plan. -/
import Derived.Test.YtjhnfcmijijdcaaWalkI
namespace Go.Proofs.Ytjhnfcmijijdcaa
open Go.RowKit

set_option maxHeartbeats 4000000 in
theorem rcost_any (K h : Int) (A : Option Addr) (n c : Nat) (cs : List Int) (A' : Option Addr) (c' : Nat) (ds : List Int) (P : Option Addr) (pc : Nat) (ps : List Int) (w : World)
    (hT : Tin w A n c cs A' n c' ds) (hP : Row w P n pc ps) (ok : (tk K h cs ds).Ok n) (hp : PlanIn (pl ps) n) (hn1 : 1 ≤ n) (hn : n ≤ 12) :
    Calls Try.prog 59 #[.agg #[.int .i64 K, .int .i64 h, .slice A n c, .slice A' n c'], .slice P n pc] w fun e w' =>
      e = .returned (.int .i64 ((tk K h cs ds).cost (pl ps) n)) ∧ Below w.heap.size w w' := by
  have HT := hide hT
  have HPr := hide hP
  obtain ⟨b, off, r⟩ := hT.1
  obtain ⟨bp, offp, rp⟩ := hP
  obtain rfl := r.at_ (by omega)
  obtain rfl := rp.at_ (by omega)
  have hcap := r.cap
  have hmax := r.max
  have hcapp := rp.cap
  have hmaxp := rp.max
  have R := hide r
  have RP := hide rp
  have OK := hide ok
  have HP := hide hp
  have hK0 := ok.K0
  have hK1 := ok.K1
  replace hK0 : 0 ≤ K := hK0
  replace hK1 : K ≤ 999 := hK1
  clear hT r rp ok hp
  have B0 := hide ((Below.refl w.heap.size w).alloc (Nat.le_refl _) (.cells #[.int .i64 K, .int .i64 h, .slice (some ⟨b, off, none⟩) n c, .slice A' n c'] 24))
  have K0 := hide (Bk.born w 24 #[.int .i64 K, .int .i64 h, .slice (some ⟨b, off, none⟩) n c, .slice A' n c'])
  go_enter Try.func59, Try.ntmps59
  go_wp2_with fail
  refine (rstock_any K h _ n c cs _ c' ds _ pc ps _ (HT.out.below B0.out (Nat.le_refl _)) (HPr.out.below B0.out (Nat.le_refl _)) OK.out HP.out hn1 hn).mono ?_
  rintro e w2 ⟨A2, c2, rfl, o2, b2⟩
  have B2 := hide (B0.out.trans (b2.mono (by simp)))
  have K2 := hide (K0.out.keep b2 (by simp))
  rcases o2.form with ⟨_, h0, _⟩ | ⟨g, rfl, hg1, hg2, _⟩
  · omega
  have O2 := hide o2
  have RB := hide (R.out.below B2.out (Nat.le_refl _))
  have RPB := hide (RP.out.below B2.out (Nat.le_refl _))
  clear o2 b2 B0 K0
  go_wp2_with fail
  go_loopw [6, 7] (fun s i wr => ∃ k m : Nat, k ≤ n ∧ i = .int .i64 k ∧ s = .int .i64 ((tk K h cs ds).begs (pl ps) k + (tk K h cs ds).runs (pl ps) k) ∧ wr = w2.drewN m) (fun _ i _ => n - (intOf i).toNat)
  case atStart => exact ⟨0, 0, by omega, rfl, by simp [Tk.runs, Tk.begs, sm], rfl⟩
  case round =>
    obtain ⟨k, m, hk, rfl, rfl, rfl⟩ := hrel
    by_cases hlt : k < n
    · have cd := RB.out.cell k hlt
      have cp := RPB.out.cell k hlt
      have cl := O2.out.cell hlt
      rw [← tk_c K h cs ds k] at cd
      rw [show ps.getD k 0 = pl ps k from rfl] at cp
      rw [Tk.stkL_get _ _ hlt] at cl
      have x0 := OK.out.cp_in HP.out hlt
      have x1 := OK.out.hs_in HP.out hn (i := k + 1) (by omega)
      have x2 := OK.out.runs_in HP.out hn (i := k) (by omega)
      have x3 := OK.out.begs_in (p := pl ps) (i := k)
      replace x1 : -12000 ≤ h * (tk K h cs ds).stk (pl ps) (k + 1) ∧ h * (tk K h cs ds).stk (pl ps) (k + 1) ≤ 144000 := x1
      have HS := (tk K h cs ds).runs_succ (pl ps) k
      replace HS : (tk K h cs ds).runs (pl ps) (k + 1) = (tk K h cs ds).runs (pl ps) k + ((tk K h cs ds).c k * pl ps k + h * (tk K h cs ds).stk (pl ps) (k + 1)) := HS
      have HS := hide HS
      have HY := hide (fun e => (tk K h cs ds).begs_yes (p := pl ps) (k := k) e)
      have HY : Hid (0 < pl ps k → (tk K h cs ds).begs (pl ps) (k + 1) = (tk K h cs ds).begs (pl ps) k + K) := HY
      have HN := hide (fun e => (tk K h cs ds).begs_no (p := pl ps) (k := k) e)
      generalize (tk K h cs ds).runs (pl ps) k = x at *
      generalize (tk K h cs ds).begs (pl ps) k = be at *
      generalize (tk K h cs ds).stk (pl ps) (k + 1) = v at *
      generalize (tk K h cs ds).c k = y at *
      generalize pl ps k = z at *
      obtain ⟨k0, k1, k2, k3, _⟩ := K2.out.four
      have w1 : IntKind.i64.wrap (y * z) = y * z := IntWalk.i64_in _ (by omega)
      have w3 : IntKind.i64.wrap (h * v) = h * v := IntWalk.i64_in _ (by omega)
      have w4 : IntKind.i64.wrap (y * z + h * v) = y * z + h * v := IntWalk.i64_in _ (by omega)
      have w5 : IntKind.i64.wrap (be + x + (y * z + h * v)) = be + x + (y * z + h * v) := IntWalk.i64_in _ (by omega)
      have w6 : IntKind.i64.wrap (be + x + K) = be + x + K := IntWalk.i64_in _ (by omega)
      have w7 : IntKind.i64.wrap (be + x + K + (y * z + h * v)) = be + x + K + (y * z + h * v) := IntWalk.i64_in _ (by omega)
      have l2 : (k : Int) < n := by omega
      by_cases hz : 0 < z
      · go_wp2_with fail
        go_quiet (fail)
        clear w1 w3 w4 w5 w6 w7
        go_wp2
        go_roundw
        case rel => exact ⟨k + 1, _, by omega, by go_num, by rw [HS.out, HY.out hz]; go_num, rfl⟩
        case measure => simp [intOf]; omega
      · go_wp2_with fail
        go_quiet (fail)
        clear w1 w3 w4 w5 w6 w7
        go_wp2
        go_roundw
        case rel => exact ⟨k + 1, _, by omega, by go_num, by rw [HS.out, HN.out hz]; go_num, rfl⟩
        case measure => simp [intOf]; omega
    · go_wp2_with fail
      go_ret
      obtain rfl : k = n := by omega
      exact ⟨ret_i64 (by rw [Tk.cost]), below_drewN B2.out _⟩

def FitTo (t : Tk) (p : Nat → Int) (k : Nat) : Prop := ∀ i, i < k → 0 ≤ t.stk p (i + 1)
theorem fitTo_zero (t : Tk) (p : Nat → Int) : FitTo t p 0 := fun _ h => absurd h (Nat.not_lt_zero _)
theorem fitTo_succ {t : Tk} {p : Nat → Int} {k : Nat} (h : FitTo t p k) (e : 0 ≤ t.stk p (k + 1)) : FitTo t p (k + 1) := fun i hi => by
  by_cases hik : i = k
  · subst hik; exact e
  · exact h i (by omega)

set_option maxHeartbeats 4000000 in
theorem rplanned_any (K h : Int) (A : Option Addr) (n c : Nat) (cs : List Int) (A' : Option Addr) (n' c' : Nat) (ds : List Int) (P : Option Addr) (np pc : Nat) (ps : List Int) (w : World)
    (hT : Tin w A n c cs A' n' c' ds) (hP : Row w P np pc ps) :
    Calls Try.prog 58 #[.agg #[.int .i64 K, .int .i64 h, .slice A n c, .slice A' n' c'], .slice P np pc] w fun e w' =>
      e = .returned (.int .i64 (errP K h cs ds ps)) ∧ Below w.heap.size w w' := by
  have HT := hide hT
  have HPr := hide hP
  have L1 := hT.1.length
  have L2 := hT.2.length
  have L3 := hP.length
  have B0 := hide ((Below.refl w.heap.size w).alloc (Nat.le_refl _) (.cells #[.int .i64 K, .int .i64 h, .slice A n c, .slice A' n' c'] 24))
  have K0 := hide (Bk.born w 24 #[.int .i64 K, .int .i64 h, .slice A n c, .slice A' n' c'])
  clear hT hP
  by_cases o : OkT K h cs ds
  case neg =>
    have HV := hide (errP_task (ps := ps) o)
    have HE := hide (errT_no o)
    clear o
    go_enter Try.func58, Try.ntmps58
    go_wp2_with fail
    refine (rValidate_any K h _ n c cs _ n' c' ds _ (HT.out.alloc _)).mono ?_
    rw [HE.out]
    rintro e w1 ⟨rfl, b1⟩
    go_wp2_with fail
    go_ret
    exact ⟨ret_i64 HV.out.symm, B0.out.trans (b1.mono (by simp))⟩
  have hn1 : 1 ≤ n' := by have := o.n1; omega
  have hn2 : n' ≤ 12 := by have := o.n2; omega
  have hcn : cs.length = ds.length := by have := o.c.1; omega
  obtain rfl : n = n' := by omega
  have HE := hide (errT_ok o)
  have HN := hide L2
  by_cases a : AllOk ps ds.length 600
  case neg =>
    have HV := hide (errP_arg (K := K) (h := h) (cs := cs) a)
    have ha := allB_false a
    rw [L2] at ha
    clear o a L1 L2 L3 hcn
    go_enter Try.func58, Try.ntmps58
    go_wp2_with fail
    refine (rValidate_any K h _ n c cs _ n c' ds _ (HT.out.alloc _)).mono ?_
    rw [HE.out]
    rintro e w1 ⟨rfl, b1⟩
    have B1 := hide (B0.out.trans (b1.mono (by simp)))
    have K1 := hide (K0.out.keep b1 (by simp))
    obtain ⟨k0, k1, k2, k3, _⟩ := K1.out.four
    clear b1
    go_wp2_with fail
    refine (rall_any _ np pc ps n 600 _ (HPr.out.below B1.out (Nat.le_refl _))).mono ?_
    rw [ha]
    rintro e w2 ⟨rfl, rfl⟩
    go_wp2_with fail
    go_ret
    exact ⟨ret_i64 HV.out.symm, B1.out⟩
  have ha := allB_true a
  rw [L2] at ha
  obtain rfl : np = n := by have := a.1; omega
  have OT := hide o
  have OK := hide (by have := o.tk; rw [L2] at this; exact this)
  have AL := hide a
  have HPl := hide (by have := a.plan; rw [L2] at this; exact this)
  have HF := hide (fun (f : (tk K h cs ds).Fit (pl ps) np) => errP_ok o a (by rw [L2]; exact f))
  have HFn := hide (fun (f : ¬ (tk K h cs ds).Fit (pl ps) np) => errP_rule o a (by rw [L2]; exact f))
  clear o a L1 L2 L3 hcn
  go_enter Try.func58, Try.ntmps58
  go_wp2_with fail
  refine (rValidate_any K h _ np c cs _ np c' ds _ (HT.out.alloc _)).mono ?_
  rw [HE.out]
  rintro e w1 ⟨rfl, b1⟩
  have B1 := hide (B0.out.trans (b1.mono (by simp)))
  have K1 := hide (K0.out.keep b1 (by simp))
  obtain ⟨k0, k1, k2, k3, _⟩ := K1.out.four
  clear b1
  go_wp2_with fail
  refine (rall_any _ np pc ps np 600 _ (HPr.out.below B1.out (Nat.le_refl _))).mono ?_
  rw [ha]
  rintro e w2 ⟨rfl, rfl⟩
  go_wp2_with fail
  refine (rstock_any K h _ np c cs _ c' ds _ pc ps _ (HT.out.below B1.out (Nat.le_refl _)) (HPr.out.below B1.out (Nat.le_refl _)) OK.out HPl.out hn1 hn2).mono ?_
  rintro e w2 ⟨A2, c2, rfl, o2, b2⟩
  have B2 := hide (B1.out.trans (b2.mono B1.out.size))
  rcases o2.form with ⟨_, h0, _⟩ | ⟨g, rfl, hg1, hg2, _⟩
  · omega
  have O2 := hide o2
  clear o2 b2 k0 k1 k2 k3 K1 B1
  go_wp2_with fail
  go_loop [7] (fun i => ∃ k : Nat, k ≤ np ∧ i = .int .i64 k ∧ FitTo (tk K h cs ds) (pl ps) k) (fun i => np - (intOf i).toNat)
  case atStart => exact ⟨0, by omega, rfl, fitTo_zero _ _⟩
  case round =>
    obtain ⟨k, hk, rfl, ht⟩ := hrel
    have HTT := hide ht
    clear ht
    by_cases hlt : k < np
    · have cl := O2.out.cell hlt
      rw [Tk.stkL_get _ _ hlt] at cl
      have HY := hide (fun e => fitTo_succ HTT.out (k := k) e)
      have HN' := hide (fun (e : (tk K h cs ds).stk (pl ps) (k + 1) < 0) => HFn.out fun f => by have := f.1 k hlt; omega)
      generalize (tk K h cs ds).stk (pl ps) (k + 1) = y at *
      by_cases hz : y < 0
      · go_wp2_with fail
        go_ret
        exact ⟨ret_i64 (HN'.out hz).symm, B2.out⟩
      · go_wp2_with fail
        go_round
        case rel => exact ⟨k + 1, by omega, by go_num, HY.out (by omega)⟩
        case measure => simp [intOf]; omega
    · obtain rfl : k = np := by omega
      have cl := O2.out.cell (k := k - 1) (by omega)
      rw [Tk.stkL_get _ _ (by omega), show k - 1 + 1 = k from by omega] at cl
      have HV := hide (fun (hz : (tk K h cs ds).stk (pl ps) k = 0) => HF.out ⟨HTT.out, hz⟩)
      have HVn := hide (fun (hz : ¬ (tk K h cs ds).stk (pl ps) k = 0) => HFn.out fun f => hz f.2)
      generalize (tk K h cs ds).stk (pl ps) k = v at *
      have w1 : IntKind.i64.wrap ((k : Int) - 1) = ((k - 1 : Nat) : Int) := by rw [IntWalk.i64_in _ (by omega)]; omega
      have l2 : ((k - 1 : Nat) : Int) < k := by omega
      by_cases hv : v = 0
      · go_wp2_with fail
        go_ret
        exact ⟨ret_i64 (HV.out hv).symm, B2.out⟩
      · have hv' : (v != 0) = true := by simpa using hv
        go_wp2_with fail
        go_ret
        exact ⟨ret_i64 (HVn.out hv).symm, B2.out⟩

end Go.Proofs.Ytjhnfcmijijdcaa
