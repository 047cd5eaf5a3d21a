/- Group 3: texts WalkI, WalkJ, WalkK, WalkL, WalkM. -/
import Derived.Test.YtlndjjdggedljaaG2
/- WalkI -/
namespace Go.Proofs.Ytlndjjdggedljaa
open Go.RowKit

set_option maxHeartbeats 2000000 in
theorem rstock_any (K h : Int) (A : Option Addr) (n c : Nat) (cs : List Int) (A' : Option Addr) (c' : Nat) (ds : List Int) (P : Option Addr) (pc : Nat) (ps : List Int) (w : World)
    (hT : Tin w A n c cs A' n c' ds) (hP : Row w P n pc ps) (ok : (tk K h cs ds).Ok n) (hp : PlanIn (pl ps) n) (hn1 : 1 ≤ n) (hn : n ≤ 12) :
    Calls Try.prog 64 #[.agg #[.int .i64 K, .int .i64 h, .slice A n c, .slice A' n c'], .slice P n pc] w fun e w' =>
      ∃ A1 c1, e = .returned (.slice A1 n c1) ∧ Own w' w.heap.size A1 n c1 ((tk K h cs ds).stkL (pl ps) n) ∧ Below w.heap.size w w' := by
  obtain ⟨b, off, r⟩ := hT.2
  obtain ⟨bp, offp, rp⟩ := hP
  obtain rfl := r.at_ (by omega)
  obtain rfl := rp.at_ (by omega)
  have hcap := r.cap
  have hmax := r.max
  have hcapp := rp.cap
  have hmaxp := rp.max
  have R := hide r
  have RP := hide rp
  have OK := hide ok
  have HP := hide hp
  clear hT r rp ok hp
  have B0 := hide ((Below.refl w.heap.size w).alloc (Nat.le_refl _) (.cells #[.int .i64 K, .int .i64 h, .slice A n c, .slice (some ⟨b, off, none⟩) n c'] 24))
  have K0 := hide (Bk.born w 24 #[.int .i64 K, .int .i64 h, .slice A n c, .slice (some ⟨b, off, none⟩) n c'])
  go_enter Try.func64, Try.ntmps64
  go_wp2_with fail
  go_loopw [5, 6, 7] (fun v s i wr => ∃ (k : Nat) (A1 : Option Addr) (c1 : Nat), k ≤ n ∧ i = .int .i64 k ∧ s = .int .i64 ((tk K h cs ds).stk (pl ps) k) ∧ v = .slice A1 k c1 ∧ Own wr (w.heap.size + 1) A1 k c1 ((tk K h cs ds).stkL (pl ps) k) ∧
      Bk wr w.heap.size 24 #[.int .i64 K, .int .i64 h, .slice A n c, .slice (some ⟨b, off, none⟩) n c'] ∧ Below w.heap.size w wr) (fun _ _ i _ => n - (intOf i).toNat)
  case atStart => exact ⟨0, none, 0, by omega, rfl, rfl, rfl, Own.nil _ _, K0.out, B0.out⟩
  case round =>
    obtain ⟨k, A1, c1, hk, rfl, rfl, rfl, ho, hb, hbel⟩ := hrel
    by_cases hlt : k < n
    · have d0 := OK.out.d0 k hlt
      have d1 := OK.out.d1 k hlt
      have p0 := HP.out k hlt
      have q0 := OK.out.stk_in HP.out hn (i := k) (by omega)
      have q1 := OK.out.stk_in HP.out hn (i := k + 1) (by omega)
      have HS := hide ((tk K h cs ds).stk_succ (pl ps) k)
      have HL := hide ((tk K h cs ds).stkL_succ (pl ps) k)
      have cd := (R.out.below hbel (Nat.le_refl _)).cell k hlt
      have cp := (RP.out.below hbel (Nat.le_refl _)).cell k hlt
      rw [← tk_d K h cs ds k] at cd
      rw [show ps.getD k 0 = pl ps k from rfl] at cp
      rw [HS.out] at q1
      have HL := hide (HL.out.trans (by rw [HS.out]))
      generalize hx : (tk K h cs ds).stk (pl ps) k = x at *
      have HX := hide hx
      clear hx
      generalize (tk K h cs ds).d k = y at *
      generalize pl ps k = z at *
      obtain ⟨k0, k1, k2, k3, _⟩ := hb.four
      have HO := hide ho
      have HB := hide hb
      have HBL := hide hbel
      clear ho hb hbel
      have w1 : IntKind.i64.wrap (z - y) = z - y := IntWalk.i64_in _ (by omega)
      have w2 : IntKind.i64.wrap (x + (z - y)) = x + (z - y) := IntWalk.i64_in _ (by omega)
      have l2 : (k : Int) < n := by omega
      go_wp2_with fail
      go_quiet (fail)
      clear w1 w2
      have hsz : w.heap.size + 1 ≤ (wr.drewN nq).heap.size := HB.out.in_
      go_wp2_with (at_builtin; refine wpList_app1 _ rfl (.tmp 26) (.tmp 28) rfl (w.heap.size + 1) k c1 A1 _ _ rfl rfl (HO.out.drewN _) (by omega) hsz ?_; intro A2 c2 w2 hown1 hb1 hg1)
      go_roundw
      case rel => exact ⟨k + 1, A2, c2, by omega, by go_num, by rw [HS.out], by go_num, by rw [HL.out]; exact hown1, (HB.out.draws _).keep hb1 (by omega), (below_drewN HBL.out _).trans (hb1.mono (by omega))⟩
      case measure => simp [intOf]; omega
    · go_wp2_with fail
      go_ret
      obtain rfl : k = n := by omega
      exact ⟨_, _, rfl, ho.more (by omega), hbel⟩

end Go.Proofs.Ytlndjjdggedljaa

/- WalkJ -/
namespace Go.Proofs.Ytlndjjdggedljaa
open Go.RowKit

set_option maxHeartbeats 4000000 in
theorem rcost_any (K h : Int) (A : Option Addr) (n c : Nat) (cs : List Int) (A' : Option Addr) (c' : Nat) (ds : List Int) (P : Option Addr) (pc : Nat) (ps : List Int) (w : World)
    (hT : Tin w A n c cs A' n c' ds) (hP : Row w P n pc ps) (ok : (tk K h cs ds).Ok n) (hp : PlanIn (pl ps) n) (hn1 : 1 ≤ n) (hn : n ≤ 12) :
    Calls Try.prog 59 #[.agg #[.int .i64 K, .int .i64 h, .slice A n c, .slice A' n c'], .slice P n pc] w fun e w' =>
      e = .returned (.int .i64 ((tk K h cs ds).cost (pl ps) n)) ∧ Below w.heap.size w w' := by
  have HT := hide hT
  have HPr := hide hP
  obtain ⟨b, off, r⟩ := hT.1
  obtain ⟨bp, offp, rp⟩ := hP
  obtain rfl := r.at_ (by omega)
  obtain rfl := rp.at_ (by omega)
  have hcap := r.cap
  have hmax := r.max
  have hcapp := rp.cap
  have hmaxp := rp.max
  have R := hide r
  have RP := hide rp
  have OK := hide ok
  have HP := hide hp
  have hK0 := ok.K0
  have hK1 := ok.K1
  replace hK0 : 0 ≤ K := hK0
  replace hK1 : K ≤ 999 := hK1
  clear hT r rp ok hp
  have B0 := hide ((Below.refl w.heap.size w).alloc (Nat.le_refl _) (.cells #[.int .i64 K, .int .i64 h, .slice (some ⟨b, off, none⟩) n c, .slice A' n c'] 24))
  have K0 := hide (Bk.born w 24 #[.int .i64 K, .int .i64 h, .slice (some ⟨b, off, none⟩) n c, .slice A' n c'])
  go_enter Try.func59, Try.ntmps59
  go_wp2_with fail
  refine (rstock_any K h _ n c cs _ c' ds _ pc ps _ (HT.out.below B0.out (Nat.le_refl _)) (HPr.out.below B0.out (Nat.le_refl _)) OK.out HP.out hn1 hn).mono ?_
  rintro e w2 ⟨A2, c2, rfl, o2, b2⟩
  have B2 := hide (B0.out.trans (b2.mono (by simp)))
  have K2 := hide (K0.out.keep b2 (by simp))
  rcases o2.form with ⟨_, h0, _⟩ | ⟨g, rfl, hg1, hg2, _⟩
  · omega
  have O2 := hide o2
  have RB := hide (R.out.below B2.out (Nat.le_refl _))
  have RPB := hide (RP.out.below B2.out (Nat.le_refl _))
  clear o2 b2 B0 K0
  go_wp2_with fail
  go_loopw [6, 7] (fun s i wr => ∃ k m : Nat, k ≤ n ∧ i = .int .i64 k ∧ s = .int .i64 ((tk K h cs ds).begs (pl ps) k + (tk K h cs ds).runs (pl ps) k) ∧ wr = w2.drewN m) (fun _ i _ => n - (intOf i).toNat)
  case atStart => exact ⟨0, 0, by omega, rfl, by simp [Tk.runs, Tk.begs, sm], rfl⟩
  case round =>
    obtain ⟨k, m, hk, rfl, rfl, rfl⟩ := hrel
    by_cases hlt : k < n
    · have cd := RB.out.cell k hlt
      have cp := RPB.out.cell k hlt
      have cl := O2.out.cell hlt
      rw [← tk_c K h cs ds k] at cd
      rw [show ps.getD k 0 = pl ps k from rfl] at cp
      rw [Tk.stkL_get _ _ hlt] at cl
      have x0 := OK.out.cp_in HP.out hlt
      have x1 := OK.out.hs_in HP.out hn (i := k + 1) (by omega)
      have x2 := OK.out.runs_in HP.out hn (i := k) (by omega)
      have x3 := OK.out.begs_in (p := pl ps) (i := k)
      replace x1 : -12000 ≤ h * (tk K h cs ds).stk (pl ps) (k + 1) ∧ h * (tk K h cs ds).stk (pl ps) (k + 1) ≤ 144000 := x1
      have HS := (tk K h cs ds).runs_succ (pl ps) k
      replace HS : (tk K h cs ds).runs (pl ps) (k + 1) = (tk K h cs ds).runs (pl ps) k + ((tk K h cs ds).c k * pl ps k + h * (tk K h cs ds).stk (pl ps) (k + 1)) := HS
      have HS := hide HS
      have HY := hide (fun e => (tk K h cs ds).begs_yes (p := pl ps) (k := k) e)
      have HY : Hid (0 < pl ps k → (tk K h cs ds).begs (pl ps) (k + 1) = (tk K h cs ds).begs (pl ps) k + K) := HY
      have HN := hide (fun e => (tk K h cs ds).begs_no (p := pl ps) (k := k) e)
      generalize (tk K h cs ds).runs (pl ps) k = x at *
      generalize (tk K h cs ds).begs (pl ps) k = be at *
      generalize (tk K h cs ds).stk (pl ps) (k + 1) = v at *
      generalize (tk K h cs ds).c k = y at *
      generalize pl ps k = z at *
      obtain ⟨k0, k1, k2, k3, _⟩ := K2.out.four
      have w1 : IntKind.i64.wrap (y * z) = y * z := IntWalk.i64_in _ (by omega)
      have w3 : IntKind.i64.wrap (h * v) = h * v := IntWalk.i64_in _ (by omega)
      have w4 : IntKind.i64.wrap (y * z + h * v) = y * z + h * v := IntWalk.i64_in _ (by omega)
      have w5 : IntKind.i64.wrap (be + x + (y * z + h * v)) = be + x + (y * z + h * v) := IntWalk.i64_in _ (by omega)
      have w6 : IntKind.i64.wrap (be + x + K) = be + x + K := IntWalk.i64_in _ (by omega)
      have w7 : IntKind.i64.wrap (be + x + K + (y * z + h * v)) = be + x + K + (y * z + h * v) := IntWalk.i64_in _ (by omega)
      have l2 : (k : Int) < n := by omega
      by_cases hz : 0 < z
      · go_wp2_with fail
        go_quiet (fail)
        clear w1 w3 w4 w5 w6 w7
        go_wp2
        go_roundw
        case rel => exact ⟨k + 1, _, by omega, by go_num, by rw [HS.out, HY.out hz]; go_num, rfl⟩
        case measure => simp [intOf]; omega
      · go_wp2_with fail
        go_quiet (fail)
        clear w1 w3 w4 w5 w6 w7
        go_wp2
        go_roundw
        case rel => exact ⟨k + 1, _, by omega, by go_num, by rw [HS.out, HN.out hz]; go_num, rfl⟩
        case measure => simp [intOf]; omega
    · go_wp2_with fail
      go_ret
      obtain rfl : k = n := by omega
      exact ⟨ret_i64 (by rw [Tk.cost]), below_drewN B2.out _⟩

def FitTo (t : Tk) (p : Nat → Int) (k : Nat) : Prop := ∀ i, i < k → 0 ≤ t.stk p (i + 1)
theorem fitTo_zero (t : Tk) (p : Nat → Int) : FitTo t p 0 := fun _ h => absurd h (Nat.not_lt_zero _)
theorem fitTo_succ {t : Tk} {p : Nat → Int} {k : Nat} (h : FitTo t p k) (e : 0 ≤ t.stk p (k + 1)) : FitTo t p (k + 1) := fun i hi => by
  by_cases hik : i = k
  · subst hik; exact e
  · exact h i (by omega)

set_option maxHeartbeats 4000000 in
theorem rplanned_any (K h : Int) (A : Option Addr) (n c : Nat) (cs : List Int) (A' : Option Addr) (n' c' : Nat) (ds : List Int) (P : Option Addr) (np pc : Nat) (ps : List Int) (w : World)
    (hT : Tin w A n c cs A' n' c' ds) (hP : Row w P np pc ps) :
    Calls Try.prog 58 #[.agg #[.int .i64 K, .int .i64 h, .slice A n c, .slice A' n' c'], .slice P np pc] w fun e w' =>
      e = .returned (.int .i64 (errP K h cs ds ps)) ∧ Below w.heap.size w w' := by
  have HT := hide hT
  have HPr := hide hP
  have L1 := hT.1.length
  have L2 := hT.2.length
  have L3 := hP.length
  have B0 := hide ((Below.refl w.heap.size w).alloc (Nat.le_refl _) (.cells #[.int .i64 K, .int .i64 h, .slice A n c, .slice A' n' c'] 24))
  have K0 := hide (Bk.born w 24 #[.int .i64 K, .int .i64 h, .slice A n c, .slice A' n' c'])
  clear hT hP
  by_cases o : OkT K h cs ds
  case neg =>
    have HV := hide (errP_task (ps := ps) o)
    have HE := hide (errT_no o)
    clear o
    go_enter Try.func58, Try.ntmps58
    go_wp2_with fail
    refine (rValidate_any K h _ n c cs _ n' c' ds _ (HT.out.alloc _)).mono ?_
    rw [HE.out]
    rintro e w1 ⟨rfl, b1⟩
    go_wp2_with fail
    go_ret
    exact ⟨ret_i64 HV.out.symm, B0.out.trans (b1.mono (by simp))⟩
  have hn1 : 1 ≤ n' := by have := o.n1; omega
  have hn2 : n' ≤ 12 := by have := o.n2; omega
  have hcn : cs.length = ds.length := by have := o.c.1; omega
  obtain rfl : n = n' := by omega
  have HE := hide (errT_ok o)
  have HN := hide L2
  by_cases a : AllOk ps ds.length 600
  case neg =>
    have HV := hide (errP_arg (K := K) (h := h) (cs := cs) a)
    have ha := allB_false a
    rw [L2] at ha
    clear o a L1 L2 L3 hcn
    go_enter Try.func58, Try.ntmps58
    go_wp2_with fail
    refine (rValidate_any K h _ n c cs _ n c' ds _ (HT.out.alloc _)).mono ?_
    rw [HE.out]
    rintro e w1 ⟨rfl, b1⟩
    have B1 := hide (B0.out.trans (b1.mono (by simp)))
    have K1 := hide (K0.out.keep b1 (by simp))
    obtain ⟨k0, k1, k2, k3, _⟩ := K1.out.four
    clear b1
    go_wp2_with fail
    refine (rall_any _ np pc ps n 600 _ (HPr.out.below B1.out (Nat.le_refl _))).mono ?_
    rw [ha]
    rintro e w2 ⟨rfl, rfl⟩
    go_wp2_with fail
    go_ret
    exact ⟨ret_i64 HV.out.symm, B1.out⟩
  have ha := allB_true a
  rw [L2] at ha
  obtain rfl : np = n := by have := a.1; omega
  have OT := hide o
  have OK := hide (by have := o.tk; rw [L2] at this; exact this)
  have AL := hide a
  have HPl := hide (by have := a.plan; rw [L2] at this; exact this)
  have HF := hide (fun (f : (tk K h cs ds).Fit (pl ps) np) => errP_ok o a (by rw [L2]; exact f))
  have HFn := hide (fun (f : ¬ (tk K h cs ds).Fit (pl ps) np) => errP_rule o a (by rw [L2]; exact f))
  clear o a L1 L2 L3 hcn
  go_enter Try.func58, Try.ntmps58
  go_wp2_with fail
  refine (rValidate_any K h _ np c cs _ np c' ds _ (HT.out.alloc _)).mono ?_
  rw [HE.out]
  rintro e w1 ⟨rfl, b1⟩
  have B1 := hide (B0.out.trans (b1.mono (by simp)))
  have K1 := hide (K0.out.keep b1 (by simp))
  obtain ⟨k0, k1, k2, k3, _⟩ := K1.out.four
  clear b1
  go_wp2_with fail
  refine (rall_any _ np pc ps np 600 _ (HPr.out.below B1.out (Nat.le_refl _))).mono ?_
  rw [ha]
  rintro e w2 ⟨rfl, rfl⟩
  go_wp2_with fail
  refine (rstock_any K h _ np c cs _ c' ds _ pc ps _ (HT.out.below B1.out (Nat.le_refl _)) (HPr.out.below B1.out (Nat.le_refl _)) OK.out HPl.out hn1 hn2).mono ?_
  rintro e w2 ⟨A2, c2, rfl, o2, b2⟩
  have B2 := hide (B1.out.trans (b2.mono B1.out.size))
  rcases o2.form with ⟨_, h0, _⟩ | ⟨g, rfl, hg1, hg2, _⟩
  · omega
  have O2 := hide o2
  clear o2 b2 k0 k1 k2 k3 K1 B1
  go_wp2_with fail
  go_loop [7] (fun i => ∃ k : Nat, k ≤ np ∧ i = .int .i64 k ∧ FitTo (tk K h cs ds) (pl ps) k) (fun i => np - (intOf i).toNat)
  case atStart => exact ⟨0, by omega, rfl, fitTo_zero _ _⟩
  case round =>
    obtain ⟨k, hk, rfl, ht⟩ := hrel
    have HTT := hide ht
    clear ht
    by_cases hlt : k < np
    · have cl := O2.out.cell hlt
      rw [Tk.stkL_get _ _ hlt] at cl
      have HY := hide (fun e => fitTo_succ HTT.out (k := k) e)
      have HN' := hide (fun (e : (tk K h cs ds).stk (pl ps) (k + 1) < 0) => HFn.out fun f => by have := f.1 k hlt; omega)
      generalize (tk K h cs ds).stk (pl ps) (k + 1) = y at *
      by_cases hz : y < 0
      · go_wp2_with fail
        go_ret
        exact ⟨ret_i64 (HN'.out hz).symm, B2.out⟩
      · go_wp2_with fail
        go_round
        case rel => exact ⟨k + 1, by omega, by go_num, HY.out (by omega)⟩
        case measure => simp [intOf]; omega
    · obtain rfl : k = np := by omega
      have cl := O2.out.cell (k := k - 1) (by omega)
      rw [Tk.stkL_get _ _ (by omega), show k - 1 + 1 = k from by omega] at cl
      have HV := hide (fun (hz : (tk K h cs ds).stk (pl ps) k = 0) => HF.out ⟨HTT.out, hz⟩)
      have HVn := hide (fun (hz : ¬ (tk K h cs ds).stk (pl ps) k = 0) => HFn.out fun f => hz f.2)
      generalize (tk K h cs ds).stk (pl ps) k = v at *
      have w1 : IntKind.i64.wrap ((k : Int) - 1) = ((k - 1 : Nat) : Int) := by rw [IntWalk.i64_in _ (by omega)]; omega
      have l2 : ((k - 1 : Nat) : Int) < k := by omega
      by_cases hv : v = 0
      · go_wp2_with fail
        go_ret
        exact ⟨ret_i64 (HV.out hv).symm, B2.out⟩
      · have hv' : (v != 0) = true := by simpa using hv
        go_wp2_with fail
        go_ret
        exact ⟨ret_i64 (HVn.out hv).symm, B2.out⟩

end Go.Proofs.Ytlndjjdggedljaa

/- WalkK -/
namespace Go.Proofs.Ytlndjjdggedljaa
open Go.RowKit

section
variable (K h : Int) (A : Option Addr) (n c : Nat) (cs : List Int) (A' : Option Addr) (n' c' : Nat) (ds : List Int) (P : Option Addr) (np pc : Nat) (ps : List Int) (w : World)
    (hT : Tin w A n c cs A' n' c' ds) (hP : Row w P np pc ps)
include hT hP

set_option maxHeartbeats 2000000 in
theorem rCheckPlan_any :
    Calls Try.prog 21 #[.agg #[.int .i64 K, .int .i64 h, .slice A n c, .slice A' n' c'], .slice P np pc] w (NumPost (okv (errP K h cs ds ps) ((tk K h cs ds).cost (pl ps) ds.length)) (errP K h cs ds ps) w) := by
  have HT := hide hT
  have HPr := hide hP
  have L1 := hT.1.length
  have L2 := hT.2.length
  have L3 := hP.length
  have B0 := hide ((Below.refl w.heap.size w).alloc (Nat.le_refl _) (.cells #[.int .i64 K, .int .i64 h, .slice A n c, .slice A' n' c'] 24))
  have K0 := hide (Bk.born w 24 #[.int .i64 K, .int .i64 h, .slice A n c, .slice A' n' c'])
  clear hT hP
  by_cases he : errP K h cs ds ps = 0
  case neg =>
    have HE := hide he
    have he' : (errP K h cs ds ps != 0) = true := by simpa using he
    clear he
    go_enter Try.func21, Try.ntmps21
    go_wp2_with fail
    refine (rplanned_any K h _ n c cs _ n' c' ds _ np pc ps _ (HT.out.alloc _) (HPr.out.alloc _)).mono ?_
    rintro e w1 ⟨rfl, b1⟩
    go_wp2_with fail
    go_ret2
    exact ⟨ret2_ii (okv_ne HE.out _).symm rfl, B0.out.trans (b1.mono (by simp))⟩
  obtain ⟨o, a, f⟩ := errP_zero he
  have hn1 : 1 ≤ n' := by have := o.n1; omega
  have hn2 : n' ≤ 12 := by have := o.n2; omega
  obtain rfl : n = n' := by have := o.c.1; omega
  obtain rfl : np = n := by have := a.1; omega
  have OK := hide (by have := o.tk; rw [L2] at this; exact this)
  have HPl := hide (by have := a.plan; rw [L2] at this; exact this)
  have HE := hide he
  have HN := hide L2
  clear o a f he L1 L3
  go_enter Try.func21, Try.ntmps21
  go_wp2_with fail
  refine (rplanned_any K h _ np c cs _ np c' ds _ np pc ps _ (HT.out.alloc _) (HPr.out.alloc _)).mono ?_
  rw [HE.out]
  rintro e w1 ⟨rfl, b1⟩
  have B1 := hide (B0.out.trans (b1.mono (by simp)))
  have K1 := hide (K0.out.keep b1 (by simp))
  obtain ⟨k0, k1, k2, k3, _⟩ := K1.out.four
  clear b1
  go_wp2_with fail
  refine (rcost_any K h _ np c cs _ c' ds _ pc ps _ (HT.out.below B1.out (Nat.le_refl _)) (HPr.out.below B1.out (Nat.le_refl _)) OK.out HPl.out hn1 hn2).mono ?_
  rintro e w2 ⟨rfl, b2⟩
  go_wp2_with fail
  go_ret2
  exact ⟨ret2_ii (by rw [okv_zero HE.out, HN.out]) HE.out.symm, B1.out.trans (b2.mono B1.out.size)⟩

set_option maxHeartbeats 2000000 in
theorem rStock_any :
    Calls Try.prog 25 #[.agg #[.int .i64 K, .int .i64 h, .slice A n c, .slice A' n' c'], .slice P np pc] w (ListPost (okl (errP K h cs ds ps) ((tk K h cs ds).stkL (pl ps) ds.length)) (errP K h cs ds ps) w) := by
  have HT := hide hT
  have HPr := hide hP
  have L1 := hT.1.length
  have L2 := hT.2.length
  have L3 := hP.length
  have B0 := hide ((Below.refl w.heap.size w).alloc (Nat.le_refl _) (.cells #[.int .i64 K, .int .i64 h, .slice A n c, .slice A' n' c'] 24))
  have K0 := hide (Bk.born w 24 #[.int .i64 K, .int .i64 h, .slice A n c, .slice A' n' c'])
  clear hT hP
  by_cases he : errP K h cs ds ps = 0
  case neg =>
    have HE := hide he
    have he' : (errP K h cs ds ps != 0) = true := by simpa using he
    clear he
    go_enter Try.func25, Try.ntmps25
    go_wp2_with fail
    refine (rplanned_any K h _ n c cs _ n' c' ds _ np pc ps _ (HT.out.alloc _) (HPr.out.alloc _)).mono ?_
    rintro e w1 ⟨rfl, b1⟩
    go_wp2_with fail
    go_ret2
    exact ⟨none, 0, 0, rfl, by rw [okl_ne HE.out]; exact Own.nil _ _, B0.out.trans (b1.mono (by simp))⟩
  obtain ⟨o, a, f⟩ := errP_zero he
  have hn1 : 1 ≤ n' := by have := o.n1; omega
  have hn2 : n' ≤ 12 := by have := o.n2; omega
  obtain rfl : n = n' := by have := o.c.1; omega
  obtain rfl : np = n := by have := a.1; omega
  have OK := hide (by have := o.tk; rw [L2] at this; exact this)
  have HPl := hide (by have := a.plan; rw [L2] at this; exact this)
  have HE := hide he
  have HN := hide L2
  clear o a f he L1 L3
  go_enter Try.func25, Try.ntmps25
  go_wp2_with fail
  refine (rplanned_any K h _ np c cs _ np c' ds _ np pc ps _ (HT.out.alloc _) (HPr.out.alloc _)).mono ?_
  rw [HE.out]
  rintro e w1 ⟨rfl, b1⟩
  have B1 := hide (B0.out.trans (b1.mono (by simp)))
  have K1 := hide (K0.out.keep b1 (by simp))
  obtain ⟨k0, k1, k2, k3, _⟩ := K1.out.four
  clear b1
  go_wp2_with fail
  refine (rstock_any K h _ np c cs _ c' ds _ pc ps _ (HT.out.below B1.out (Nat.le_refl _)) (HPr.out.below B1.out (Nat.le_refl _)) OK.out HPl.out hn1 hn2).mono ?_
  rintro e w2 ⟨A2, c2, rfl, o2, b2⟩
  go_wp2_with fail
  go_ret2
  exact ⟨_, _, _, by rw [HE.out]; rfl, by rw [okl_zero HE.out, HN.out]; exact o2.more B1.out.size, B1.out.trans (b2.mono B1.out.size)⟩

set_option maxHeartbeats 2000000 in
theorem rStarts_any :
    Calls Try.prog 27 #[.agg #[.int .i64 K, .int .i64 h, .slice A n c, .slice A' n' c'], .slice P np pc] w (ListPost (okl (errP K h cs ds ps) (pumpL (pl ps) ds.length)) (errP K h cs ds ps) w) := by
  have HT := hide hT
  have HPr := hide hP
  have L1 := hT.1.length
  have L2 := hT.2.length
  have L3 := hP.length
  have B0 := hide ((Below.refl w.heap.size w).alloc (Nat.le_refl _) (.cells #[.int .i64 K, .int .i64 h, .slice A n c, .slice A' n' c'] 24))
  have K0 := hide (Bk.born w 24 #[.int .i64 K, .int .i64 h, .slice A n c, .slice A' n' c'])
  clear hT hP
  by_cases he : errP K h cs ds ps = 0
  case neg =>
    have HE := hide he
    have he' : (errP K h cs ds ps != 0) = true := by simpa using he
    clear he
    go_enter Try.func27, Try.ntmps27
    go_wp2_with fail
    refine (rplanned_any K h _ n c cs _ n' c' ds _ np pc ps _ (HT.out.alloc _) (HPr.out.alloc _)).mono ?_
    rintro e w1 ⟨rfl, b1⟩
    go_wp2_with fail
    go_ret2
    exact ⟨none, 0, 0, rfl, by rw [okl_ne HE.out]; exact Own.nil _ _, B0.out.trans (b1.mono (by simp))⟩
  obtain ⟨o, a, f⟩ := errP_zero he
  have hn1 : 1 ≤ n' := by have := o.n1; omega
  have hn2 : n' ≤ 12 := by have := o.n2; omega
  obtain rfl : n = n' := by have := o.c.1; omega
  obtain rfl : np = n := by have := a.1; omega
  have OK := hide (by have := o.tk; rw [L2] at this; exact this)
  have HPl := hide (by have := a.plan; rw [L2] at this; exact this)
  have HE := hide he
  have HN := hide L2
  clear o a f he L1 L3
  go_enter Try.func27, Try.ntmps27
  go_wp2_with fail
  refine (rplanned_any K h _ np c cs _ np c' ds _ np pc ps _ (HT.out.alloc _) (HPr.out.alloc _)).mono ?_
  rw [HE.out]
  rintro e w1 ⟨rfl, b1⟩
  have B1 := hide (B0.out.trans (b1.mono (by simp)))
  have K1 := hide (K0.out.keep b1 (by simp))
  obtain ⟨k0, k1, k2, k3, _⟩ := K1.out.four
  clear b1
  have RP := hide (HPr.out.below B1.out (Nat.le_refl _))
  obtain ⟨bp, offp, rp⟩ := RP.out
  obtain rfl := rp.at_ (by omega)
  have RPA := hide rp
  have hcapp := rp.cap
  have hmaxp := rp.max
  clear rp k0 k1 k2 k3
  go_wp2_with fail
  go_loopw [7, 8] (fun v i wr => ∃ (k m : Nat) (A1 : Option Addr) (c1 : Nat), k ≤ np ∧ i = .int .i64 k ∧ v = .slice A1 m c1 ∧ m ≤ k ∧ Own wr w1.heap.size A1 m c1 (pumpL (pl ps) k) ∧ Below w1.heap.size w1 wr) (fun _ i _ => np - (intOf i).toNat)
  case atStart => exact ⟨0, 0, none, 0, Nat.zero_le _, rfl, rfl, Nat.le_refl _, Own.nil _ _, Below.refl _ _⟩
  case round =>
    obtain ⟨k, m, A1, c1, hk, rfl, rfl, hm, hown, hb⟩ := hrel
    by_cases hlt : k < np
    · have cp := (RPA.out.below hb (Nat.le_refl _)).cell k hlt
      rw [show ps.getD k 0 = pl ps k from rfl] at cp
      have HY := hide (fun h => pumpL_yes (p := pl ps) (k := k) h)
      have HN := hide (fun h => pumpL_no (p := pl ps) (k := k) h)
      generalize pl ps k = z at *
      have hsz := hb.size
      by_cases hz : 0 < z
      · go_wp2_with (at_builtin; refine wpList_app1 _ rfl (.tmp 26) (.tmp 28) rfl w1.heap.size m c1 A1 _ _ rfl rfl hown (by omega) hsz ?_; intro A2 c2 w2 hown1 hb1 hg1)
        go_roundw
        case rel => exact ⟨k + 1, m + 1, A2, c2, by omega, by go_num, by go_num, by omega, by rw [HY.out hz]; exact hown1, hb.trans (hb1.mono (by omega))⟩
        case measure => simp [intOf]; omega
      · go_wp2
        go_roundw
        case rel => exact ⟨k + 1, m, A1, c1, by omega, by go_num, by go_num, by omega, by rw [HN.out hz]; exact hown, hb⟩
        case measure => simp [intOf]; omega
    · obtain rfl : k = np := by omega
      go_wp2_with fail
      go_ret2
      exact ⟨_, _, _, by rw [HE.out]; rfl, by rw [okl_zero HE.out]; (try rw [HN.out]); exact hown.more B1.out.size, B1.out.trans (hb.mono B1.out.size)⟩

set_option maxHeartbeats 2000000 in
theorem rIsTidy_any :
    Calls Try.prog 29 #[.agg #[.int .i64 K, .int .i64 h, .slice A n c, .slice A' n' c'], .slice P np pc] w (BoolPost (okb (errP K h cs ds ps) (decide ((tk K h cs ds).Tidy (pl ps) ds.length))) (errP K h cs ds ps) w) := by
  have HT := hide hT
  have HPr := hide hP
  have L1 := hT.1.length
  have L2 := hT.2.length
  have L3 := hP.length
  have B0 := hide ((Below.refl w.heap.size w).alloc (Nat.le_refl _) (.cells #[.int .i64 K, .int .i64 h, .slice A n c, .slice A' n' c'] 24))
  have K0 := hide (Bk.born w 24 #[.int .i64 K, .int .i64 h, .slice A n c, .slice A' n' c'])
  clear hT hP
  by_cases he : errP K h cs ds ps = 0
  case neg =>
    have HE := hide he
    have he' : (errP K h cs ds ps != 0) = true := by simpa using he
    clear he
    go_enter Try.func29, Try.ntmps29
    go_wp2_with fail
    refine (rplanned_any K h _ n c cs _ n' c' ds _ np pc ps _ (HT.out.alloc _) (HPr.out.alloc _)).mono ?_
    rintro e w1 ⟨rfl, b1⟩
    go_wp2_with fail
    go_ret2
    exact ⟨ret2_bi (okb_ne HE.out _).symm rfl, B0.out.trans (b1.mono (by simp))⟩
  obtain ⟨o, a, f⟩ := errP_zero he
  have hn1 : 1 ≤ n' := by have := o.n1; omega
  have hn2 : n' ≤ 12 := by have := o.n2; omega
  obtain rfl : n = n' := by have := o.c.1; omega
  obtain rfl : np = n := by have := a.1; omega
  have OK := hide (by have := o.tk; rw [L2] at this; exact this)
  have HPl := hide (by have := a.plan; rw [L2] at this; exact this)
  have HE := hide he
  have HN := hide L2
  clear o a f he L1 L3
  go_enter Try.func29, Try.ntmps29
  go_wp2_with fail
  refine (rplanned_any K h _ np c cs _ np c' ds _ np pc ps _ (HT.out.alloc _) (HPr.out.alloc _)).mono ?_
  rw [HE.out]
  rintro e w1 ⟨rfl, b1⟩
  have B1 := hide (B0.out.trans (b1.mono (by simp)))
  have K1 := hide (K0.out.keep b1 (by simp))
  obtain ⟨k0, k1, k2, k3, _⟩ := K1.out.four
  clear b1
  go_wp2_with fail
  refine (rstock_any K h _ np c cs _ c' ds _ pc ps _ (HT.out.below B1.out (Nat.le_refl _)) (HPr.out.below B1.out (Nat.le_refl _)) OK.out HPl.out hn1 hn2).mono ?_
  rintro e w2 ⟨A2, c2, rfl, o2, b2⟩
  have B2 := hide (B1.out.trans (b2.mono B1.out.size))
  rcases o2.form with ⟨_, h0, _⟩ | ⟨g, rfl, hg1, hg2, _⟩
  · omega
  have O2 := hide o2
  have RP := hide (HPr.out.below B2.out (Nat.le_refl _))
  obtain ⟨bp, offp, rp⟩ := RP.out
  obtain rfl := rp.at_ (by omega)
  have RPA := hide rp
  clear k0 k1 k2 k3 o2 b2 rp
  go_wp2_with fail
  go_loop [8] (fun i => ∃ k : Nat, 1 ≤ k ∧ k ≤ np ∧ i = .int .i64 k ∧ TidyTo (tk K h cs ds) (pl ps) k) (fun i => np - (intOf i).toNat)
  case atStart => exact ⟨1, by omega, by omega, rfl, tidyTo_one _ _⟩
  case round =>
    obtain ⟨k, hk1, hk, rfl, ht⟩ := hrel
    have HTT := hide ht
    clear ht
    by_cases hlt : k < np
    · have cp := RPA.out.cell k hlt
      have cl := O2.out.cell (k := k - 1) (by omega)
      rw [show ps.getD k 0 = pl ps k from rfl] at cp
      rw [Tk.stkL_get _ _ (by omega), show k - 1 + 1 = k by omega] at cl
      have HY := hide (fun e => tidyTo_succ HTT.out (k := k) e)
      have HN' := hide (fun (e : 0 < pl ps k ∧ 0 < (tk K h cs ds).stk (pl ps) k) => decide_eq_false (p := (tk K h cs ds).Tidy (pl ps) np) fun f => f k hlt e)
      generalize (tk K h cs ds).stk (pl ps) k = x at *
      generalize pl ps k = z at *
      have w1 : IntKind.i64.wrap ((k : Int) - 1) = ((k - 1 : Nat) : Int) := by rw [IntWalk.i64_in _ (by omega)]; omega
      have l2 : ((k - 1 : Nat) : Int) < np := by omega
      by_cases hz : 0 < z
      · by_cases hx : 0 < x
        · go_wp2_with fail
          go_ret2
          exact ⟨ret2_bi (by rw [okb_zero HE.out]; (try rw [HN.out]); exact (HN'.out ⟨hz, hx⟩).symm) HE.out.symm, B2.out⟩
        · go_wp2_with fail
          go_round
          case rel => exact ⟨k + 1, by omega, by omega, by go_num, HY.out fun e => hx e.2⟩
          case measure => simp [intOf]; omega
      · go_wp2_with fail
        go_round
        case rel => exact ⟨k + 1, by omega, by omega, by go_num, HY.out fun e => hz e.1⟩
        case measure => simp [intOf]; omega
    · obtain rfl : k = np := by omega
      go_wp2_with fail
      go_ret2
      exact ⟨ret2_bi (by rw [okb_zero HE.out]; (try rw [HN.out]); exact (decide_eq_true (p := (tk K h cs ds).Tidy (pl ps) k) HTT.out).symm) HE.out.symm, B2.out⟩

end

end Go.Proofs.Ytlndjjdggedljaa

/- WalkL -/
namespace Go.Proofs.Ytlndjjdggedljaa
open Go.RowKit

set_option maxHeartbeats 4000000 in
theorem together_any (K h : Int) (A : Option Addr) (n c : Nat) (cs : List Int) (A' : Option Addr) (c' : Nat) (ds : List Int) (s e : Nat) (w : World)
    (hT : Tin w A n c cs A' n c' ds) (ok : (tk K h cs ds).Ok n) (hse : s ≤ e) (hen : e ≤ n) (hn1 : 1 ≤ n) (hn : n ≤ 12) :
    Calls Try.prog 83 #[.agg #[.int .i64 K, .int .i64 h, .slice A n c, .slice A' n c'], .int .i64 s, .int .i64 e] w fun en w' =>
      en = .returned (.int .i64 ((tk K h cs ds).tog s e)) ∧ Below w.heap.size w w' := by
  have HT := hide hT
  obtain ⟨b, off, r⟩ := hT.2
  obtain rfl := r.at_ (by omega)
  have hcap := r.cap
  have hmax := r.max
  have R := hide r
  have OK := hide ok
  have hK0 := ok.K0
  have hK1 := ok.K1
  replace hK0 : 0 ≤ K := hK0
  replace hK1 : K ≤ 999 := hK1
  clear hT r ok
  have B0 := hide ((Below.refl w.heap.size w).alloc (Nat.le_refl _) (.cells #[.int .i64 K, .int .i64 h, .slice A n c, .slice (some ⟨b, off, none⟩) n c'] 24))
  have K0 := hide (Bk.born w 24 #[.int .i64 K, .int .i64 h, .slice A n c, .slice (some ⟨b, off, none⟩) n c'])
  go_enter Try.func83, Try.ntmps83
  go_wp2_with fail
  go_loopw [7, 8, 9] (fun u v i wr => ∃ k : Nat, s ≤ k ∧ k ≤ e ∧ i = .int .i64 k ∧ u = .int .i64 ((tk K h cs ds).units s k) ∧ v = .int .i64 ((tk K h cs ds).save s k) ∧
      Bk wr w.heap.size 24 #[.int .i64 K, .int .i64 h, .slice A n c, .slice (some ⟨b, off, none⟩) n c'] ∧ Below w.heap.size w wr) (fun _ _ i _ => e - (intOf i).toNat)
  case atStart => exact ⟨s, by omega, by omega, rfl, by simp [Tk.units, sm_self], by simp [Tk.save, sm_self], K0.out, B0.out⟩
  case round =>
    obtain ⟨k, hk0, hk, rfl, rfl, rfl, hb, hbel⟩ := hrel
    have u0 := OK.out.units0 s (m := k) (by omega)
    have u1 := OK.out.units1 s (m := k) (by omega) hn
    have s0 := OK.out.save0 s (m := k) (by omega)
    have s1 := OK.out.save1 s (m := k) (by omega) hn
    by_cases hlt : k < e
    · have d0 := OK.out.d0 k (by omega)
      have d1 := OK.out.d1 k (by omega)
      have x0 := OK.out.dw0 (s := s) (u := k) (by omega) (by omega)
      have x1 := OK.out.dw1 (s := s) (u := k) (by omega) (by omega) hn
      have US := hide (Tk.units_succ (t := tk K h cs ds) (s := s) (u := k) (by omega))
      have SS := hide (Tk.save_succ (t := tk K h cs ds) (s := s) (u := k) (by omega))
      have cd := (R.out.below hbel (Nat.le_refl _)).cell k (by omega)
      rw [← tk_d K h cs ds k] at cd
      have HW := hide (fun W hw => way_any K h A n c cs (some ⟨b, off, none⟩) n c' ds s k W hw OK.out (by omega) (by omega) hn)
      generalize (tk K h cs ds).units s k = u at *
      generalize (tk K h cs ds).save s k = v at *
      generalize (tk K h cs ds).d k = y at *
      generalize (tk K h cs ds).way s k = z at *
      obtain ⟨k0, k1, k2, k3, kin⟩ := hb.four
      have HB := hide hb
      have HBL := hide hbel
      have HTR := hide (HT.out.below hbel (Nat.le_refl _))
      have hbx : b < wr.heap.size := (R.out.below hbel (Nat.le_refl _)).lt (by omega)
      have hsz := hbel.size
      clear hb hbel
      have w1 : IntKind.i64.wrap (u + y) = u + y := IntWalk.i64_in _ (by omega)
      have w2 : IntKind.i64.wrap (y * z) = y * z := IntWalk.i64_in _ (by omega)
      have w3 : IntKind.i64.wrap (v + y * z) = v + y * z := IntWalk.i64_in _ (by omega)
      have l2 : (k : Int) < n := by omega
      go_wp2_with fail
      go_region_held3 (fun w' => w'.cell? ⟨w.heap.size, 0, none⟩ = some (.int .i64 K) ∧ w'.cell? ⟨w.heap.size, 1, none⟩ = some (.int .i64 h) ∧ w'.cell? ⟨w.heap.size, 2, none⟩ = some (.slice A n c) ∧ w'.cell? ⟨w.heap.size, 3, none⟩ = some (.slice (some ⟨b, off, none⟩) n c') ∧ w'.cell? ⟨b, off + k, none⟩ = some (.int .i64 y))
        (first
          | go_keep
          | (go_split_ands
             refine ⟨?_, ?_, ?_, ?_, ?_⟩ <;> (rw [hb8.cell (by simp; omega)]; assumption)))
        (first
          | (go_at_call 87; refine (HW.out _ (HTR.out.below (below_drewN (Below.refl wr.heap.size wr) 1) (Nat.le_refl _))).mono ?_; rintro e8 w8 ⟨rfl, hb8⟩))
      all_goals
        clear w1 w2 w3
        go_wp2_with fail
        go_roundw
        case rel => exact ⟨k + 1, by omega, by omega, by go_num, by rw [US.out], by rw [SS.out], (HB.out.draws 1).keep hb8 kin, (below_drewN HBL.out 1).trans (hb8.mono (by simp; omega))⟩
        case measure => simp [intOf]; omega
    · obtain rfl : k = e := by omega
      obtain ⟨k0, k1, k2, k3, kin⟩ := hb.four
      have HZ := hide (fun (x : (tk K h cs ds).units s k = 0) => (show (tk K h cs ds).tog s k = 0 by unfold Tk.tog; rw [if_pos x]))
      have HZn := hide (fun (x : ¬ (tk K h cs ds).units s k = 0) => (show (tk K h cs ds).tog s k = K + (tk K h cs ds).save s k by unfold Tk.tog; rw [if_neg x]; rfl))
      generalize (tk K h cs ds).units s k = u at *
      generalize (tk K h cs ds).save s k = v at *
      by_cases hu : u = 0
      · go_wp2_with fail
        go_ret
        exact ⟨ret_i64 (HZ.out hu).symm, hbel⟩
      · go_wp2_with fail
        go_ret
        exact ⟨ret_i64 (by rw [HZn.out hu]), hbel⟩

end Go.Proofs.Ytlndjjdggedljaa

/- WalkM -/
namespace Go.Proofs.Ytlndjjdggedljaa
open Go.RowKit

/-- Which least costs are known: those up to m. -/
def knL (n m : Nat) : List Value := (List.range (n + 1)).map fun j => Value.bool (decide (j ≤ m))
theorem knL_get {n m j : Nat} (h : j ≤ n) : (knL n m)[j]? = some (.bool (decide (j ≤ m))) := by
  simp [knL, show j < n + 1 by omega]
theorem knL_set {n m : Nat} (h : m + 1 ≤ n) : (knL n m).set (m + 1) (.bool true) = knL n (m + 1) := by
  refine List.ext_getElem? fun j => ?_
  rw [List.getElem?_set]
  by_cases hj : j ≤ n
  · rw [knL_get hj, knL_get hj]
    by_cases e : m + 1 = j
    · subst e; simp [knL, show m + 1 < n + 1 by omega]
    · rw [if_neg e]
      have : (j ≤ m) ↔ (j ≤ m + 1) := by omega
      simp [this]
  · have l1 : (knL n m)[j]? = none := List.getElem?_eq_none (by simp [knL]; omega)
    have l2 : (knL n (m + 1))[j]? = none := List.getElem?_eq_none (by simp [knL]; omega)
    rw [l1, l2, if_neg (by omega)]

/-- The table of the call: where its parts lie, and what they hold. -/
structure St (w : World) (B n : Nat) (task : Array Value) (gr gt gk gb gf gc gl gn : Nat) (m : Nat) (cl ll : List Int) : Prop where
  r : Bk w gr 64 #[.slice none 0 0, .slice none 0 0]
  t : Bk w gt 24 task
  k : Bk w gk 77 #[.slice (some ⟨gn, 0, none⟩) (n + 1) (n + 1)]
  b : Bk w gb 64 #[.slice (some ⟨gc, 0, none⟩) (n + 1) (n + 1), .slice (some ⟨gl, 0, none⟩) (n + 1) (n + 1)]
  f : Bk w gf 78 #[.func (.func 82) #[] #[.pointer (some ⟨gk, 0, none⟩), .pointer (some ⟨gb, 0, none⟩), .pointer (some ⟨gf, 0, none⟩), .pointer (some ⟨gt, 0, none⟩)]]
  c : Own w B (some ⟨gc, 0, none⟩) (n + 1) (n + 1) cl
  l : Own w B (some ⟨gl, 0, none⟩) (n + 1) (n + 1) ll
  n : w.ownsRow B 4 1 (.slice (some ⟨gn, 0, none⟩) (n + 1) (n + 1)) (n + 1) (knL n m)
/-- The parts lie apart. -/
structure Apart (gr gt gk gb gf gc gl gn : Nat) : Prop where
  rc : gr ≠ gc
  rl : gr ≠ gl
  rn : gr ≠ gn
  tc : gt ≠ gc
  tl : gt ≠ gl
  tn : gt ≠ gn
  kc : gk ≠ gc
  kl : gk ≠ gl
  kn : gk ≠ gn
  bc : gb ≠ gc
  bl : gb ≠ gl
  bn : gb ≠ gn
  fc : gf ≠ gc
  fl : gf ≠ gl
  fn : gf ≠ gn
  cl : gc ≠ gl
  cn : gc ≠ gn
  ln : gl ≠ gn
section
variable {w w' : World} {B n : Nat} {task : Array Value} {gr gt gk gb gf gc gl gn m : Nat} {cl ll : List Int}
theorem St.keep (h : St w B n task gr gt gk gb gf gc gl gn m cl ll) (hb : Below w.heap.size w w') : St w' B n task gr gt gk gb gf gc gl gn m cl ll :=
  ⟨h.r.keep hb h.r.in_, h.t.keep hb h.t.in_, h.k.keep hb h.k.in_, h.b.keep hb h.b.in_, h.f.keep hb h.f.in_, h.c.below hb (Nat.le_refl _), h.l.below hb (Nat.le_refl _),
    World.ownsRow.kept h.n (grown_of_below hb (Nat.le_refl _) none) (by simp [Value.ownBlock])⟩
theorem St.draws (h : St w B n task gr gt gk gb gf gc gl gn m cl ll) (k : Nat) : St (w.drewN k) B n task gr gt gk gb gf gc gl gn m cl ll :=
  ⟨h.r.draws k, h.t.draws k, h.k.draws k, h.b.draws k, h.f.draws k, h.c.drewN k, h.l.drewN k, h.n⟩
theorem St.draw (h : St w B n task gr gt gk gb gf gc gl gn m cl ll) : St w.drew B n task gr gt gk gb gf gc gl gn m cl ll :=
  ⟨h.r.draw, h.t.draw, h.k.draw, h.b.draw, h.f.draw, h.c.drew, h.l.drew, h.n⟩
theorem ownsRow_ge {e : TypeId} {size g c k : Nat} {l : List Value} (h : w.ownsRow B e size (.slice (some ⟨g, 0, none⟩) k c) k l) : B ≤ g := by
  rcases h.2 with ⟨h2, _⟩ | ⟨g', cap, cur, hv, hb, _⟩
  · simp at h2
  · simp at hv
    omega
theorem St.ge (h : St w B n task gr gt gk gb gf gc gl gn m cl ll) : B ≤ gc ∧ B ≤ gl ∧ B ≤ gn := ⟨ownsRow_ge h.c, ownsRow_ge h.l, ownsRow_ge h.n⟩
theorem ownsRow_apart {e : TypeId} {size : Nat} {v : Value} {k : Nat} {l : List Value} {p : Addr} (h : w.ownsRow B e size v k l) (hp : v.ownBlock ≠ some p.block) (u : Value) : (w.setCell p u).ownsRow B e size v k l := by
  refine ⟨h.1, ?_⟩
  rcases h.2 with h2 | ⟨g, cap, cur, hv, hb, hg, r⟩
  · exact .inl h2
  · refine .inr ⟨g, cap, cur, hv, hb, ?_, r⟩
    refine (Below.heap_setCell w p u g ?_).trans hg
    rintro rfl
    subst hv
    simp [Value.ownBlock] at hp
theorem Own.apart {A : Option Addr} {k c : Nat} {l : List Int} {p : Addr} (h : Own w B A k c l) (hp : (Value.slice A k c).ownBlock ≠ some p.block) (u : Value) : Own (w.setCell p u) B A k c l := ownsRow_apart h hp u
theorem St.setC (h : St w B n task gr gt gk gb gf gc gl gn m cl ll) (ap : Apart gr gt gk gb gf gc gl gn) (i : Nat) (x : Int) : St (w.setCell ⟨gc, i, none⟩ (.int .i64 x)) B n task gr gt gk gb gf gc gl gn m (cl.set i x) ll :=
  ⟨h.r.apart ap.rc _, h.t.apart ap.tc _, h.k.apart ap.kc _, h.b.apart ap.bc _, h.f.apart ap.fc _, h.c.stored i x, h.l.apart (by simpa [Value.ownBlock] using ap.cl.symm) _, ownsRow_apart h.n (by simpa [Value.ownBlock] using ap.cn.symm) _⟩
theorem St.setL (h : St w B n task gr gt gk gb gf gc gl gn m cl ll) (ap : Apart gr gt gk gb gf gc gl gn) (i : Nat) (x : Int) : St (w.setCell ⟨gl, i, none⟩ (.int .i64 x)) B n task gr gt gk gb gf gc gl gn m cl (ll.set i x) :=
  ⟨h.r.apart ap.rl _, h.t.apart ap.tl _, h.k.apart ap.kl _, h.b.apart ap.bl _, h.f.apart ap.fl _, h.c.apart (by simpa [Value.ownBlock] using ap.cl) _, h.l.stored i x, ownsRow_apart h.n (by simpa [Value.ownBlock] using ap.ln.symm) _⟩
theorem St.setN (h : St w B n task gr gt gk gb gf gc gl gn m cl ll) (ap : Apart gr gt gk gb gf gc gl gn) (hm : m + 1 ≤ n) : St (w.setCell ⟨gn, m + 1, none⟩ (.bool true)) B n task gr gt gk gb gf gc gl gn (m + 1) cl ll :=
  ⟨h.r.apart ap.rn _, h.t.apart ap.tn _, h.k.apart ap.kn _, h.b.apart ap.bn _, h.f.apart ap.fn _, h.c.apart (by simpa [Value.ownBlock] using ap.cn) _, h.l.apart (by simpa [Value.ownBlock] using ap.ln) _, by
    have e := (World.ownsRow.stored h.n (m + 1) (.bool true)).1
    rw [knL_set hm] at e
    exact e⟩
theorem St.known (h : St w B n task gr gt gk gb gf gc gl gn m cl ll) {j : Nat} (hj : j ≤ n) : w.cell? ⟨gn, j, none⟩ = some (.bool (decide (j ≤ m))) := by
  have e := World.ownsRow.cellAt h.n j (by simp [knL]; omega)
  rw [e, knL_get hj]
end
/-- What is known is the least cost. -/
def Kn (t : Tk) (m : Nat) (cl ll : List Int) : Prop := ∀ j, j ≤ m → cl.getD j 0 = t.f j ∧ ll.getD j 0 = (t.q j : Int)
theorem getD_set_ne {l : List Int} {i j : Nat} {x : Int} (h : i ≠ j) : (l.set i x).getD j 0 = l.getD j 0 := by simp [List.getD_eq_getElem?_getD, List.getElem?_set, h]
theorem getD_set_eq {l : List Int} {i : Nat} {x : Int} (h : i < l.length) : (l.set i x).getD i 0 = x := by simp [List.getD_eq_getElem?_getD, h]
theorem Kn.set {t : Tk} {m : Nat} {cl ll : List Int} (h : Kn t m cl ll) {i : Nat} (hi : m < i) (x y : Int) : Kn t m (cl.set i x) (ll.set i y) := fun j hj => by
  rw [getD_set_ne (by omega), getD_set_ne (by omega)]
  exact h j hj

end Go.Proofs.Ytlndjjdggedljaa
