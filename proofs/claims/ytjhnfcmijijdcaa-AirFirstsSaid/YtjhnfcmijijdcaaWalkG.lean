/- Walks of the errors of a plan, CheckPlan, Stock, Starts and IsTidy (program). -/
import Derived.Test.YtjhnfcmijijdcaaWalkF
namespace Go.Proofs.Ytjhnfcmijijdcaa
open Go.RowKit

/-- No stock is below 0, and the last one is 0. -/
def Tk.Fit (t : Tk) (p : Nat → Int) (n : Nat) : Prop := (∀ i, i < n → 0 ≤ t.stk p (i + 1)) ∧ t.stk p n = 0
instance (t : Tk) (p : Nat → Int) (n : Nat) : Decidable (t.Fit p n) := inferInstanceAs (Decidable (_ ∧ _))
def errP (K h : Int) (cs ds ps : List Int) : Int := if OkT K h cs ds ∧ AllOk ps ds.length 600 then (if (tk K h cs ds).Fit (pl ps) ds.length then 0 else 6) else 1
theorem errP_task {K h : Int} {cs ds ps : List Int} (o : ¬ OkT K h cs ds) : errP K h cs ds ps = 1 := by unfold errP; rw [if_neg (fun x => o x.1)]
theorem errP_arg {K h : Int} {cs ds ps : List Int} (o : ¬ AllOk ps ds.length 600) : errP K h cs ds ps = 1 := by unfold errP; rw [if_neg (fun x => o x.2)]
theorem errP_rule {K h : Int} {cs ds ps : List Int} (o : OkT K h cs ds) (a : AllOk ps ds.length 600) (r : ¬ (tk K h cs ds).Fit (pl ps) ds.length) : errP K h cs ds ps = 6 := by
  unfold errP; rw [if_pos ⟨o, a⟩, if_neg r]
theorem errP_ok {K h : Int} {cs ds ps : List Int} (o : OkT K h cs ds) (a : AllOk ps ds.length 600) (r : (tk K h cs ds).Fit (pl ps) ds.length) : errP K h cs ds ps = 0 := by
  unfold errP; rw [if_pos ⟨o, a⟩, if_pos r]
theorem errP_zero {K h : Int} {cs ds ps : List Int} (e : errP K h cs ds ps = 0) : OkT K h cs ds ∧ AllOk ps ds.length 600 ∧ (tk K h cs ds).Fit (pl ps) ds.length := by
  unfold errP at e
  split at e
  · rename_i h
    split at e
    · exact ⟨h.1, h.2, by assumption⟩
    · contradiction
  · contradiction
theorem AllOk.plan {ps : List Int} {n : Nat} (h : AllOk ps n 600) : PlanIn (pl ps) n := fun i hi => h.2 i (by have := h.1; omega)
theorem errP_right {K h : Int} {cs ds ps : List Int} (e : errP K h cs ds ps = 0) : (tk K h cs ds).Right (pl ps) ds.length := by
  obtain ⟨_, a, f⟩ := errP_zero e
  exact ⟨a.plan, f.1, f.2⟩
theorem fit_least {t : Tk} {p : Nat → Int} {n : Nat} {m : Int} (hm : LeastTo (t.stkL p n) n m) : (0 ≤ m) ↔ ∀ i, i < n → 0 ≤ t.stk p (i + 1) := by
  obtain ⟨h1, j, hj, h2⟩ := hm
  constructor
  · intro h i hi
    have := h1 i hi
    rw [Tk.stkL_get _ _ hi] at this
    omega
  · intro h
    rw [Tk.stkL_get _ _ hj] at h2
    have := h j hj
    omega

set_option maxHeartbeats 4000000 in
theorem validatePlan_any (K h : Int) (A : Option Addr) (n c : Nat) (cs : List Int) (A' : Option Addr) (n' c' : Nat) (ds : List Int) (P : Option Addr) (np pc : Nat) (ps : List Int) (w : World)
    (hT : Tin w A n c cs A' n' c' ds) (hP : Row w P np pc ps) :
    Calls Try.prog 56 #[.agg #[.int .i64 K, .int .i64 h, .slice A n c, .slice A' n' c'], .slice P np pc] w fun e w' =>
      e = .returned (.int .i64 (errP K h cs ds ps)) ∧ Below w.heap.size w w' := by
  have HT := hide hT
  have HPr := hide hP
  have L1 := hT.1.length
  have L2 := hT.2.length
  have L3 := hP.length
  have B0 := hide ((Below.refl w.heap.size w).alloc (Nat.le_refl _) (.cells #[.int .i64 K, .int .i64 h, .slice A n c, .slice A' n' c'] 24))
  have K0 := hide (Bk.born w 24 #[.int .i64 K, .int .i64 h, .slice A n c, .slice A' n' c'])
  clear hT hP
  by_cases o : OkT K h cs ds
  case neg =>
    have HV := hide (errP_task (ps := ps) o)
    have HE := hide (errT_no o)
    clear o
    go_enter Try.func56, Try.ntmps56
    go_wp2_with fail
    refine (Validate_any K h _ n c cs _ n' c' ds _ (HT.out.alloc _)).mono ?_
    rw [HE.out]
    rintro e w1 ⟨rfl, b1⟩
    go_wp2_with fail
    go_ret
    exact ⟨ret_i64 HV.out.symm, B0.out.trans (b1.mono (by simp))⟩
  have hn1 : 1 ≤ n' := by have := o.n1; omega
  have hn2 : n' ≤ 12 := by have := o.n2; omega
  have hcn : cs.length = ds.length := by have := o.c.1; omega
  obtain rfl : n = n' := by omega
  have HE := hide (errT_ok o)
  have HN := hide L2
  by_cases a : AllOk ps ds.length 600
  case neg =>
    have HV := hide (errP_arg (K := K) (h := h) (cs := cs) a)
    have ha := allB_false a
    rw [L2] at ha
    clear o a L1 L2 L3 hcn
    go_enter Try.func56, Try.ntmps56
    go_wp2_with fail
    refine (Validate_any K h _ n c cs _ n c' ds _ (HT.out.alloc _)).mono ?_
    rw [HE.out]
    rintro e w1 ⟨rfl, b1⟩
    have B1 := hide (B0.out.trans (b1.mono (by simp)))
    have K1 := hide (K0.out.keep b1 (by simp))
    obtain ⟨k0, k1, k2, k3, _⟩ := K1.out.four
    clear b1
    go_wp2_with fail
    refine (isForEach_any n _ np pc ps 600 _ (HPr.out.below B1.out (Nat.le_refl _)) (by omega) (by omega)).mono ?_
    rw [ha]
    rintro e w2 ⟨rfl, rfl⟩
    go_wp2_with fail
    go_ret
    exact ⟨ret_i64 HV.out.symm, B1.out⟩
  have ha := allB_true a
  rw [L2] at ha
  obtain rfl : np = n := by have := a.1; omega
  have OT := hide o
  have OK := hide (by have := o.tk; rw [L2] at this; exact this)
  have AL := hide a
  have HPl := hide (by have := a.plan; rw [L2] at this; exact this)
  have HF := hide (fun (f : (tk K h cs ds).Fit (pl ps) np) => errP_ok o a (by rw [L2]; exact f))
  have HFn := hide (fun (f : ¬ (tk K h cs ds).Fit (pl ps) np) => errP_rule o a (by rw [L2]; exact f))
  clear o a L1 L2 L3 hcn
  go_enter Try.func56, Try.ntmps56
  go_wp2_with fail
  refine (Validate_any K h _ np c cs _ np c' ds _ (HT.out.alloc _)).mono ?_
  rw [HE.out]
  rintro e w1 ⟨rfl, b1⟩
  have B1 := hide (B0.out.trans (b1.mono (by simp)))
  have K1 := hide (K0.out.keep b1 (by simp))
  obtain ⟨k0, k1, k2, k3, _⟩ := K1.out.four
  clear b1
  go_wp2_with fail
  refine (isForEach_any np _ np pc ps 600 _ (HPr.out.below B1.out (Nat.le_refl _)) (by omega) (by omega)).mono ?_
  rw [ha]
  rintro e w2 ⟨rfl, rfl⟩
  go_wp2_with fail
  refine (stock_any K h _ np c cs _ c' ds _ pc ps _ (HT.out.below B1.out (Nat.le_refl _)) (HPr.out.below B1.out (Nat.le_refl _)) OK.out HPl.out hn1 hn2).mono ?_
  rintro e w2 ⟨A2, rfl, o2, b2⟩
  have B2 := hide (B1.out.trans (b2.mono B1.out.size))
  have O2 := hide o2
  clear o2 b2 k0 k1 k2 k3 K1 B1
  go_wp2_with fail
  refine (Min_any _ _ _ _ _ O2.out.row hn1 (by omega)).mono ?_
  rintro e w3 ⟨m, rfl, hm, rfl⟩
  have HM := hide (fit_least hm)
  clear hm
  by_cases hm0 : m < 0
  · have HV := hide (HFn.out fun f => by have := HM.out.2 f.1; omega)
    go_wp2_with fail
    go_ret
    exact ⟨ret_i64 HV.out.symm, B2.out⟩
  · rcases O2.out.form with ⟨_, h0, _⟩ | ⟨g, rfl, hg1, hg2, _⟩
    · omega
    have cl := O2.out.cell (k := np - 1) (by omega)
    rw [Tk.stkL_get _ _ (by omega), show np - 1 + 1 = np from by omega] at cl
    have HV := hide (fun (hz : (tk K h cs ds).stk (pl ps) np = 0) => HF.out ⟨HM.out.1 (by omega), hz⟩)
    have HVn := hide (fun (hz : ¬ (tk K h cs ds).stk (pl ps) np = 0) => HFn.out fun f => hz f.2)
    generalize (tk K h cs ds).stk (pl ps) np = v at *
    have w1 : IntKind.i64.wrap ((np : Int) - 1) = ((np - 1 : Nat) : Int) := by rw [IntWalk.i64_in _ (by omega)]; omega
    have l2 : ((np - 1 : Nat) : Int) < np := by omega
    by_cases hv : v = 0
    · go_wp2_with fail
      go_ret
      exact ⟨ret_i64 (HV.out hv).symm, B2.out⟩
    · have hv' : (v != 0) = true := by simpa using hv
      go_wp2_with fail
      go_ret
      exact ⟨ret_i64 (HVn.out hv).symm, B2.out⟩

end Go.Proofs.Ytjhnfcmijijdcaa
