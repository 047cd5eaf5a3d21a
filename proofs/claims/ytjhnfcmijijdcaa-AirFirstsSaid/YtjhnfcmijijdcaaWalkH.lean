/- Walks of CheckPlan, Stock, Starts and IsTidy (program). -/
import Derived.Test.YtjhnfcmijijdcaaWalkG
namespace Go.Proofs.Ytjhnfcmijijdcaa
open Go.RowKit

def okv (e v : Int) : Int := if e = 0 then v else 0
theorem okv_zero {e : Int} (h : e = 0) (v : Int) : okv e v = v := by unfold okv; rw [if_pos h]
theorem okv_ne {e : Int} (h : e ≠ 0) (v : Int) : okv e v = 0 := by unfold okv; rw [if_neg h]
def okb (e : Int) (v : Bool) : Bool := if e = 0 then v else false
theorem okb_zero {e : Int} (h : e = 0) (v : Bool) : okb e v = v := by unfold okb; rw [if_pos h]
theorem okb_ne {e : Int} (h : e ≠ 0) (v : Bool) : okb e v = false := by unfold okb; rw [if_neg h]
def okl (e : Int) (l : List Int) : List Int := if e = 0 then l else []
theorem okl_zero {e : Int} (h : e = 0) (v : List Int) : okl e v = v := by unfold okl; rw [if_pos h]
theorem okl_ne {e : Int} (h : e ≠ 0) (v : List Int) : okl e v = [] := by unfold okl; rw [if_neg h]
/-- The call hands back a number and an error. -/
def NumPost (v er : Int) (w : World) (e : Ending) (w' : World) : Prop := e = .returned (.tuple #[.int .i64 v, .int .i64 er]) ∧ Below w.heap.size w w'
def BoolPost (v : Bool) (er : Int) (w : World) (e : Ending) (w' : World) : Prop := e = .returned (.tuple #[.bool v, .int .i64 er]) ∧ Below w.heap.size w w'
/-- The call hands back a list of its own and an error. -/
def ListPost (l : List Int) (er : Int) (w : World) (e : Ending) (w' : World) : Prop := ∃ A n c, e = .returned (.tuple #[.slice A n c, .int .i64 er]) ∧ Own w' w.heap.size A n c l ∧ Below w.heap.size w w'
/-- No start in an hour before which there is stock. -/
def Tk.Tidy (t : Tk) (p : Nat → Int) (n : Nat) : Prop := ∀ i, i < n → ¬ (0 < p i ∧ 0 < t.stk p i)
instance (t : Tk) (p : Nat → Int) (n : Nat) : Decidable (t.Tidy p n) := inferInstanceAs (Decidable (∀ i, i < n → _))
def TidyTo (t : Tk) (p : Nat → Int) (k : Nat) : Prop := ∀ i, i < k → ¬ (0 < p i ∧ 0 < t.stk p i)
theorem tidyTo_zero (t : Tk) (p : Nat → Int) : TidyTo t p 0 := fun _ h => absurd h (Nat.not_lt_zero _)
theorem tidyTo_one (t : Tk) (p : Nat → Int) : TidyTo t p 1 := fun i h => by
  obtain rfl : i = 0 := by omega
  rw [Tk.stk_zero]
  omega
theorem tidyTo_succ {t : Tk} {p : Nat → Int} {k : Nat} (h : TidyTo t p k) (e : ¬ (0 < p k ∧ 0 < t.stk p k)) : TidyTo t p (k + 1) := fun i hi => by
  by_cases hik : i = k
  · subst hik; exact e
  · exact h i (by omega)

section
variable (K h : Int) (A : Option Addr) (n c : Nat) (cs : List Int) (A' : Option Addr) (n' c' : Nat) (ds : List Int) (P : Option Addr) (np pc : Nat) (ps : List Int) (w : World)
    (hT : Tin w A n c cs A' n' c' ds) (hP : Row w P np pc ps)
include hT hP

set_option maxHeartbeats 2000000 in
theorem CheckPlan_any :
    Calls Try.prog 20 #[.agg #[.int .i64 K, .int .i64 h, .slice A n c, .slice A' n' c'], .slice P np pc] w (NumPost (okv (errP K h cs ds ps) ((tk K h cs ds).cost (pl ps) ds.length)) (errP K h cs ds ps) w) := by
  have HT := hide hT
  have HPr := hide hP
  have L1 := hT.1.length
  have L2 := hT.2.length
  have L3 := hP.length
  have B0 := hide ((Below.refl w.heap.size w).alloc (Nat.le_refl _) (.cells #[.int .i64 K, .int .i64 h, .slice A n c, .slice A' n' c'] 24))
  have K0 := hide (Bk.born w 24 #[.int .i64 K, .int .i64 h, .slice A n c, .slice A' n' c'])
  clear hT hP
  by_cases he : errP K h cs ds ps = 0
  case neg =>
    have HE := hide he
    have he' : (errP K h cs ds ps != 0) = true := by simpa using he
    clear he
    go_enter Try.func20, Try.ntmps20
    go_wp2_with fail
    refine (validatePlan_any K h _ n c cs _ n' c' ds _ np pc ps _ (HT.out.alloc _) (HPr.out.alloc _)).mono ?_
    rintro e w1 ⟨rfl, b1⟩
    go_wp2_with fail
    go_ret2
    exact ⟨ret2_ii (okv_ne HE.out _).symm rfl, B0.out.trans (b1.mono (by simp))⟩
  obtain ⟨o, a, f⟩ := errP_zero he
  have hn1 : 1 ≤ n' := by have := o.n1; omega
  have hn2 : n' ≤ 12 := by have := o.n2; omega
  obtain rfl : n = n' := by have := o.c.1; omega
  obtain rfl : np = n := by have := a.1; omega
  have OK := hide (by have := o.tk; rw [L2] at this; exact this)
  have HPl := hide (by have := a.plan; rw [L2] at this; exact this)
  have HE := hide he
  have HN := hide L2
  clear o a f he L1 L3
  go_enter Try.func20, Try.ntmps20
  go_wp2_with fail
  refine (validatePlan_any K h _ np c cs _ np c' ds _ np pc ps _ (HT.out.alloc _) (HPr.out.alloc _)).mono ?_
  rw [HE.out]
  rintro e w1 ⟨rfl, b1⟩
  have B1 := hide (B0.out.trans (b1.mono (by simp)))
  have K1 := hide (K0.out.keep b1 (by simp))
  obtain ⟨k0, k1, k2, k3, _⟩ := K1.out.four
  clear b1
  go_wp2_with fail
  refine (cost_any K h _ np c cs _ c' ds _ pc ps _ (HT.out.below B1.out (Nat.le_refl _)) (HPr.out.below B1.out (Nat.le_refl _)) OK.out HPl.out hn1 hn2).mono ?_
  rintro e w2 ⟨rfl, b2⟩
  go_wp2_with fail
  go_ret2
  exact ⟨ret2_ii (by rw [okv_zero HE.out, HN.out]) HE.out.symm, B1.out.trans (b2.mono B1.out.size)⟩

set_option maxHeartbeats 2000000 in
theorem Stock_any :
    Calls Try.prog 24 #[.agg #[.int .i64 K, .int .i64 h, .slice A n c, .slice A' n' c'], .slice P np pc] w (ListPost (okl (errP K h cs ds ps) ((tk K h cs ds).stkL (pl ps) ds.length)) (errP K h cs ds ps) w) := by
  have HT := hide hT
  have HPr := hide hP
  have L1 := hT.1.length
  have L2 := hT.2.length
  have L3 := hP.length
  have B0 := hide ((Below.refl w.heap.size w).alloc (Nat.le_refl _) (.cells #[.int .i64 K, .int .i64 h, .slice A n c, .slice A' n' c'] 24))
  have K0 := hide (Bk.born w 24 #[.int .i64 K, .int .i64 h, .slice A n c, .slice A' n' c'])
  clear hT hP
  by_cases he : errP K h cs ds ps = 0
  case neg =>
    have HE := hide he
    have he' : (errP K h cs ds ps != 0) = true := by simpa using he
    clear he
    go_enter Try.func24, Try.ntmps24
    go_wp2_with fail
    refine (validatePlan_any K h _ n c cs _ n' c' ds _ np pc ps _ (HT.out.alloc _) (HPr.out.alloc _)).mono ?_
    rintro e w1 ⟨rfl, b1⟩
    go_wp2_with fail
    go_ret2
    exact ⟨none, 0, 0, rfl, by rw [okl_ne HE.out]; exact Own.nil _ _, B0.out.trans (b1.mono (by simp))⟩
  obtain ⟨o, a, f⟩ := errP_zero he
  have hn1 : 1 ≤ n' := by have := o.n1; omega
  have hn2 : n' ≤ 12 := by have := o.n2; omega
  obtain rfl : n = n' := by have := o.c.1; omega
  obtain rfl : np = n := by have := a.1; omega
  have OK := hide (by have := o.tk; rw [L2] at this; exact this)
  have HPl := hide (by have := a.plan; rw [L2] at this; exact this)
  have HE := hide he
  have HN := hide L2
  clear o a f he L1 L3
  go_enter Try.func24, Try.ntmps24
  go_wp2_with fail
  refine (validatePlan_any K h _ np c cs _ np c' ds _ np pc ps _ (HT.out.alloc _) (HPr.out.alloc _)).mono ?_
  rw [HE.out]
  rintro e w1 ⟨rfl, b1⟩
  have B1 := hide (B0.out.trans (b1.mono (by simp)))
  have K1 := hide (K0.out.keep b1 (by simp))
  obtain ⟨k0, k1, k2, k3, _⟩ := K1.out.four
  clear b1
  go_wp2_with fail
  refine (stock_any K h _ np c cs _ c' ds _ pc ps _ (HT.out.below B1.out (Nat.le_refl _)) (HPr.out.below B1.out (Nat.le_refl _)) OK.out HPl.out hn1 hn2).mono ?_
  rintro e w2 ⟨A2, rfl, o2, b2⟩
  go_wp2_with fail
  go_ret2
  exact ⟨_, _, _, by rw [HE.out]; rfl, by rw [okl_zero HE.out, HN.out]; exact o2.more B1.out.size, B1.out.trans (b2.mono B1.out.size)⟩

set_option maxHeartbeats 2000000 in
theorem Starts_any :
    Calls Try.prog 26 #[.agg #[.int .i64 K, .int .i64 h, .slice A n c, .slice A' n' c'], .slice P np pc] w (ListPost (okl (errP K h cs ds ps) (pumpL (pl ps) ds.length)) (errP K h cs ds ps) w) := by
  have HT := hide hT
  have HPr := hide hP
  have L1 := hT.1.length
  have L2 := hT.2.length
  have L3 := hP.length
  have B0 := hide ((Below.refl w.heap.size w).alloc (Nat.le_refl _) (.cells #[.int .i64 K, .int .i64 h, .slice A n c, .slice A' n' c'] 24))
  have K0 := hide (Bk.born w 24 #[.int .i64 K, .int .i64 h, .slice A n c, .slice A' n' c'])
  clear hT hP
  by_cases he : errP K h cs ds ps = 0
  case neg =>
    have HE := hide he
    have he' : (errP K h cs ds ps != 0) = true := by simpa using he
    clear he
    go_enter Try.func26, Try.ntmps26
    go_wp2_with fail
    refine (validatePlan_any K h _ n c cs _ n' c' ds _ np pc ps _ (HT.out.alloc _) (HPr.out.alloc _)).mono ?_
    rintro e w1 ⟨rfl, b1⟩
    go_wp2_with fail
    go_ret2
    exact ⟨none, 0, 0, rfl, by rw [okl_ne HE.out]; exact Own.nil _ _, B0.out.trans (b1.mono (by simp))⟩
  obtain ⟨o, a, f⟩ := errP_zero he
  have hn1 : 1 ≤ n' := by have := o.n1; omega
  have hn2 : n' ≤ 12 := by have := o.n2; omega
  obtain rfl : n = n' := by have := o.c.1; omega
  obtain rfl : np = n := by have := a.1; omega
  have OK := hide (by have := o.tk; rw [L2] at this; exact this)
  have HPl := hide (by have := a.plan; rw [L2] at this; exact this)
  have HE := hide he
  have HN := hide L2
  clear o a f he L1 L3
  go_enter Try.func26, Try.ntmps26
  go_wp2_with fail
  refine (validatePlan_any K h _ np c cs _ np c' ds _ np pc ps _ (HT.out.alloc _) (HPr.out.alloc _)).mono ?_
  rw [HE.out]
  rintro e w1 ⟨rfl, b1⟩
  have B1 := hide (B0.out.trans (b1.mono (by simp)))
  have K1 := hide (K0.out.keep b1 (by simp))
  obtain ⟨k0, k1, k2, k3, _⟩ := K1.out.four
  clear b1
  go_wp2_with fail
  refine (pumped_any _ np pc ps _ (HPr.out.below B1.out (Nat.le_refl _)) hn2).mono ?_
  rintro e w2 ⟨A2, n2, c2, rfl, o2, b2⟩
  go_wp2_with fail
  go_ret2
  exact ⟨_, _, _, by rw [HE.out]; rfl, by rw [okl_zero HE.out, HN.out]; exact o2.more B1.out.size, B1.out.trans (b2.mono B1.out.size)⟩

set_option maxHeartbeats 2000000 in
theorem IsTidy_any :
    Calls Try.prog 28 #[.agg #[.int .i64 K, .int .i64 h, .slice A n c, .slice A' n' c'], .slice P np pc] w (BoolPost (okb (errP K h cs ds ps) (decide ((tk K h cs ds).Tidy (pl ps) ds.length))) (errP K h cs ds ps) w) := by
  have HT := hide hT
  have HPr := hide hP
  have L1 := hT.1.length
  have L2 := hT.2.length
  have L3 := hP.length
  have B0 := hide ((Below.refl w.heap.size w).alloc (Nat.le_refl _) (.cells #[.int .i64 K, .int .i64 h, .slice A n c, .slice A' n' c'] 24))
  have K0 := hide (Bk.born w 24 #[.int .i64 K, .int .i64 h, .slice A n c, .slice A' n' c'])
  clear hT hP
  by_cases he : errP K h cs ds ps = 0
  case neg =>
    have HE := hide he
    have he' : (errP K h cs ds ps != 0) = true := by simpa using he
    clear he
    go_enter Try.func28, Try.ntmps28
    go_wp2_with fail
    refine (validatePlan_any K h _ n c cs _ n' c' ds _ np pc ps _ (HT.out.alloc _) (HPr.out.alloc _)).mono ?_
    rintro e w1 ⟨rfl, b1⟩
    go_wp2_with fail
    go_ret2
    exact ⟨ret2_bi (okb_ne HE.out _).symm rfl, B0.out.trans (b1.mono (by simp))⟩
  obtain ⟨o, a, f⟩ := errP_zero he
  have hn1 : 1 ≤ n' := by have := o.n1; omega
  have hn2 : n' ≤ 12 := by have := o.n2; omega
  obtain rfl : n = n' := by have := o.c.1; omega
  obtain rfl : np = n := by have := a.1; omega
  have OK := hide (by have := o.tk; rw [L2] at this; exact this)
  have HPl := hide (by have := a.plan; rw [L2] at this; exact this)
  have HE := hide he
  have HN := hide L2
  clear o a f he L1 L3
  go_enter Try.func28, Try.ntmps28
  go_wp2_with fail
  refine (validatePlan_any K h _ np c cs _ np c' ds _ np pc ps _ (HT.out.alloc _) (HPr.out.alloc _)).mono ?_
  rw [HE.out]
  rintro e w1 ⟨rfl, b1⟩
  have B1 := hide (B0.out.trans (b1.mono (by simp)))
  have K1 := hide (K0.out.keep b1 (by simp))
  obtain ⟨k0, k1, k2, k3, _⟩ := K1.out.four
  clear b1
  go_wp2_with fail
  refine (stock_any K h _ np c cs _ c' ds _ pc ps _ (HT.out.below B1.out (Nat.le_refl _)) (HPr.out.below B1.out (Nat.le_refl _)) OK.out HPl.out hn1 hn2).mono ?_
  rintro e w2 ⟨A2, rfl, o2, b2⟩
  have B2 := hide (B1.out.trans (b2.mono B1.out.size))
  rcases o2.form with ⟨_, h0, _⟩ | ⟨g, rfl, hg1, hg2, _⟩
  · omega
  have O2 := hide o2
  have RP := hide (HPr.out.below B2.out (Nat.le_refl _))
  obtain ⟨bp, offp, rp⟩ := RP.out
  obtain rfl := rp.at_ (by omega)
  have RPA := hide rp
  clear k0 k1 k2 k3 o2 b2 rp
  go_wp2_with fail
  go_loop [7, 20] (fun s i => ∃ k : Nat, k ≤ np ∧ i = .int .i64 k ∧ s = .int .i64 ((tk K h cs ds).stk (pl ps) k) ∧ TidyTo (tk K h cs ds) (pl ps) k) (fun _ i => np - (intOf i).toNat)
  case atStart => exact ⟨0, by omega, rfl, rfl, tidyTo_zero _ _⟩
  case round =>
    obtain ⟨k, hk, rfl, rfl, ht⟩ := hrel
    have HTT := hide ht
    clear ht
    by_cases hlt : k < np
    · have cp := RPA.out.cell k hlt
      have cl := O2.out.cell hlt
      rw [show ps.getD k 0 = pl ps k from rfl] at cp
      rw [Tk.stkL_get _ _ hlt] at cl
      have HY := hide (fun e => tidyTo_succ HTT.out (k := k) e)
      have HN' := hide (fun (e : 0 < pl ps k ∧ 0 < (tk K h cs ds).stk (pl ps) k) => decide_eq_false (p := (tk K h cs ds).Tidy (pl ps) np) fun f => f k hlt e)
      generalize hy : (tk K h cs ds).stk (pl ps) (k + 1) = y at *
      have HYE := hide hy
      clear hy
      generalize (tk K h cs ds).stk (pl ps) k = x at *
      generalize pl ps k = z at *
      by_cases hz : 0 < z
      · by_cases hx : 0 < x
        · go_wp2_with fail
          go_ret2
          exact ⟨ret2_bi (by rw [okb_zero HE.out]; (try rw [HN.out]); exact (HN'.out ⟨hz, hx⟩).symm) HE.out.symm, B2.out⟩
        · go_wp2_with fail
          go_round
          case rel => exact ⟨k + 1, by omega, by go_num, by rw [HYE.out], HY.out fun e => hx e.2⟩
          case measure => simp [intOf]; omega
      · go_wp2_with fail
        go_round
        case rel => exact ⟨k + 1, by omega, by go_num, by rw [HYE.out], HY.out fun e => hz e.1⟩
        case measure => simp [intOf]; omega
    · obtain rfl : k = np := by omega
      go_wp2_with fail
      go_ret2
      exact ⟨ret2_bi (by rw [okb_zero HE.out]; (try rw [HN.out]); exact (decide_eq_true (p := (tk K h cs ds).Tidy (pl ps) k) HTT.out).symm) HE.out.symm, B2.out⟩

end

end Go.Proofs.Ytjhnfcmijijdcaa
