/- Plain mathematics of the sums that prove a claimed row: they do so exactly if its numbers are those of the best row. No program. -/
import Derived.Test.YtlmmkaadoicogaaMathM
namespace Go.Proofs.Ytlmmkaadoicogaa
open Go.RowKit

/-- What is above the claimed row in the first k hours, times its denominator. -/
def aS (xs : Rd) (D : Int) (ns : List Int) (k : Nat) : Int := isum (fun i => wI xs i * (vI xs i * D - ns.getD i 0)) k
theorem aS_succ (xs : Rd) (D : Int) (ns : List Int) (k : Nat) : aS xs D ns (k + 1) = aS xs D ns k + wI xs k * (vI xs k * D - ns.getD k 0) := rfl
/-- What the sums ask of the hour i. -/
def PvAt (xs : Rd) (D : Int) (ns : List Int) (i : Nat) : Prop :=
  (i + 1 < xs.length → ns.getD (i + 1) 0 ≤ ns.getD i 0) ∧ aS xs D ns (i + 1) ≤ 0 ∧ ((i + 1 = xs.length ∨ (i + 1 < xs.length ∧ ns.getD (i + 1) 0 < ns.getD i 0)) → aS xs D ns (i + 1) = 0)
def Pv (xs : Rd) (D : Int) (ns : List Int) : Prop := ∀ i, i < xs.length → PvAt xs D ns i
section
variable {xs : Rd} {D : Int} {ns : List Int}
theorem aS_psum (hD : 1 ≤ D) (k : Nat) : ((aS xs D ns k : Int) : Rat) = (D : Rat) * psum (fun i => wq xs i * (vq xs i - rt (ns.getD i 0) D)) k := by
  have hd : (0 : Rat) < (D : Rat) := cast_pos (by omega)
  have hd' : (D : Rat) ≠ 0 := by intro h; rw [h] at hd; exact absurd hd (by decide)
  unfold aS
  rw [isum_cast, ← psum_mul]
  refine psum_congr0 fun i _ => ?_
  have e : rt (ns.getD i 0) D * (D : Rat) = ((ns.getD i 0 : Int) : Rat) := by unfold rt; exact Rat.div_mul_cancel hd'
  rw [Rat.intCast_mul, Rat.intCast_sub, Rat.intCast_mul, ← e]
  show _ = (D : Rat) * (((wI xs i : Int) : Rat) * (((vI xs i : Int) : Rat) - _))
  generalize rt (ns.getD i 0) D = r
  grind
theorem aS_le (hD : 1 ≤ D) (k : Nat) : aS xs D ns k ≤ 0 ↔ psum (fun i => wq xs i * (vq xs i - rt (ns.getD i 0) D)) k ≤ 0 := by
  have hd : (0 : Rat) < (D : Rat) := cast_pos (by omega)
  have e := aS_psum (xs := xs) (ns := ns) hD k
  generalize psum (fun i => wq xs i * (vq xs i - rt (ns.getD i 0) D)) k = p at *
  constructor
  · intro h
    have h' : ((aS xs D ns k : Int) : Rat) ≤ 0 := by exact_mod_cast h
    rw [e] at h'
    apply Rat.not_lt.1
    intro q
    have := Rat.mul_pos hd q
    exact absurd h' (Rat.not_le.2 this)
  · intro h
    have h' : ((aS xs D ns k : Int) : Rat) ≤ 0 := by
      rw [e]
      have q : 0 ≤ (D : Rat) * (-p) := Rat.mul_nonneg (Rat.le_of_lt hd) (by grind)
      rw [Rat.mul_neg] at q
      grind
    exact_mod_cast h'
theorem aS_zero (hD : 1 ≤ D) (k : Nat) : aS xs D ns k = 0 ↔ psum (fun i => wq xs i * (vq xs i - rt (ns.getD i 0) D)) k = 0 := by
  have hd : (0 : Rat) < (D : Rat) := cast_pos (by omega)
  have hd' : (D : Rat) ≠ 0 := by intro h; rw [h] at hd; exact absurd hd (by decide)
  have e := aS_psum (xs := xs) (ns := ns) hD k
  generalize psum (fun i => wq xs i * (vq xs i - rt (ns.getD i 0) D)) k = p at *
  constructor
  · intro h
    rw [h] at e
    have : (D : Rat) * p = 0 := by rw [← e]; rfl
    rcases Rat.mul_eq_zero.1 this with q | q
    · exact absurd q hd'
    · exact q
  · intro h
    rw [h, Rat.mul_zero] at e
    exact_mod_cast e
theorem pv_kkt (h1 : 1 ≤ xs.length) (hD : 1 ≤ D) : Pv xs D ns ↔ KKT xs.length (vq xs) (wq xs) (fun i => rt (ns.getD i 0) D) := by
  constructor
  · intro h
    refine ⟨fun i hi => ?_, fun k hk => ?_, fun k hk hl => ?_, ?_⟩
    · rw [rt_le (by omega) (by omega)]
      have := (h i (by omega)).1 hi
      exact Int.mul_le_mul_of_nonneg_right this (by omega)
    · cases k with
      | zero => exact Rat.le_refl
      | succ k => exact (aS_le hD _).1 (h k (by omega)).2.1
    · refine (aS_zero hD _).1 ((h k (by omega)).2.2 (Or.inr ⟨hk, ?_⟩))
      rw [rt_lt (by omega) (by omega)] at hl
      exact Int.lt_of_mul_lt_mul_right hl (by omega)
    · obtain ⟨m, hm⟩ : ∃ m, xs.length = m + 1 := ⟨xs.length - 1, by omega⟩
      have := (h m (by omega)).2.2 (Or.inl hm.symm)
      rw [hm]
      exact (aS_zero hD _).1 this
  · intro k i hi
    refine ⟨fun hi1 => ?_, (aS_le hD _).2 (k.low (i + 1) (by omega)), fun e => ?_⟩
    · have := k.fall i hi1
      rw [rt_le (by omega) (by omega)] at this
      exact Int.le_of_mul_le_mul_right this (by omega)
    · rcases e with e | ⟨e, l⟩
      · rw [e]; exact (aS_zero hD _).2 k.last
      · refine (aS_zero hD _).2 (k.tight i e ?_)
        show rt _ _ < rt _ _
        rw [rt_lt (by omega) (by omega)]
        exact Int.mul_lt_mul_of_pos_right l (by omega)
theorem pv_iff (o : okH xs = true) (h1 : 1 ≤ xs.length) (hD : 1 ≤ D) : Pv xs D ns ↔ ∀ i, i < xs.length → rt (ns.getD i 0) D = rr xs i := by
  rw [pv_kkt h1 hD]
  constructor
  · intro k i hi
    exact (rr_of o k (fun _ _ => rfl) (fun _ _ => rfl) i hi).symm
  · intro h
    have k := best_kkt o
    exact k.congr (fun _ _ => rfl) (fun _ _ => rfl) fun i hi => (h i hi).symm
theorem aS_bd (o : okH xs = true) (hD : 1 ≤ D) (hD2 : D ≤ 10000) {k : Nat} (hk : k ≤ xs.length) (h12 : xs.length ≤ 12) (hn : ∀ i, i < xs.length → -1000000000 ≤ ns.getD i 0 ∧ ns.getD i 0 ≤ 1000000000) :
    -9009000000 * (k : Int) ≤ aS xs D ns k ∧ aS xs D ns k ≤ 9009000000 * (k : Int) := by
  refine isum_le fun i hi => ?_
  obtain ⟨v0, v1, w0, w1⟩ := okH_get o (i := i) (by omega)
  obtain ⟨n0, n1⟩ := hn i (by omega)
  have m0 : 0 ≤ vI xs i * D := Int.mul_nonneg v0 (by omega)
  have m1 : vI xs i * D ≤ 100 * 10000 := Int.mul_le_mul v1 hD2 (by omega) (by omega)
  generalize vI xs i * D = z at *
  generalize ns.getD i 0 = y at *
  generalize wI xs i = u at *
  have a : u * (z - y) ≤ u * 1001000000 := Int.mul_le_mul_of_nonneg_left (by omega) (by omega)
  have b : u * (-1001000000) ≤ u * (z - y) := Int.mul_le_mul_of_nonneg_left (by omega) (by omega)
  omega
/-- The error of readings and a claimed row. -/
def RowOk (xs : Rd) (D : Int) (ns : List Int) : Prop := 1 ≤ D ∧ D ≤ 10000 ∧ ns.length = xs.length ∧ ∀ i, i < ns.length → -1000000000 ≤ ns.getD i 0 ∧ ns.getD i 0 ≤ 1000000000
end
open Classical in
/-- The error of readings and a claimed row. -/
noncomputable def errK (xs : Rd) (D : Int) (ns : List Int) : Int :=
  if errH xs = 0 then (if RowOk xs D ns then (if Pv xs D ns then 0 else 7) else 1) else errH xs
section
variable {xs : Rd} {D : Int} {ns : List Int}
theorem errK_h (h : ¬ errH xs = 0) : errK xs D ns = errH xs := by unfold errK; rw [if_neg h]
theorem errK_row (h : errH xs = 0) (r : ¬ RowOk xs D ns) : errK xs D ns = 1 := by unfold errK; rw [if_pos h, if_neg r]
theorem errK_no (h : errH xs = 0) (r : RowOk xs D ns) (p : ¬ Pv xs D ns) : errK xs D ns = 7 := by unfold errK; rw [if_pos h, if_pos r, if_neg p]
theorem errK_yes (h : errH xs = 0) (r : RowOk xs D ns) (p : Pv xs D ns) : errK xs D ns = 0 := by unfold errK; rw [if_pos h, if_pos r, if_pos p]
end
end Go.Proofs.Ytlmmkaadoicogaa
