/- More on the best row: it proves itself; sums with the rows' denominators; no program. -/
import Derived.Test.YtlmmkaadoicogaaMathK
namespace Go.Proofs.Ytlmmkaadoicogaa

theorem stk_push {h : Rd} (o : okH h = true) : ∀ {st : List Rn} {r : Rn}, Stk h st r.a → Good h r → ∃ st', Stk h st' (r.b + 1)
  | [], r, s, g => ⟨[r], rfl, g, fun r' hr' => by simp at hr', s⟩
  | t :: rest, r, s, g => by
    by_cases c : t.n * r.d ≤ r.n * t.d
    · have g' := good_join o g s.2.1 s.1.symm c
      have := stk_push o (st := rest) (r := ⟨t.a, r.b, t.n + r.n, t.d + r.d⟩) s.2.2.2 g'
      exact this
    · exact ⟨r :: t :: rest, rfl, g, fun r' hr' => by simp at hr'; subst hr'; omega, s⟩
theorem stk_exists {h : Rd} (o : okH h = true) : ∀ i, i ≤ h.length → ∃ st, Stk h st i
  | 0, _ => ⟨[], rfl⟩
  | i + 1, hi => by
    obtain ⟨st, s⟩ := stk_exists o i (by omega)
    exact stk_push o (r := ⟨i, i, wI h i * vI h i, wI h i⟩) s (good_one (by omega))
theorem best_kkt {h : Rd} (o : okH h = true) : KKT h.length (vq h) (wq h) (fun i => (bestR h).getD i 0) := by
  obtain ⟨st, s⟩ := stk_exists o h.length (Nat.le_refl _)
  have := rowS_kkt o s
  rw [rowS_best o s] at this
  exact this
theorem bestR_out (h : Rd) {i : Nat} (hi : h.length ≤ i) : (bestR h).getD i 0 = 0 := by
  rw [List.getD_eq_getElem?_getD, List.getElem?_eq_none (by rw [bestR_len]; exact hi)]; rfl

/-- The number of the best row at hour i. -/
def rr (h : Rd) (i : Nat) : Rat := (bestR h).getD i 0
theorem rr_mm (h : Rd) {i : Nat} (hi : i < h.length) : rr h i = mm (vq h) (wq h) h.length i := bestR_get h hi
/-- What is left of the hours up to i, with the denominators of the row. -/
def lf (h : Rd) (i : Nat) : Int := isum (fun j => wI h j * (vI h j * ((rr h j).den : Int) - (rr h j).num)) i
theorem rat_nd (q : Rat) : (q.num : Rat) = q * ((q.den : Int) : Rat) := by
  have h1 := rt_self q
  unfold rt at h1
  have h2 : (0 : Rat) < ((q.den : Int) : Rat) := cast_pos (den_pos q)
  have h3 : (q.num : Rat) / ((q.den : Int) : Rat) * ((q.den : Int) : Rat) = (q.num : Rat) := Rat.div_mul_cancel (by grind)
  rw [h1] at h3
  exact h3.symm
theorem lf_eq {h : Rd} (o : okH h = true) : ∀ {i}, i < h.length → ((lf h (i + 1) : Int) : Rat) = (((rr h i).den : Int) : Rat) * psum (fun j => wq h j * (vq h j - rr h j)) (i + 1)
  | 0, hi => by
    simp only [lf, isum, psum, Rat.intCast_mul, Rat.intCast_sub, Rat.intCast_add, vq, wq]
    have := rat_nd (rr h 0)
    grind
  | i + 1, hi => by
    have ih := lf_eq o (i := i) (by omega)
    have k := best_kkt o
    have e1 : lf h (i + 1 + 1) = lf h (i + 1) + wI h (i + 1) * (vI h (i + 1) * ((rr h (i + 1)).den : Int) - (rr h (i + 1)).num) := rfl
    rw [e1, Rat.intCast_add, ih]
    simp only [Rat.intCast_mul, Rat.intCast_sub]
    have nd := rat_nd (rr h (i + 1))
    have e2 : psum (fun j => wq h j * (vq h j - rr h j)) (i + 1 + 1) = psum (fun j => wq h j * (vq h j - rr h j)) (i + 1) + wq h (i + 1) * (vq h (i + 1) - rr h (i + 1)) := rfl
    rw [e2]
    have hv : vq h (i + 1) = ((vI h (i + 1) : Int) : Rat) := rfl
    have hw : wq h (i + 1) = ((wI h (i + 1) : Int) : Rat) := rfl
    rw [hv, hw]
    by_cases c : rr h (i + 1) = rr h i
    · rw [c] at nd ⊢
      grind
    · have hlt : rr h (i + 1) < rr h i := by have := k.fall i hi; unfold rr at c ⊢; grind
      have z : psum (fun j => wq h j * (vq h j - rr h j)) (i + 1) = 0 := k.tight i hi hlt
      rw [z]
      grind
theorem lf_le {h : Rd} (o : okH h = true) {i : Nat} (hi : i < h.length) : lf h (i + 1) ≤ 0 := by
  have e := lf_eq o hi
  have k := (best_kkt o).low (i + 1) hi
  have d : (0 : Rat) < (((rr h i).den : Int) : Rat) := cast_pos (den_pos _)
  have : ((lf h (i + 1) : Int) : Rat) ≤ 0 := by
    rw [e]
    have := Rat.mul_le_mul_of_nonneg_left (c := (((rr h i).den : Int) : Rat)) k (by grind)
    unfold rr at this ⊢
    grind
  have h0 : ((0 : Int) : Rat) = 0 := rfl
  rw [← h0] at this
  exact Rat.intCast_le_intCast.1 this
theorem lf_zero {h : Rd} (o : okH h = true) {i : Nat} (hi : i < h.length) (c : i + 1 = h.length ∨ rr h (i + 1) ≠ rr h i) : lf h (i + 1) = 0 := by
  have e := lf_eq o hi
  have z : psum (fun j => wq h j * (vq h j - rr h j)) (i + 1) = 0 := by
    by_cases c' : i + 1 = h.length
    · rw [c']; exact (best_kkt o).last
    · have h1 := (best_kkt o).fall i (by omega)
      exact (best_kkt o).tight i (by omega) (by have := c.resolve_left c'; unfold rr at this; grind)
  rw [z] at e
  have : ((lf h (i + 1) : Int) : Rat) = ((0 : Int) : Rat) := by rw [e]; show _ = (0 : Rat); grind
  have h1 := Rat.intCast_le_intCast.1 (show ((lf h (i + 1) : Int) : Rat) ≤ ((0 : Int) : Rat) by rw [this]; exact Rat.le_refl)
  have h2 := Rat.intCast_le_intCast.1 (show ((0 : Int) : Rat) ≤ ((lf h (i + 1) : Int) : Rat) by rw [this]; exact Rat.le_refl)
  omega
theorem rr_fall {h : Rd} (o : okH h = true) {i : Nat} (hi : i + 1 < h.length) (c : rr h (i + 1) ≠ rr h i) : rr h (i + 1) < rr h i := by
  have h1 := (best_kkt o).fall i hi
  unfold rr at c ⊢
  grind

end Go.Proofs.Ytlmmkaadoicogaa
