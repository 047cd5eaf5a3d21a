import Derived.Test.YtlmmkaadoicogaaMathI
/- Pooling: runs of hours whose means fall; no program. -/
namespace Go.Proofs.Ytlmmkaadoicogaa

/-- A run: its first and last hour, the sum of weight times value, the sum of the weights. -/
structure Rn where
  a : Nat
  b : Nat
  n : Int
  d : Int

structure Good (h : Rd) (r : Rn) : Prop where
  le : r.a ≤ r.b
  lt : r.b < h.length
  num : r.n = nS h (r.b + 1) - nS h r.a
  den : r.d = dS h (r.b + 1) - dS h r.a
  heavy : ∀ k, r.a ≤ k → k ≤ r.b → (nS h (k + 1) - nS h r.a) * r.d ≤ r.n * (dS h (k + 1) - dS h r.a)
/-- The runs of the first i hours, the last one first. -/
def Stk (h : Rd) : List Rn → Nat → Prop
  | [], i => i = 0
  | r :: rest, i => i = r.b + 1 ∧ Good h r ∧ (∀ r', rest.head? = some r' → r.n * r'.d < r'.n * r.d) ∧ Stk h rest r.a

theorem Good.pos {h : Rd} (o : okH h = true) {r : Rn} (g : Good h r) : 1 ≤ r.d ∧ r.d ≤ 9 * ((r.b + 1 - r.a : Nat) : Int) ∧ 0 ≤ r.n ∧ r.n ≤ 900 * ((r.b + 1 - r.a : Nat) : Int) := by
  have h1 := nS_bd o (a := r.a) (b := r.b + 1) (by have := g.le; omega) (by have := g.lt; omega)
  have h2 := dS_bd o (a := r.a) (b := r.b + 1) (by have := g.le; omega) (by have := g.lt; omega)
  have := g.num; have := g.den; have := g.le
  omega
theorem good_one {h : Rd} {i : Nat} (hi : i < h.length) : Good h ⟨i, i, wI h i * vI h i, wI h i⟩ := by
  refine ⟨Nat.le_refl _, hi, ?_, ?_, fun k h1 h2 => ?_⟩
  · simp [nS, isum]; omega
  · simp [dS, isum]; omega
  · obtain rfl : k = i := by simp at h1 h2; omega
    simp only [nS, dS, isum]
    rw [show isum (fun i => wI h i * vI h i) k + wI h k * vI h k - isum (fun i => wI h i * vI h i) k = wI h k * vI h k by omega, show isum (wI h) k + wI h k - isum (wI h) k = wI h k by omega]
    exact Int.le_refl _
theorem good_join {h : Rd} (o : okH h = true) {r s : Rn} (g : Good h r) (f : Good h s) (e : s.b + 1 = r.a) (c : s.n * r.d ≤ r.n * s.d) : Good h ⟨s.a, r.b, s.n + r.n, s.d + r.d⟩ := by
  have p1 := g.pos o
  have p2 := f.pos o
  have l1 := g.le; have l2 := f.le; have lt1 := g.lt
  refine ⟨by simp only; omega, g.lt, by simp only; rw [g.num, f.num, e]; omega, by simp only; rw [g.den, f.den, e]; omega, fun k h1 h2 => ?_⟩
  simp only at h1 h2 ⊢
  by_cases hk : k ≤ s.b
  · have hv := f.heavy k h1 hk
    have dk := dS_bd o (a := s.a) (b := k + 1) (by omega) (by omega)
    generalize nS h (k + 1) - nS h s.a = x at *
    generalize dS h (k + 1) - dS h s.a = y at *
    have q1 := Int.mul_le_mul_of_nonneg_right (c := r.d) hv (by omega)
    have q2 := Int.mul_le_mul_of_nonneg_right (c := y) c (by omega)
    have q3 : x * r.d * s.d ≤ r.n * y * s.d := by grind
    have q4 : x * r.d ≤ r.n * y := Int.le_of_mul_le_mul_right q3 (by omega)
    grind
  · have hv := g.heavy k (by omega) h2
    have dk := dS_bd o (a := r.a) (b := k + 1) (by omega) (by omega)
    have dr := dS_bd o (a := k + 1) (b := r.b + 1) (by omega) (by omega)
    have e1 : nS h (k + 1) - nS h s.a = s.n + (nS h (k + 1) - nS h r.a) := by rw [f.num, e]; omega
    have e2 : dS h (k + 1) - dS h s.a = s.d + (dS h (k + 1) - dS h r.a) := by rw [f.den, e]; omega
    have e3 : dS h (k + 1) - dS h r.a ≤ r.d := by have := g.den; omega
    rw [e1, e2]
    generalize nS h (k + 1) - nS h r.a = x at *
    generalize dS h (k + 1) - dS h r.a = y at *
    have q1 := Int.mul_le_mul_of_nonneg_right (c := s.d) hv (by omega)
    have q2 := Int.mul_le_mul_of_nonneg_right (c := r.d - y) c (by omega)
    have q3 : (s.n * r.d + x * s.d) * r.d ≤ (s.n * y + r.n * s.d) * r.d := by grind
    have q4 := Int.le_of_mul_le_mul_right q3 (by omega)
    grind

/-- The row of the runs. -/
def rowS : List Rn → List Rat
  | [] => []
  | r :: rest => rowS rest ++ List.replicate (r.b + 1 - r.a) (rt r.n r.d)
theorem rowS_len {h : Rd} : ∀ {st : List Rn} {i : Nat}, Stk h st i → (rowS st).length = i
  | [], i, s => by rw [show i = 0 from s]; rfl
  | r :: rest, i, s => by
    obtain ⟨e, g, _, s'⟩ := s
    have := rowS_len s'
    have := g.le
    simp only [rowS, List.length_append, List.length_replicate]
    omega
theorem rowS_old {h : Rd} {r : Rn} {rest : List Rn} {i j : Nat} (s : Stk h (r :: rest) i) (hj : j < r.a) : (rowS (r :: rest)).getD j 0 = (rowS rest).getD j 0 := by
  have := rowS_len s.2.2.2
  simp only [rowS, List.getD_eq_getElem?_getD]
  rw [List.getElem?_append_left (by omega)]
theorem rowS_new {h : Rd} {r : Rn} {rest : List Rn} {i j : Nat} (s : Stk h (r :: rest) i) (hj : r.a ≤ j) (hb : j ≤ r.b) : (rowS (r :: rest)).getD j 0 = rt r.n r.d := by
  have := rowS_len s.2.2.2
  simp only [rowS, List.getD_eq_getElem?_getD]
  rw [List.getElem?_append_right (by omega), List.getElem?_replicate, if_pos (by omega)]
  rfl
theorem rowS_kkt {h : Rd} (o : okH h = true) : ∀ {st : List Rn} {i : Nat}, Stk h st i → KKT i (vq h) (wq h) (fun j => (rowS st).getD j 0)
  | [], i, s => by
    obtain rfl : i = 0 := s
    refine ⟨fun i hi => by omega, fun k hk => ?_, fun k hk => by omega, rfl⟩
    obtain rfl : k = 0 := by omega
    exact Rat.le_refl
  | r :: rest, i, s => by
    have ih := rowS_kkt o s.2.2.2
    have hs := s
    obtain ⟨rfl, g, top, s'⟩ := s
    have p := g.pos o
    have hle := g.le
    have lt := g.lt
    have old : ∀ k, k ≤ r.a → psum (fun j => wq h j * (vq h j - (rowS (r :: rest)).getD j 0)) k = psum (fun j => wq h j * (vq h j - (rowS rest).getD j 0)) k :=
      fun k hk => psum_congr0 fun j hj => by rw [rowS_old hs (by omega)]
    have new : ∀ k, r.a ≤ k → k ≤ r.b + 1 → psum (fun j => wq h j * (vq h j - (rowS (r :: rest)).getD j 0)) k = ((nS h k - nS h r.a : Int) : Rat) - rt r.n r.d * ((dS h k - dS h r.a : Int) : Rat) := by
      intro k h1 h2
      have e := psum_congr (f := fun j => wq h j * (vq h j - (rowS (r :: rest)).getD j 0)) (g := fun j => wq h j * vq h j - rt r.n r.d * wq h j) h1 (fun j h3 h4 => by rw [rowS_new hs h3 (by omega)]; grind)
      rw [psum_sub, psum_sub, psum_mul, psum_mul, nS_psum, nS_psum, dS_psum, dS_psum, old _ (Nat.le_refl _), ih.last] at e
      rw [Rat.intCast_sub, Rat.intCast_sub]
      grind
    have dp : (0 : Rat) < (r.d : Rat) := cast_pos (by omega)
    have hm : rt r.n r.d * (r.d : Rat) = (r.n : Rat) := Rat.div_mul_cancel (by grind)
    have lastz : psum (fun j => wq h j * (vq h j - (rowS (r :: rest)).getD j 0)) (r.b + 1) = 0 := by
      rw [new _ (by omega) (Nat.le_refl _), ← g.num, ← g.den, hm]
      grind
    refine ⟨fun j hj => ?_, fun k hk => ?_, fun k hk hlt => ?_, lastz⟩
    · by_cases h1 : j + 1 < r.a
      · rw [rowS_old hs h1, rowS_old hs (by omega)]; exact ih.fall j h1
      · by_cases h2 : r.a ≤ j
        · rw [rowS_new hs h2 (by omega), rowS_new hs (by omega) (by omega)]; exact Rat.le_refl
        · rw [rowS_new hs (by omega) (by omega), rowS_old hs (by omega)]
          cases rest with
          | nil => have : r.a = 0 := s'
                   omega
          | cons r' rest' =>
            have t := top r' rfl
            have e' := s'.1
            have g' := s'.2.1
            have p' := g'.pos o
            have l' := g'.le
            rw [rowS_new s' (by omega) (by omega), rt_le (by omega) (by omega)]
            omega
    · by_cases h1 : k ≤ r.a
      · rw [old k h1]; exact ih.low k h1
      · rw [new k (by omega) hk]
        have hv := g.heavy (k - 1) (by omega) (by omega)
        rw [show k - 1 + 1 = k by omega] at hv
        have hv' : (((nS h k - nS h r.a) * r.d : Int) : Rat) ≤ ((r.n * (dS h k - dS h r.a) : Int) : Rat) := Rat.intCast_le_intCast.2 hv
        rw [Rat.intCast_mul, Rat.intCast_mul, ← hm] at hv'
        generalize ((nS h k - nS h r.a : Int) : Rat) = x at *
        generalize ((dS h k - dS h r.a : Int) : Rat) = y at *
        have e1 : x ≤ rt r.n r.d * (r.d : Rat) * y / (r.d : Rat) := (le_div' dp).2 hv'
        have e2 : rt r.n r.d * (r.d : Rat) * y / (r.d : Rat) = rt r.n r.d * y := by
          rw [Rat.div_def]
          have := Rat.mul_inv_cancel (r.d : Rat) (by grind)
          grind
        grind
    · by_cases h1 : k + 1 < r.a
      · rw [old _ (by omega)]
        rw [rowS_old hs h1, rowS_old hs (by omega)] at hlt
        exact ih.tight k h1 hlt
      · by_cases h2 : r.a ≤ k
        · rw [rowS_new hs h2 (by omega), rowS_new hs (by omega) (by omega)] at hlt
          grind
        · rw [show k + 1 = r.a by omega, old _ (Nat.le_refl _)]; exact ih.last
theorem rowS_best {h : Rd} (o : okH h = true) {st : List Rn} (s : Stk h st h.length) : rowS st = bestR h :=
  bestR_of o (rowS_len s) (rowS_kkt o s)

end Go.Proofs.Ytlmmkaadoicogaa
