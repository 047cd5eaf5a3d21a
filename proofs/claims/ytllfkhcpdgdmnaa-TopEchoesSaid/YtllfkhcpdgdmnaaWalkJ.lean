/- Two of the sums are equal just where two of the differences are. -/
import Derived.Test.YtllfkhcpdgdmnaaWalkI
import Derived.Test.YtllfkhcpdgdmnaaMB
namespace Go.Proofs.Ytllfkhcpdgdmnaa

theorem twoB_nodup {s : List Int} (hs : s.Pairwise (· ≤ ·)) : twoB s = false ↔ s.Nodup := by
  constructor
  · intro h
    have h1 : ∀ i, i < s.length → 0 < i → s.getD (i - 1) 0 < s.getD i 0 := by
      intro i hi h0
      have h2 : s.getD (i - 1) 0 ≠ s.getD i 0 := by
        intro e
        rw [twoB_true hi h0 e] at h
        cases h
      have h3 := (List.pairwise_iff_getElem.1 hs) (i - 1) i (by omega) hi (by omega)
      have e1 : s.getD (i - 1) 0 = s[i - 1] := by simp [List.getD_eq_getElem?_getD, show i - 1 < s.length by omega]
      have e2 : s.getD i 0 = s[i] := by simp [List.getD_eq_getElem?_getD, hi]
      rw [e1, e2] at h2 ⊢
      omega
    have h4 : ∀ d i, i + d < s.length → 0 < d → s.getD i 0 < s.getD (i + d) 0 := by
      intro d
      induction d with
      | zero => intro i _ h0; omega
      | succ d ih =>
        intro i hi _
        have h5 := h1 (i + d + 1) (by omega) (by omega)
        rw [show i + d + 1 - 1 = i + d from rfl] at h5
        by_cases hd : d = 0
        · subst hd; exact h5
        · have h6 := ih i (by omega) (by omega)
          rw [show i + (d + 1) = i + d + 1 from rfl]
          omega
    rw [List.Nodup, List.pairwise_iff_getElem]
    intro i j hi hj hij e
    have h7 := h4 (j - i) i (by omega) (by omega)
    rw [show i + (j - i) = j by omega] at h7
    simp [List.getD_eq_getElem?_getD, hi, hj] at h7
    omega
  · intro h
    refine twoB_false fun i hi h0 e => ?_
    have h1 := (List.pairwise_iff_getElem.1 h) (i - 1) i (by omega) hi (by omega)
    have e1 : s.getD (i - 1) 0 = s[i - 1] := by simp [List.getD_eq_getElem?_getD, show i - 1 < s.length by omega]
    have e2 : s.getD i 0 = s[i] := by simp [List.getD_eq_getElem?_getD, hi]
    rw [e1, e2] at e
    exact h1 e
theorem twoB_sort (l : List Int) : twoB (sortZ l) = false ↔ l.Nodup := by
  rw [twoB_nodup (sortZ_sorted l)]
  exact (sortZ_perm l).nodup_iff
theorem okTo_nodup {xs : List Int} (h : OkTo xs xs.length) : xs.Nodup := by
  have h4 : ∀ d i, i + d < xs.length → 0 < d → xs.getD i 0 < xs.getD (i + d) 0 := by
    intro d
    induction d with
    | zero => intro i _ h0; omega
    | succ d ih =>
      intro i hi _
      have h5 := (okB_iff.1 (h (i + d + 1) (by omega))).2.2.resolve_left (by omega)
      rw [show i + d + 1 - 1 = i + d from rfl] at h5
      by_cases hd : d = 0
      · subst hd; exact h5
      · have h6 := ih i (by omega) (by omega)
        rw [show i + (d + 1) = i + d + 1 from rfl]
        omega
  rw [List.Nodup, List.pairwise_iff_getElem]
  intro i j hi hj hij e
  have h7 := h4 (j - i) i (by omega) (by omega)
  rw [show i + (j - i) = j by omega] at h7
  simp [List.getD_eq_getElem?_getD, hi, hj] at h7
  omega
theorem cmb_nodup (f : Int → Int → Int) (xs : List Int) {ys : List Int} (hy : ys.Nodup) (hf : ∀ x y y', f x y = f x y' → y = y') :
    (cmb f xs ys).Nodup ↔ (List.range xs.length).Pairwise fun i j => ∀ y, y ∈ ys → ∀ y', y' ∈ ys → f (xs.getD i 0) y ≠ f (xs.getD j 0) y' := by
  unfold cmb cmbTo
  rw [List.Nodup, List.pairwise_flatMap]
  constructor
  · rintro ⟨_, h⟩
    exact h.imp fun h y hy y' hy' => h _ (List.mem_map.2 ⟨y, hy, rfl⟩) _ (List.mem_map.2 ⟨y', hy', rfl⟩)
  · intro h
    refine ⟨fun i _ => ?_, h.imp fun h a ha b hb => ?_⟩
    · rw [List.pairwise_map]
      exact hy.imp fun hne e => hne (hf _ _ _ e)
    · obtain ⟨y, hy, rfl⟩ := List.mem_map.1 ha
      obtain ⟨y', hy', rfl⟩ := List.mem_map.1 hb
      exact h y hy y' hy'
theorem two_alike {xs ys : List Int} (h : errB xs ys = 0) : twoB (sortZ (cmb (fun x y => x + y) xs ys)) = twoB (sortZ (cmb (fun x y => x - y) xs ys)) := by
  have hy := okTo_nodup (errC_ok.1 (errB_ok h).2).2.2.1
  have e : twoB (sortZ (cmb (fun x y => x + y) xs ys)) = false ↔ twoB (sortZ (cmb (fun x y => x - y) xs ys)) = false := by
    rw [twoB_sort, twoB_sort, cmb_nodup _ xs hy (fun x y y' e => by omega), cmb_nodup _ xs hy (fun x y y' e => by omega)]
    constructor
    · intro h
      exact h.imp fun h y hy y' hy' e => h y' hy' y hy (by omega)
    · intro h
      exact h.imp fun h y hy y' hy' e => h y' hy' y hy (by omega)
  cases h1 : twoB (sortZ (cmb (fun x y => x + y) xs ys)) with
  | false => exact (e.1 h1).symm
  | true =>
    cases h2 : twoB (sortZ (cmb (fun x y => x - y) xs ys)) with
    | true => rfl
    | false => rw [e.2 h2] at h1; cases h1
end Go.Proofs.Ytllfkhcpdgdmnaa
