/- The mathematics of cliffs: which ones are right. -/
namespace Go.Proofs.Ytllfkhcpdgdmnaa

/-- The place at i is right behind the one before it. -/
def okB (xs : List Int) (i : Nat) : Bool := decide (-60 ≤ xs.getD i 0) && decide (xs.getD i 0 ≤ 60) && (decide (i = 0) || decide (xs.getD (i - 1) 0 < xs.getD i 0))
theorem okB_iff {xs : List Int} {i : Nat} : okB xs i = true ↔ (-60 ≤ xs.getD i 0 ∧ xs.getD i 0 ≤ 60 ∧ (i = 0 ∨ xs.getD (i - 1) 0 < xs.getD i 0)) := by
  simp [okB, and_assoc]
/-- The first k are right. -/
def OkTo (xs : List Int) (k : Nat) : Prop := ∀ i, i < k → okB xs i = true
theorem okTo_zero (xs : List Int) : OkTo xs 0 := fun i h => by omega
theorem okTo_succ {xs : List Int} {k : Nat} (h : OkTo xs k) (h1 : okB xs k = true) : OkTo xs (k + 1) := by
  intro i hi
  by_cases e : i = k
  · subst e; exact h1
  · exact h i (by omega)
def ext (xs : List Int) : Int := xs.getD (xs.length - 1) 0 - xs.getD 0 0
/-- The error of cliffs. -/
def errC (xs : List Int) : Int := if xs.length < 1 ∨ 6 < xs.length then 3 else if (List.range xs.length).all (okB xs) ∧ ext xs ≤ 60 then 0 else 1
theorem errC_large {xs : List Int} (h : xs.length < 1 ∨ 6 < xs.length) : errC xs = 3 := by unfold errC; rw [if_pos h]
theorem errC_fine {xs : List Int} (h1 : 1 ≤ xs.length) (h2 : xs.length ≤ 6) (h : OkTo xs xs.length) (he : ext xs ≤ 60) : errC xs = 0 := by
  unfold errC
  rw [if_neg (by omega), if_pos]
  exact ⟨by rw [List.all_eq_true]; intro i hi; exact h i (List.mem_range.1 hi), he⟩
theorem errC_arg {xs : List Int} (h1 : 1 ≤ xs.length) (h2 : xs.length ≤ 6) {k : Nat} (hk : k < xs.length) (h : okB xs k = false) : errC xs = 1 := by
  unfold errC
  rw [if_neg (by omega), if_neg]
  rintro ⟨hh, _⟩
  rw [List.all_eq_true] at hh
  rw [hh k (List.mem_range.2 hk)] at h
  cases h
theorem errC_far {xs : List Int} (h1 : 1 ≤ xs.length) (h2 : xs.length ≤ 6) (h : 60 < ext xs) : errC xs = 1 := by
  unfold errC
  rw [if_neg (by omega), if_neg]
  rintro ⟨_, hh⟩
  omega
theorem errC_ok {xs : List Int} : errC xs = 0 ↔ (1 ≤ xs.length ∧ xs.length ≤ 6 ∧ OkTo xs xs.length ∧ ext xs ≤ 60) := by
  constructor
  · intro h
    unfold errC at h
    split at h
    · cases h
    · split at h
      · rename_i h1 h2
        exact ⟨by omega, by omega, fun i hi => (List.all_eq_true.1 h2.1) i (List.mem_range.2 hi), h2.2⟩
      · cases h
  · rintro ⟨h1, h2, h3, h4⟩
    exact errC_fine h1 h2 h3 h4
/-- What comes before the place at k. -/
def prev (xs : List Int) (k : Nat) : Int := if k = 0 then -61 else xs.getD (k - 1) 0
theorem prev_ge {xs : List Int} {k : Nat} (h : OkTo xs k) : -61 ≤ prev xs k ∧ prev xs k ≤ 60 := by
  unfold prev
  split
  · omega
  · have := okB_iff.1 (h (k - 1) (by omega))
    omega
theorem okB_step {xs : List Int} {k : Nat} (h : OkTo xs k) (h1 : prev xs k < xs.getD k 0) (h2 : xs.getD k 0 ≤ 60) : okB xs k = true := by
  have h3 := prev_ge h
  refine okB_iff.2 ⟨by omega, h2, ?_⟩
  unfold prev at h1
  split at h1
  · exact .inl ‹_›
  · exact .inr h1
theorem okB_fail {xs : List Int} {k : Nat} (h1 : xs.getD k 0 ≤ prev xs k ∨ 60 < xs.getD k 0) : okB xs k = false := by
  apply Bool.eq_false_iff.2
  intro h
  have h2 := okB_iff.1 h
  unfold prev at h1
  split at h1
  · omega
  · have := h2.2.2
    omega
theorem prev_succ (xs : List Int) (k : Nat) : prev xs (k + 1) = xs.getD k 0 := by simp [prev]
end Go.Proofs.Ytllfkhcpdgdmnaa
