/- Which states are alike, by rounds; plain mathematics, no program. -/
import Derived.Test.YtkjnhdkbojcojaaMB
namespace Go.Proofs.Ytkjnhdkbojcojaa

/-- The first number below n + 1 for which p holds, or n. -/
def leastTo (p : Nat → Bool) : Nat → Nat → Nat
  | 0, k => k
  | m + 1, k => if p k then k else leastTo p m (k + 1)
/-- The marks of a state. -/
def mk0 (b : Bx) (_ : List Nat) (s : Nat) : Int := sgl b s
def mkK (b : Bx) (ks : List Nat) (x : Int) (s : Nat) : Nat := ks.getD (aft b s x) 0
def told (b : Bx) (ks : List Nat) (s t : Nat) : Bool := !(sgl b s == sgl b t) || (!(mkK b ks 0 s == mkK b ks 0 t) || !(mkK b ks 1 s == mkK b ks 1 t))
theorem told_self (b : Bx) (ks : List Nat) (s : Nat) : told b ks s s = false := by simp [told]
/-- The smallest state that no mark tells from s. -/
def leastS (b : Bx) (ks : List Nat) (s : Nat) : Nat := leastTo (fun t => !told b ks t s) s 0
theorem leastTo_at {p : Nat → Bool} : ∀ (m k : Nat), leastTo p m k ≤ k + m ∧ (p (k + m) = true → p (leastTo p m k) = true) ∧ k ≤ leastTo p m k ∧ ∀ j, k ≤ j → j < leastTo p m k → p j = false
  | 0, k => ⟨Nat.le_refl _, fun h => h, Nat.le_refl _, fun j h1 h2 => absurd h2 (by simp [leastTo]; omega)⟩
  | m + 1, k => by
    unfold leastTo
    by_cases h : p k = true
    · rw [if_pos h]
      exact ⟨by omega, fun _ => h, Nat.le_refl _, fun j h1 h2 => by omega⟩
    · rw [if_neg h]
      obtain ⟨h1, h2, h3, h4⟩ := leastTo_at m (k + 1)
      refine ⟨by omega, fun h5 => h2 (by rw [show k + 1 + m = k + (m + 1) by omega]; exact h5), by omega, fun j h5 h6 => ?_⟩
      by_cases e : j = k
      · subst e; simpa using h
      · exact h4 j (by omega) h6
section
variable (b : Bx) (ks : List Nat) (s : Nat)
theorem leastS_le : leastS b ks s ≤ s := by have := (leastTo_at (p := fun t => !told b ks t s) s 0).1; unfold leastS; omega
theorem leastS_told : told b ks (leastS b ks s) s = false := by
  have := (leastTo_at (p := fun t => !told b ks t s) s 0).2.1 (by rw [Nat.zero_add]; simp [told_self])
  simpa [leastS] using this
theorem leastS_first {t : Nat} (h : t < leastS b ks s) : told b ks t s = true := by
  have := (leastTo_at (p := fun t => !told b ks t s) s 0).2.2.2 t (Nat.zero_le _) h
  simpa using this
end
theorem leastS_eq {b : Bx} {ks : List Nat} {s t : Nat} (h : told b ks t s = false) (h2 : ∀ j, j < t → told b ks j s = true) : leastS b ks s = t := by
  rcases Nat.lt_trichotomy (leastS b ks s) t with h1 | h1 | h1
  · have := h2 _ h1; rw [leastS_told] at this; cases this
  · exact h1
  · have := leastS_first b ks s h1; rw [h] at this; cases this
def finV (b : Bx) (ks : List Nat) : List Nat := (List.range b.2.length).map (leastS b ks)
def kV (b : Bx) : Nat → List Nat
  | 0 => List.replicate b.2.length 0
  | r + 1 => finV b (kV b r)
def kindsV (b : Bx) : List Nat := kV b b.2.length
theorem finV_len (b : Bx) (ks : List Nat) : (finV b ks).length = b.2.length := by simp [finV]
theorem finV_get {b : Bx} {ks : List Nat} {s : Nat} (h : s < b.2.length) : (finV b ks).getD s 0 = leastS b ks s := by
  rw [finV, List.getD_eq_getElem?_getD]; simp [h]
theorem kV_len (b : Bx) : ∀ r, (kV b r).length = b.2.length
  | 0 => List.length_replicate
  | r + 1 => finV_len b _
theorem kV_lt {b : Bx} : ∀ (r : Nat) {s : Nat}, s < b.2.length → (kV b r).getD s 0 < b.2.length
  | 0, s, h => by
    simp only [kV]
    rw [List.getD_eq_getElem?_getD, List.getElem?_replicate, if_pos h]
    exact Nat.lt_of_le_of_lt (Nat.zero_le _) h
  | r + 1, s, h => by
    simp only [kV]
    rw [finV_get h]
    exact Nat.lt_of_le_of_lt (leastS_le _ _ _) h
end Go.Proofs.Ytkjnhdkbojcojaa
