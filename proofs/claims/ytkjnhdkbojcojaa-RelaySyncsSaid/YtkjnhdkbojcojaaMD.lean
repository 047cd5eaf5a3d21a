/- States that some word tells apart are told apart by a short one; plain mathematics, no program. -/
import Derived.Test.YtkjnhdkbojcojaaMK
namespace Go.Proofs.Ytkjnhdkbojcojaa

def Inp (l : List Int) : Prop := ∀ k ∈ l, k = 0 ∨ k = 1
theorem inp_cons {k : Int} {l : List Int} : Inp (k :: l) ↔ (k = 0 ∨ k = 1) ∧ Inp l := by simp [Inp]
section
variable {α : Type} (f : α → Int → α) (o : α → Int)
def eqR : Nat → α → α → Bool
  | 0, _, _ => true
  | r + 1, x, y => (o x == o y) && (eqR r (f x 0) (f y 0) && eqR r (f x 1) (f y 1))
variable {f o}
theorem eqR_iff : ∀ {r : Nat} {x y : α}, eqR f o r x y = true ↔ ∀ l : List Int, l.length < r → Inp l → o (l.foldl f x) = o (l.foldl f y)
  | 0, x, y => by simp [eqR]
  | r + 1, x, y => by
    unfold eqR
    rw [Bool.and_eq_true, Bool.and_eq_true, eqR_iff, eqR_iff, beq_iff_eq]
    constructor
    · rintro ⟨h0, h1, h2⟩ l hl hi
      cases l with
      | nil => exact h0
      | cons k l =>
        rw [inp_cons] at hi
        simp only [List.length_cons] at hl
        rcases hi.1 with rfl | rfl
        · exact h1 l (by omega) hi.2
        · exact h2 l (by omega) hi.2
    · intro h
      exact ⟨h [] (by simp) (by simp [Inp]), fun l hl hi => h (0 :: l) (by simp; omega) (inp_cons.2 ⟨.inl rfl, hi⟩), fun l hl hi => h (1 :: l) (by simp; omega) (inp_cons.2 ⟨.inr rfl, hi⟩)⟩
theorem eqR_refl (r : Nat) (x : α) : eqR f o r x x = true := eqR_iff.2 fun _ _ _ => rfl
theorem eqR_symm {r : Nat} {x y : α} (h : eqR f o r x y = true) : eqR f o r y x = true := eqR_iff.2 fun l h1 h2 => (eqR_iff.1 h l h1 h2).symm
theorem eqR_trans {r : Nat} {x y z : α} (h : eqR f o r x y = true) (k : eqR f o r y z = true) : eqR f o r x z = true := eqR_iff.2 fun l h1 h2 => (eqR_iff.1 h l h1 h2).trans (eqR_iff.1 k l h1 h2)
theorem eqR_mono {r s : Nat} (hrs : r ≤ s) {x y : α} (h : eqR f o s x y = true) : eqR f o r x y = true := eqR_iff.2 fun l h1 h2 => eqR_iff.1 h l (by omega) h2
theorem countP_lt {β : Type} {p q : β → Bool} : ∀ {l : List β}, (∀ x ∈ l, p x = true → q x = true) → (∃ x ∈ l, q x = true ∧ p x = false) → l.countP p < l.countP q
  | [], _, h => by obtain ⟨x, hx, _⟩ := h; cases hx
  | y :: l, h, hx => by
    have hm : l.countP p ≤ l.countP q := List.countP_mono_left fun x hx => h x (List.mem_cons_of_mem _ hx)
    rw [List.countP_cons, List.countP_cons]
    obtain ⟨x, hx1, hx2, hx3⟩ := hx
    rcases List.mem_cons.1 hx1 with e | e
    · subst e; rw [hx2, hx3]; simp; omega
    · have ih := countP_lt (l := l) (fun x hx => h x (List.mem_cons_of_mem _ hx)) ⟨x, e, hx2, hx3⟩
      have := h y (List.mem_cons_self ..)
      cases hp : p y <;> cases hq : q y <;> simp_all <;> omega
variable (g : Nat → α) (N : Nat)
def isRep (r i : Nat) : Bool := (List.range i).all fun j => !eqR f o r (g j) (g i)
variable {g N}
theorem isRep_iff {r i : Nat} : isRep (f := f) (o := o) g r i = true ↔ ∀ j, j < i → eqR f o r (g j) (g i) = false := by
  simp [isRep]
def Stab (f : α → Int → α) (o : α → Int) (g : Nat → α) (N r : Nat) : Prop := ∀ i j, i < N → j < N → eqR f o r (g i) (g j) = true → eqR f o (r + 1) (g i) (g j) = true
theorem rep_ex (r : Nat) : ∀ i, ∃ m, m ≤ i ∧ isRep (f := f) (o := o) g r m = true ∧ eqR f o r (g m) (g i) = true := by
  intro i
  induction i using Nat.strongRecOn with
  | ind i ih =>
    by_cases h : isRep (f := f) (o := o) g r i = true
    · exact ⟨i, Nat.le_refl _, h, eqR_refl _ _⟩
    · rw [isRep_iff] at h
      simp only [Classical.not_forall] at h
      obtain ⟨j, hj, hh⟩ := h
      have hh : eqR f o r (g j) (g i) = true := by simpa using hh
      obtain ⟨m, hm, h1, h2⟩ := ih j hj
      exact ⟨m, by omega, h1, eqR_trans h2 hh⟩
theorem cls_lt {r : Nat} (h : ¬ Stab f o g N r) : (List.range N).countP (isRep (f := f) (o := o) g r) < (List.range N).countP (isRep (f := f) (o := o) g (r + 1)) := by
  refine countP_lt (fun i _ hi => ?_) ?_
  · rw [isRep_iff] at hi ⊢
    intro j hj
    have := hi j hj
    cases hh : eqR f o (r + 1) (g j) (g i) with
    | false => rfl
    | true => rw [eqR_mono (Nat.le_succ r) hh] at this; cases this
  · unfold Stab at h
    simp only [Classical.not_forall] at h
    obtain ⟨i, j, hi, hj, h1, h2⟩ := h
    obtain ⟨m, hm, hr, he⟩ := rep_ex (f := f) (o := o) (g := g) r i
    have hmj := eqR_trans he h1
    have key : ∀ z, z < N → eqR f o r (g m) (g z) = true → ¬ eqR f o (r + 1) (g m) (g z) = true → ∃ x ∈ List.range N, isRep (f := f) (o := o) g (r + 1) x = true ∧ isRep (f := f) (o := o) g r x = false := by
      intro z hz h3 h4
      obtain ⟨q, hq, hqr, hqe⟩ := rep_ex (f := f) (o := o) (g := g) (r + 1) z
      refine ⟨q, List.mem_range.2 (by omega), hqr, ?_⟩
      have hmq : eqR f o r (g m) (g q) = true := eqR_trans h3 (eqR_symm (eqR_mono (Nat.le_succ r) hqe))
      have hne : m ≠ q := fun e => h4 (e ▸ hqe)
      rcases Nat.lt_or_ge m q with hlt | hge
      · cases hh : isRep (f := f) (o := o) g r q with
        | false => rfl
        | true =>
          rw [isRep_iff] at hh
          have := hh m hlt
          rw [hmq] at this; cases this
      · rw [isRep_iff] at hr
        have := hr q (by omega)
        rw [eqR_symm hmq] at this; cases this
    by_cases hmi : eqR f o (r + 1) (g m) (g i) = true
    · exact key j hj hmj fun h3 => h2 (eqR_trans (eqR_symm hmi) h3)
    · exact key i hi he hmi
theorem stab_ex (hN : 1 ≤ N) : ∃ r, r < N ∧ Stab f o g N r := by
  by_cases h : ∃ r, r < N ∧ Stab f o g N r
  · exact h
  · exfalso
    have h' : ∀ r, r < N → ¬ Stab f o g N r := fun r hr hs => h ⟨r, hr, hs⟩
    have hc : ∀ r, r ≤ N → r + 1 ≤ (List.range N).countP (isRep (f := f) (o := o) g r) := by
      intro r
      induction r with
      | zero =>
        intro _
        rw [Nat.zero_add]
        exact List.countP_pos_iff.2 ⟨0, List.mem_range.2 (by omega), isRep_iff.2 fun j hj => by omega⟩
      | succ r ih =>
        intro hr
        have h1 := ih (by omega)
        have h2 := cls_lt (h' r (by omega))
        omega
    have h1 := hc N (Nat.le_refl _)
    have h2 := List.countP_le_length (p := isRep (f := f) (o := o) g N) (l := List.range N)
    rw [List.length_range] at h2
    omega
theorem stab_on (hc : ∀ i, i < N → ∀ k, k = 0 ∨ k = 1 → ∃ j, j < N ∧ g j = f (g i) k) {r : Nat} (h : Stab f o g N r) : ∀ k, Stab f o g N (r + k)
  | 0 => h
  | k + 1 => fun i j hi hj he => by
    have ih := stab_on hc h k
    obtain ⟨i0, hi0, e0⟩ := hc i hi 0 (.inl rfl)
    obtain ⟨i1, hi1, e1⟩ := hc i hi 1 (.inr rfl)
    obtain ⟨j0, hj0, d0⟩ := hc j hj 0 (.inl rfl)
    obtain ⟨j1, hj1, d1⟩ := hc j hj 1 (.inr rfl)
    rw [← Nat.add_assoc] at he ⊢
    have he' := he
    unfold eqR at he
    rw [Bool.and_eq_true, Bool.and_eq_true] at he
    show ((o (g i) == o (g j)) && (eqR f o (r + k + 1) (f (g i) 0) (f (g j) 0) && eqR f o (r + k + 1) (f (g i) 1) (f (g j) 1))) = true
    rw [Bool.and_eq_true, Bool.and_eq_true]
    refine ⟨he.1, ?_, ?_⟩
    · rw [← e0, ← d0] at he ⊢; exact ih i0 j0 hi0 hj0 he.2.1
    · rw [← e1, ← d1] at he ⊢; exact ih i1 j1 hi1 hj1 he.2.2
theorem stab_all (hc : ∀ i, i < N → ∀ k, k = 0 ∨ k = 1 → ∃ j, j < N ∧ g j = f (g i) k) {r : Nat} (h : Stab f o g N r) {i j : Nat} (hi : i < N) (hj : j < N) (he : eqR f o r (g i) (g j) = true) : ∀ k, eqR f o (r + k) (g i) (g j) = true
  | 0 => he
  | k + 1 => stab_on hc h k i j hi hj (stab_all hc h hi hj he k)
/-- What some word tells apart, a word with fewer inputs than there are states less one tells apart. -/
theorem moore (hc : ∀ i, i < N → ∀ k, k = 0 ∨ k = 1 → ∃ j, j < N ∧ g j = f (g i) k) {i j : Nat} (hi : i < N) (hj : j < N) {l : List Int} (hl : Inp l) (h : o (l.foldl f (g i)) ≠ o (l.foldl f (g j))) :
    ∃ m : List Int, m.length + 1 < N ∧ Inp m ∧ o (m.foldl f (g i)) ≠ o (m.foldl f (g j)) := by
  obtain ⟨r, hr, hs⟩ := stab_ex (f := f) (o := o) (g := g) (N := N) (by omega)
  by_cases he : eqR f o r (g i) (g j) = true
  · have := stab_all hc hs hi hj he (l.length + 1)
    exact absurd (eqR_iff.1 this l (by omega) hl) h
  · rw [eqR_iff] at he
    simp only [Classical.not_forall] at he
    obtain ⟨m, h1, h2, h3⟩ := he
    exact ⟨m, by omega, h2, h3⟩
/-- So many rounds tell apart whatever words do. -/
theorem moore_eq (hc : ∀ i, i < N → ∀ k, k = 0 ∨ k = 1 → ∃ j, j < N ∧ g j = f (g i) k) {i j : Nat} (hi : i < N) (hj : j < N) (h : eqR f o N (g i) (g j) = true) {l : List Int} (hl : Inp l) : o (l.foldl f (g i)) = o (l.foldl f (g j)) := by
  by_cases e : o (l.foldl f (g i)) = o (l.foldl f (g j))
  · exact e
  · obtain ⟨m, h1, h2, h3⟩ := moore hc hi hj hl e
    exact absurd (eqR_iff.1 h m (by omega) h2) h3
end
end Go.Proofs.Ytkjnhdkbojcojaa
