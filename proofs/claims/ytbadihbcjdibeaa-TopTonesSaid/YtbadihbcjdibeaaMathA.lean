/- Plain mathematics of tones: lists of integers, no program. -/
namespace Go.Proofs.Ytbadihbcjdibeaa

/-- The element i modulo the length. -/
def sec (xs : List Int) (i : Int) : Int := xs.getD (i % (xs.length : Int)).toNat 0

def RepTo (xs : List Int) (p : Int) (k : Nat) : Prop := ∀ j : Nat, j < k → sec xs ((j : Int) + p) = xs.getD j 0
def repB (xs : List Int) (p : Int) : Bool := (List.range xs.length).all fun j => sec xs ((j : Int) + p) == xs.getD j 0

theorem repTo_zero (xs : List Int) (p : Int) : RepTo xs p 0 := fun _ h => absurd h (Nat.not_lt_zero _)
theorem repTo_succ {xs : List Int} {p : Int} {k : Nat} (h : RepTo xs p k) (e : sec xs ((k : Int) + p) = xs.getD k 0) : RepTo xs p (k + 1) := by
  intro j hj
  by_cases hjk : j = k
  · subst hjk; exact e
  · exact h j (by omega)
theorem repB_iff {xs : List Int} {p : Int} : repB xs p = true ↔ RepTo xs p xs.length := by
  unfold repB RepTo
  simp [List.all_eq_true]
theorem repB_true {xs : List Int} {p : Int} (h : RepTo xs p xs.length) : repB xs p = true := repB_iff.2 h
theorem repB_false {xs : List Int} {p : Int} {k : Nat} (hk : k < xs.length) (e : sec xs ((k : Int) + p) ≠ xs.getD k 0) : repB xs p = false := by
  cases h : repB xs p with
  | false => rfl
  | true => exact absurd (repB_iff.1 h k hk) e

theorem repB_len (xs : List Int) : repB xs xs.length = true := by
  refine repB_true fun j hj => ?_
  unfold sec
  rw [Int.add_emod_right, Int.emod_eq_of_lt (by omega) (by omega), Int.toNat_natCast]

/-- The period by search from q on, at most f steps. -/
def perFrom (xs : List Int) : Nat → Nat → Nat
  | 0, q => q
  | f + 1, q => if repB xs (q : Int) then q else perFrom xs f (q + 1)
def per (xs : List Int) : Nat := perFrom xs (xs.length - 1) 1

def NoRepTo (xs : List Int) (p : Nat) : Prop := ∀ q : Nat, 1 ≤ q → q < p → repB xs (q : Int) = false

theorem perFrom_spec (xs : List Int) : ∀ f q, 1 ≤ q → q + f = max q xs.length → 1 ≤ xs.length → NoRepTo xs q →
    (repB xs (perFrom xs f q : Int) = true ∨ perFrom xs f q = max q xs.length) ∧ q ≤ perFrom xs f q ∧ perFrom xs f q ≤ max q xs.length ∧ NoRepTo xs (perFrom xs f q) := by
  intro f
  induction f with
  | zero =>
    intro q h1 h2 h3 h4
    refine ⟨.inr (by simp [perFrom]; omega), Nat.le_refl _, by simp [perFrom]; omega, h4⟩
  | succ f ih =>
    intro q h1 h2 h3 h4
    unfold perFrom
    by_cases h : repB xs (q : Int) = true
    · rw [if_pos h]
      exact ⟨.inl h, Nat.le_refl _, by omega, h4⟩
    · rw [if_neg h]
      have hq : repB xs (q : Int) = false := by simpa using h
      have := ih (q + 1) (by omega) (by omega) h3 (fun r hr1 hr2 => by
        by_cases e : r = q
        · subst e; exact hq
        · exact h4 r hr1 (by omega))
      refine ⟨?_, by omega, by omega, this.2.2.2⟩
      rcases this.1 with g | g
      · exact .inl g
      · exact .inr (by omega)

theorem per_spec {xs : List Int} (h : 1 ≤ xs.length) : repB xs (per xs : Int) = true ∧ 1 ≤ per xs ∧ per xs ≤ xs.length ∧ NoRepTo xs (per xs) := by
  have := perFrom_spec xs (xs.length - 1) 1 (by omega) (by omega) h (fun q h1 h2 => by omega)
  refine ⟨?_, this.2.1, by have := this.2.2.1; unfold per; omega, this.2.2.2⟩
  rcases this.1 with g | g
  · exact g
  · have e : per xs = xs.length := by unfold per; rw [g]; omega
    rw [e]; exact repB_len xs
theorem per_unique {xs : List Int} {p : Nat} (h : 1 ≤ xs.length) (hp : 1 ≤ p) (hr : repB xs (p : Int) = true) (hn : NoRepTo xs p) : p = per xs := by
  obtain ⟨a, b, c, d⟩ := per_spec h
  rcases Nat.lt_trichotomy p (per xs) with g | g | g
  · have := d p hp g; rw [this] at hr; cases hr
  · exact g
  · have := hn (per xs) b g; rw [this] at a; cases a

/-- All elements are 0 or 1. -/
def bitsB (xs : List Int) : Bool := xs.all fun x => x == 0 || x == 1
def errOf (xs : List Int) : Int := if xs.length < 1 ∨ 24 < xs.length then 3 else if bitsB xs then 0 else 1
def bitErr (xs : List Int) : Int := if bitsB xs then 0 else 1
theorem bitsB_append (a : List Int) (x : Int) : bitsB (a ++ [x]) = (bitsB a && (x == 0 || x == 1)) := by simp [bitsB]
theorem bitsB_of_mem {xs : List Int} (h : bitsB xs = true) {x : Int} (hx : x ∈ xs) : x = 0 ∨ x = 1 := by
  have := List.all_eq_true.1 h x hx
  simpa using this
theorem bitsB_false {xs : List Int} {x : Int} (hx : x ∈ xs) (h0 : x ≠ 0) (h1 : x ≠ 1) : bitsB xs = false := by
  cases h : bitsB xs with
  | false => rfl
  | true => rcases bitsB_of_mem h hx with e | e <;> contradiction
theorem bitsB_true {xs : List Int} (h : ∀ k, k < xs.length → xs.getD k 0 = 0 ∨ xs.getD k 0 = 1) : bitsB xs = true := by
  refine List.all_eq_true.2 fun x hx => ?_
  obtain ⟨k, hk, rfl⟩ := List.getElem_of_mem hx
  have := h k hk
  simpa [List.getD_eq_getElem?_getD, hk] using this
def BitTo (xs : List Int) (k : Nat) : Prop := ∀ j, j < k → xs.getD j 0 = 0 ∨ xs.getD j 0 = 1
theorem bitTo_zero (xs : List Int) : BitTo xs 0 := fun _ h => absurd h (Nat.not_lt_zero _)
theorem bitTo_succ {xs : List Int} {k : Nat} (h : BitTo xs k) (e : xs.getD k 0 = 0 ∨ xs.getD k 0 = 1) : BitTo xs (k + 1) := by
  intro j hj
  by_cases hjk : j = k
  · subst hjk; exact e
  · exact h j (by omega)
theorem mem_getD {xs : List Int} {k : Nat} (h : k < xs.length) : xs.getD k 0 ∈ xs := by
  rw [List.getD_eq_getElem?_getD, List.getElem?_eq_getElem h]; exact List.getElem_mem h


theorem errOf_zero {xs : List Int} (h : errOf xs = 0) : 1 ≤ xs.length ∧ xs.length ≤ 24 ∧ bitsB xs = true := by
  unfold errOf at h
  split at h
  · omega
  · split at h
    · rename_i h1 h2; exact ⟨by omega, by omega, h2⟩
    · omega
theorem errOf_large {xs : List Int} (h : xs.length < 1 ∨ 24 < xs.length) : errOf xs = 3 := by unfold errOf; rw [if_pos h]
theorem errOf_fit {xs : List Int} (h1 : 1 ≤ xs.length) (h2 : xs.length ≤ 24) : errOf xs = bitErr xs := by unfold errOf bitErr; rw [if_neg (by omega)]
theorem bitErr_true {xs : List Int} (h : bitsB xs = true) : bitErr xs = 0 := by unfold bitErr; rw [if_pos h]
theorem bitErr_false {xs : List Int} (h : bitsB xs = false) : bitErr xs = 1 := by unfold bitErr; rw [h]; rfl
def okv (e v : Int) : Int := if e = 0 then v else 0
theorem okv_zero {e : Int} (h : e = 0) (v : Int) : okv e v = v := by unfold okv; rw [if_pos h]
theorem okv_ne {e : Int} (h : e ≠ 0) (v : Int) : okv e v = 0 := by unfold okv; rw [if_neg h]
def okb (e : Int) (v : Bool) : Bool := if e = 0 then v else false
theorem okb_zero {e : Int} (h : e = 0) (v : Bool) : okb e v = v := by unfold okb; rw [if_pos h]
theorem okb_ne {e : Int} (h : e ≠ 0) (v : Bool) : okb e v = false := by unfold okb; rw [if_neg h]
def err2 (xs ys : List Int) : Int := if errOf xs = 0 then errOf ys else errOf xs
theorem err2_zero {xs ys : List Int} (h : err2 xs ys = 0) : errOf xs = 0 ∧ errOf ys = 0 := by
  unfold err2 at h
  split at h
  · exact ⟨by assumption, h⟩
  · contradiction
theorem bitTo_all {xs : List Int} (h : BitTo xs xs.length) : bitsB xs = true := bitsB_true h
theorem noRepTo_one (xs : List Int) : NoRepTo xs 1 := fun q h1 h2 => by omega
theorem noRepTo_succ {xs : List Int} {p : Nat} (h : NoRepTo xs p) (e : repB xs (p : Int) = false) : NoRepTo xs (p + 1) := by
  intro q h1 h2
  by_cases e' : q = p
  · subst e'; exact e
  · exact h q h1 (by omega)

end Go.Proofs.Ytbadihbcjdibeaa
