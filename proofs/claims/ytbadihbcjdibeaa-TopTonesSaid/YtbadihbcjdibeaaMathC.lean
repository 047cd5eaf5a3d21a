/- Plain mathematics of tones: which tones are the same, or alike. -/
import Derived.Test.YtbadihbcjdibeaaMathB
namespace Go.Proofs.Ytbadihbcjdibeaa

theorem repB_all {xs : List Int} {p : Nat} (h : 1 ≤ xs.length) : repB xs (p : Int) = true ↔ ∀ i : Int, sec xs (i + (p : Int)) = sec xs i := by
  constructor
  · exact fun hr i => sec_rep h hr i
  · intro hr
    exact repB_true fun j hj => by rw [hr, sec_nat hj]

theorem per_congr {xs ys : List Int} {b : Int} (h : 1 ≤ xs.length) (h' : 1 ≤ ys.length) (e : ∀ i : Int, sec xs (i + b) = sec ys i) : per xs = per ys := by
  have iff : ∀ p : Nat, repB xs (p : Int) = true ↔ repB ys (p : Int) = true := by
    intro p
    rw [repB_all h, repB_all h']
    constructor
    · intro g i
      rw [← e, ← e, ← g (i + b)]
      congr 1; omega
    · intro g i
      have a := e (i - b + p)
      have c := e (i - b)
      rw [show i - b + p + b = i + p from by omega] at a
      rw [show i - b + b = i from by omega] at c
      rw [a, c, g]
  obtain ⟨a1, a2, a3, a4⟩ := per_spec h
  refine per_unique h' a2 ((iff _).1 a1) fun q h1 h2 => ?_
  have := a4 q h1 h2
  cases hq : repB ys (q : Int) with
  | false => rfl
  | true => rw [(iff q).2 hq] at this; cases this

theorem root_same {xs ys : List Int} (h : 1 ≤ xs.length) (h' : 1 ≤ ys.length) : eqL (rootL xs) (rootL ys) = true ↔ ∀ i : Int, sec xs i = sec ys i := by
  rw [eqL_iff]
  constructor
  · intro e i
    rw [← sec_root h, ← sec_root h', e]
  · intro e
    have hp := per_congr (b := 0) h h' (fun i => by rw [Int.add_zero]; exact e i)
    unfold rootL pieceL
    rw [hp]
    exact List.map_congr_left fun j _ => e _

def sameB (xs ys : List Int) (b : Int) (k : Nat) : Bool := (List.range k).all fun (i : Nat) => sec xs ((i : Int) + b) == sec ys (i : Int)
theorem sameB_succ_true {xs ys : List Int} {b : Int} {k : Nat} (h : sameB xs ys b k = true) (e : sec xs ((k : Int) + b) = sec ys (k : Int)) : sameB xs ys b (k + 1) = true := by
  unfold sameB at *
  simp [List.range_succ] at *
  exact ⟨h, e⟩
theorem sameB_false {xs ys : List Int} {b : Int} {k m : Nat} (hk : k < m) (e : sec xs ((k : Int) + b) ≠ sec ys (k : Int)) : sameB xs ys b m = false := by
  cases h : sameB xs ys b m with
  | false => rfl
  | true =>
    unfold sameB at h
    rw [List.all_eq_true] at h
    have := h k (List.mem_range.2 hk)
    simp at this
    exact absurd this e
theorem sameB_zero (xs ys : List Int) (b : Int) : sameB xs ys b 0 = true := rfl
theorem sec_emod_mul {xs : List Int} (i : Int) (m : Nat) (b : Int) : sec xs (i % ((xs.length * m : Nat) : Int) + b) = sec xs (i + b) := by
  refine sec_congr ?_
  have d := Int.emod_add_mul_ediv i ((xs.length * m : Nat) : Int)
  have e : i + b = (i % ((xs.length * m : Nat) : Int) + b) + (xs.length : Int) * ((m : Int) * (i / ((xs.length * m : Nat) : Int))) := by
    rw [← Int.mul_assoc, ← Int.natCast_mul]; omega
  rw [e, Int.add_mul_emod_self_left]
theorem sameB_all {xs ys : List Int} {b : Int} (h : 1 ≤ xs.length) (h' : 1 ≤ ys.length) : sameB xs ys b (xs.length * ys.length) = true ↔ ∀ i : Int, sec xs (i + b) = sec ys i := by
  have hpos : 0 < xs.length * ys.length := Nat.mul_pos h h'
  constructor
  · intro g i
    unfold sameB at g
    rw [List.all_eq_true] at g
    have e1 := Int.emod_lt_of_pos i (show (0 : Int) < ((xs.length * ys.length : Nat) : Int) by omega)
    have e2 := Int.emod_nonneg i (show ((xs.length * ys.length : Nat) : Int) ≠ 0 by omega)
    have := g (i % ((xs.length * ys.length : Nat) : Int)).toNat (List.mem_range.2 (by omega))
    rw [beq_iff_eq, Int.toNat_of_nonneg e2, sec_emod_mul] at this
    rw [this]
    have e := sec_emod_mul (xs := ys) i xs.length 0
    rw [Nat.mul_comm, Int.add_zero, Int.add_zero] at e
    exact e
  · intro g
    unfold sameB
    rw [List.all_eq_true]
    intro i _
    rw [beq_iff_eq, g]

theorem same_eq {xs ys : List Int} (h : 1 ≤ xs.length) (h' : 1 ≤ ys.length) : eqL (rootL xs) (rootL ys) = sameB xs ys 0 (xs.length * ys.length) := by
  rw [Bool.eq_iff_iff, root_same h h', sameB_all h h']
  constructor
  · intro g i; rw [Int.add_zero]; exact g i
  · intro g i; have := g i; rwa [Int.add_zero] at this

/-! Order of lists of one length. -/
theorem cmpL_anti (a : List Int) : ∀ b, cmpL b a = - cmpL a b := by
  induction a with
  | nil => intro b; cases b <;> simp [cmpL]
  | cons x a ih =>
    intro b
    cases b with
    | nil => simp [cmpL]
    | cons y b =>
      rw [cmpL_cons, cmpL_cons, ih b]
      split <;> split <;> first | omega | rfl
theorem cmpL_eq_zero (a : List Int) : ∀ b, cmpL a b = 0 → a = b := by
  induction a with
  | nil => intro b h; cases b with
    | nil => rfl
    | cons y b => simp [cmpL] at h
  | cons x a ih =>
    intro b h
    cases b with
    | nil => simp [cmpL] at h
    | cons y b =>
      rw [cmpL_cons] at h
      split at h
      · omega
      · split at h
        · omega
        · rw [ih b h, show x = y from by omega]
theorem cmpL_trans (a : List Int) : ∀ b c, cmpL a b ≤ 0 → cmpL b c ≤ 0 → cmpL a c ≤ 0 := by
  induction a with
  | nil => intro b c _ _; cases c <;> simp [cmpL]
  | cons x a ih =>
    intro b c h1 h2
    cases b with
    | nil => simp [cmpL] at h1
    | cons y b =>
      cases c with
      | nil => simp [cmpL] at h2
      | cons z c =>
        rw [cmpL_cons] at *
        have hx : x ≤ y := by split at h1 <;> (try split at h1) <;> omega
        have hy : y ≤ z := by split at h2 <;> (try split at h2) <;> omega
        by_cases hxz : x < z
        · rw [if_pos hxz]; omega
        · have e1 : x = y := by omega
          have e2 : y = z := by omega
          rw [if_neg (by omega), if_neg (by omega)] at h1 h2 ⊢
          exact ih b c h1 h2
theorem cmpL_antisymm {a b : List Int} (h1 : cmpL a b ≤ 0) (h2 : cmpL b a ≤ 0) : a = b := by
  rw [cmpL_anti] at h2
  exact cmpL_eq_zero a b (by omega)

theorem bestTo_mem (xs : List Int) (p : Nat) : ∀ k, 1 ≤ p → k ≤ p → ∃ a : Nat, a < p ∧ bestTo xs p k = pieceL xs (a : Int) p := by
  intro k
  induction k with
  | zero => intro hp _; exact ⟨0, by omega, rfl⟩
  | succ k ih =>
    intro hp hk
    cases h : befB (pieceL xs (k : Int) p) (bestTo xs p k) with
    | true => exact ⟨k, by omega, bestTo_yes h⟩
    | false => rw [bestTo_no h]; exact ih hp (by omega)
theorem bestTo_le (xs : List Int) (p : Nat) : ∀ k, ∀ j : Nat, j < k → cmpL (bestTo xs p k) (pieceL xs (j : Int) p) ≤ 0 := by
  intro k
  induction k with
  | zero => intro j hj; omega
  | succ k ih =>
    intro j hj
    cases h : befB (pieceL xs (k : Int) p) (bestTo xs p k) with
    | true =>
      rw [bestTo_yes h]
      by_cases e : j = k
      · subst e; rw [cmpL_self]; omega
      · exact cmpL_trans _ _ _ (by have := befB_lt h; omega) (ih j (by omega))
    | false =>
      rw [bestTo_no h]
      by_cases e : j = k
      · subst e
        have := befB_ge h
        rw [cmpL_anti]; omega
      · exact ih j (by omega)
theorem name_mem {xs : List Int} (h : 1 ≤ xs.length) : ∃ a : Nat, nameL xs = pieceL xs (a : Int) (per xs) := by
  obtain ⟨_, s2, _, _⟩ := per_spec h
  obtain ⟨a, _, e⟩ := bestTo_mem xs (per xs) (per xs) s2 (Nat.le_refl _)
  exact ⟨a, e⟩
theorem piece_emod {xs : List Int} (h : 1 ≤ xs.length) (i : Int) (n : Nat) : pieceL xs (i % (per xs : Int)) n = pieceL xs i n := by
  obtain ⟨s1, s2, _, _⟩ := per_spec h
  refine piece_congr n fun j => ?_
  rw [← sec_rep_emod h s2 s1, ← sec_rep_emod h s2 s1 (i + j), Int.emod_add_emod]
theorem name_le {xs : List Int} (h : 1 ≤ xs.length) (i : Int) : cmpL (nameL xs) (pieceL xs i (per xs)) ≤ 0 := by
  obtain ⟨s1, s2, _, _⟩ := per_spec h
  have e1 := Int.emod_lt_of_pos i (show (0 : Int) < per xs by omega)
  have e2 := Int.emod_nonneg i (show (per xs : Int) ≠ 0 by omega)
  have := bestTo_le xs (per xs) (per xs) (i % (per xs : Int)).toNat (by omega)
  rw [Int.toNat_of_nonneg e2, piece_emod h] at this
  exact this

def Alk (xs ys : List Int) : Prop := ∃ b : Int, ∀ i : Int, sec xs (i + b) = sec ys i
theorem name_alike {xs ys : List Int} (h : 1 ≤ xs.length) (h' : 1 ≤ ys.length) : eqL (nameL xs) (nameL ys) = true ↔ Alk xs ys := by
  rw [eqL_iff]
  constructor
  · intro e
    obtain ⟨a, ea⟩ := name_mem h
    obtain ⟨b, eb⟩ := name_mem h'
    have hp : per xs = per ys := by
      have := congrArg List.length e
      rwa [nameL_length, nameL_length] at this
    obtain ⟨s1, s2, _, _⟩ := per_spec h
    obtain ⟨t1, t2, _, _⟩ := per_spec h'
    rw [ea, eb, ← hp] at e
    have g : ∀ j : Nat, j < per xs → sec xs ((a : Int) + (j : Int)) = sec ys ((b : Int) + (j : Int)) := by
      intro j hj
      rw [← pieceL_getD hj, e, pieceL_getD hj]
    refine ⟨(a : Int) - b, fun i => ?_⟩
    have e1 := Int.emod_lt_of_pos (i - b) (show (0 : Int) < per xs by omega)
    have e2 := Int.emod_nonneg (i - b) (show (per xs : Int) ≠ 0 by omega)
    have k := g ((i - b) % (per xs : Int)).toNat (by omega)
    rw [Int.toNat_of_nonneg e2] at k
    have k1 : sec xs ((a : Int) + (i - b) % (per xs : Int)) = sec xs (i + ((a : Int) - b)) := by
      rw [← sec_rep_emod h s2 s1, Int.add_emod_emod, sec_rep_emod h s2 s1]
      congr 1; omega
    have k2 : sec ys ((b : Int) + (i - b) % (per xs : Int)) = sec ys i := by
      rw [hp, ← sec_rep_emod h' t2 t1, Int.add_emod_emod, sec_rep_emod h' t2 t1]
      congr 1; omega
    rw [← k1, ← k2, k]
  · rintro ⟨b, g⟩
    have hp := per_congr h h' g
    have q : ∀ (i : Int) (n : Nat), pieceL ys i n = pieceL xs (i + b) n := by
      intro i n
      unfold pieceL
      refine List.map_congr_left fun j _ => ?_
      rw [← g]; congr 1; omega
    obtain ⟨x, ex⟩ := name_mem h
    obtain ⟨y, ey⟩ := name_mem h'
    refine cmpL_antisymm ?_ ?_
    · rw [ey, q, ← hp]
      exact name_le h _
    · have := name_le h' ((x : Int) - b)
      rw [q, show (x : Int) - b + b = x from by omega, ← hp, ← ex] at this
      exact this

def alikeTo (xs ys : List Int) (k : Nat) : Bool := (List.range k).any fun (b : Nat) => sameB xs ys (b : Int) (xs.length * ys.length)
theorem alikeTo_zero (xs ys : List Int) : alikeTo xs ys 0 = false := rfl
theorem alikeTo_succ {xs ys : List Int} {k : Nat} (h : alikeTo xs ys k = false) (e : sameB xs ys (k : Int) (xs.length * ys.length) = false) : alikeTo xs ys (k + 1) = false := by
  unfold alikeTo at *
  simp [List.range_succ] at *
  exact ⟨h, e⟩
theorem alikeTo_true {xs ys : List Int} {k m : Nat} (hk : k < m) (e : sameB xs ys (k : Int) (xs.length * ys.length) = true) : alikeTo xs ys m = true := by
  unfold alikeTo
  rw [List.any_eq_true]
  exact ⟨k, List.mem_range.2 hk, e⟩
theorem alike_eq {xs ys : List Int} (h : 1 ≤ xs.length) (h' : 1 ≤ ys.length) : eqL (nameL xs) (nameL ys) = alikeTo xs ys xs.length := by
  rw [Bool.eq_iff_iff, name_alike h h']
  unfold alikeTo
  rw [List.any_eq_true]
  constructor
  · rintro ⟨b, g⟩
    have e1 := Int.emod_lt_of_pos b (show (0 : Int) < xs.length by omega)
    have e2 := Int.emod_nonneg b (show (xs.length : Int) ≠ 0 by omega)
    refine ⟨(b % (xs.length : Int)).toNat, List.mem_range.2 (by omega), (sameB_all h h').2 fun i => ?_⟩
    rw [Int.toNat_of_nonneg e2, ← g]
    exact sec_congr (by rw [Int.add_emod_emod])
  · rintro ⟨b, _, g⟩
    exact ⟨(b : Int), (sameB_all h h').1 g⟩

/-! The first second at which two tones differ. -/
def agreeO (xs ys : List Int) : Option Nat := (List.range (xs.length * ys.length)).find? fun (i : Nat) => sec xs (i : Int) != sec ys (i : Int)
theorem find_range_some {m : Nat} {p : Nat → Bool} {d : Nat} (hd : d < m) (h1 : p d = true) (h2 : ∀ j, j < d → p j = false) : (List.range m).find? p = some d := by
  rw [List.find?_range_eq_some]
  exact ⟨h1, by simpa using hd, fun j hj => by simp [h2 j hj]⟩
theorem agreeO_some {xs ys : List Int} {d : Nat} (hd : d < xs.length * ys.length) (h1 : sec xs (d : Int) ≠ sec ys (d : Int)) (h2 : ∀ j : Nat, j < d → sec xs (j : Int) = sec ys (j : Int)) : agreeO xs ys = some d :=
  find_range_some hd (by simp [h1]) fun j hj => by simp [h2 j hj]
theorem agreeO_none {xs ys : List Int} (h : ∀ j : Nat, j < xs.length * ys.length → sec xs (j : Int) = sec ys (j : Int)) : agreeO xs ys = none := by
  unfold agreeO
  rw [List.find?_eq_none]
  intro j hj
  simp [h j (List.mem_range.1 hj)]
theorem agreeO_spec {xs ys : List Int} (h : 1 ≤ xs.length) (h' : 1 ≤ ys.length) :
    (agreeO xs ys = none ∧ eqL (rootL xs) (rootL ys) = true) ∨
    ∃ d : Nat, agreeO xs ys = some d ∧ d < xs.length * ys.length ∧ sec xs (d : Int) ≠ sec ys (d : Int) ∧ (∀ j : Nat, j < d → sec xs (j : Int) = sec ys (j : Int)) ∧ eqL (rootL xs) (rootL ys) = false := by
  cases hg : agreeO xs ys with
  | none =>
    left
    refine ⟨rfl, ?_⟩
    unfold agreeO at hg
    rw [List.find?_eq_none] at hg
    rw [same_eq h h']
    unfold sameB
    rw [List.all_eq_true]
    intro i hi
    have := hg i hi
    simp at this
    simp [this]
  | some d =>
    right
    unfold agreeO at hg
    rw [List.find?_range_eq_some] at hg
    obtain ⟨g1, g2, g3⟩ := hg
    have g1' : sec xs (d : Int) ≠ sec ys (d : Int) := by simpa using g1
    refine ⟨d, rfl, by simpa using g2, g1', fun j hj => by simpa using g3 j hj, ?_⟩
    cases he : eqL (rootL xs) (rootL ys) with
    | false => rfl
    | true => exact absurd ((root_same h h').1 he d) g1'

theorem sameB_zero_all {xs ys : List Int} {k : Nat} (h : sameB xs ys 0 k = true) : ∀ j : Nat, j < k → sec xs (j : Int) = sec ys (j : Int) := by
  intro j hj
  unfold sameB at h
  rw [List.all_eq_true] at h
  have := h j (List.mem_range.2 hj)
  rwa [beq_iff_eq, Int.add_zero] at this

end Go.Proofs.Ytbadihbcjdibeaa
