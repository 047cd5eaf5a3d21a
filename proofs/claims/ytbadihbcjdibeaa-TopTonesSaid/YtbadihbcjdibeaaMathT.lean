/- Plain mathematics: lists turned round, and with 0 and 1 exchanged. -/
import Derived.Test.YtbadihbcjdibeaaMathC
namespace Go.Proofs.Ytbadihbcjdibeaa

def revTo (xs : List Int) : Nat → List Int
  | 0 => xs
  | k + 1 => ((revTo xs k).set k ((revTo xs k).getD (xs.length - 1 - k) 0)).set (xs.length - 1 - k) ((revTo xs k).getD k 0)
theorem revTo_succ (xs : List Int) (k : Nat) : revTo xs (k + 1) = ((revTo xs k).set k ((revTo xs k).getD (xs.length - 1 - k) 0)).set (xs.length - 1 - k) ((revTo xs k).getD k 0) := rfl
theorem revTo_length (xs : List Int) (k : Nat) : (revTo xs k).length = xs.length := by
  induction k with
  | zero => rfl
  | succ k ih => rw [revTo_succ, List.length_set, List.length_set, ih]
theorem getD_set {l : List Int} {i j : Nat} {v : Int} (hi : i < l.length) : (l.set i v).getD j 0 = if i = j then v else l.getD j 0 := by
  simp only [List.getD_eq_getElem?_getD, List.getElem?_set]
  split
  · rename_i h; simp_all
  · rfl
theorem revTo_get (xs : List Int) : ∀ k, 2 * k ≤ xs.length → ∀ j, j < xs.length → (revTo xs k).getD j 0 = if j < k ∨ xs.length - k ≤ j then xs.getD (xs.length - 1 - j) 0 else xs.getD j 0 := by
  intro k
  induction k with
  | zero => intro _ j hj; rw [if_neg (by omega)]; rfl
  | succ k ih =>
    intro hk j hj
    rw [revTo_succ, getD_set (by rw [List.length_set, revTo_length]; omega), getD_set (by rw [revTo_length]; omega), ih (by omega) k (by omega), ih (by omega) (xs.length - 1 - k) (by omega), ih (by omega) j hj,
      if_neg (show ¬ (k < k ∨ xs.length - k ≤ k) by omega), if_neg (show ¬ (xs.length - 1 - k < k ∨ xs.length - k ≤ xs.length - 1 - k) by omega)]
    by_cases h1 : xs.length - 1 - k = j
    · rw [if_pos h1, if_pos (by omega)]; congr 1; omega
    · rw [if_neg h1]
      by_cases h2 : k = j
      · rw [if_pos h2, if_pos (by omega)]; congr 1; omega
      · rw [if_neg h2]
        by_cases h3 : j < k ∨ xs.length - k ≤ j
        · rw [if_pos h3, if_pos (by omega)]
        · rw [if_neg h3, if_neg (by omega)]
theorem getD_reverse {xs : List Int} {j : Nat} (h : j < xs.length) : xs.reverse.getD j 0 = xs.getD (xs.length - 1 - j) 0 := by
  simp only [List.getD_eq_getElem?_getD]
  rw [List.getElem?_reverse h]
theorem revTo_all {xs : List Int} {k : Nat} (h1 : 2 * k ≤ xs.length) (h2 : xs.length ≤ 2 * k + 1) : revTo xs k = xs.reverse := by
  apply list_ext_getD
  · rw [revTo_length, List.length_reverse]
  · intro j hj
    rw [revTo_length] at hj
    rw [revTo_get xs k h1 j hj, getD_reverse hj]
    by_cases h3 : j < k ∨ xs.length - k ≤ j
    · rw [if_pos h3]
    · rw [if_neg h3]; congr 1; omega

def mapTo (f : Nat → Int) (k : Nat) : List Int := (List.range k).map f
theorem mapTo_succ (f : Nat → Int) (k : Nat) : mapTo f (k + 1) = mapTo f k ++ [f k] := by simp [mapTo, List.range_succ]
theorem mapTo_length (f : Nat → Int) (k : Nat) : (mapTo f k).length = k := by simp [mapTo]
theorem mapTo_getD {f : Nat → Int} {k j : Nat} (h : j < k) : (mapTo f k).getD j 0 = f j := by simp [mapTo, List.getD_eq_getElem?_getD, h]
def fillF (f : Nat → Int) (n k : Nat) : List Int := mapTo f k ++ List.replicate (n - k) 0
theorem fillF_zero (f : Nat → Int) (n : Nat) : fillF f n 0 = List.replicate n 0 := by simp [fillF, mapTo]
theorem fillF_set {f : Nat → Int} {n k : Nat} (h : k < n) : (fillF f n k).set k (f k) = fillF f n (k + 1) := fill_set f h
theorem fillF_all (f : Nat → Int) (n : Nat) : fillF f n n = mapTo f n := by simp [fillF]
def swapF (xs : List Int) (j : Nat) : Int := 1 - xs.getD j 0
def swapL (xs : List Int) : List Int := mapTo (swapF xs) xs.length
def backF (xs : List Int) (j : Nat) : Int := xs.getD (xs.length - 1 - j) 0
theorem back_eq (xs : List Int) : mapTo (backF xs) xs.length = xs.reverse := by
  apply list_ext_getD
  · rw [mapTo_length, List.length_reverse]
  · intro j hj
    rw [mapTo_length] at hj
    rw [mapTo_getD hj, getD_reverse hj]; rfl
theorem swapL_length (xs : List Int) : (swapL xs).length = xs.length := mapTo_length _ _
theorem sec_swap {xs : List Int} (h : 1 ≤ xs.length) (i : Int) : sec (swapL xs) i = 1 - sec xs i := by
  have e1 := Int.emod_lt_of_pos i (show (0 : Int) < xs.length by omega)
  have e2 := Int.emod_nonneg i (show (xs.length : Int) ≠ 0 by omega)
  show (swapL xs).getD (i % ((swapL xs).length : Int)).toNat 0 = _
  rw [swapL_length, show swapL xs = mapTo (swapF xs) xs.length from rfl, mapTo_getD (by omega)]
  rfl
theorem sec_back {xs : List Int} (h : 1 ≤ xs.length) (i : Int) : sec xs.reverse i = sec xs (-1 - i) := by
  have e1 := Int.emod_lt_of_pos i (show (0 : Int) < xs.length by omega)
  have e2 := Int.emod_nonneg i (show (xs.length : Int) ≠ 0 by omega)
  show xs.reverse.getD (i % ((xs.reverse).length : Int)).toNat 0 = _
  rw [List.length_reverse, getD_reverse (by omega)]
  have k : (((xs.length - 1 - (i % (xs.length : Int)).toNat : Nat)) : Int) = -1 - i % (xs.length : Int) + xs.length := by omega
  rw [← sec_nat (by omega), k]
  refine sec_congr ?_
  rw [Int.add_emod_right, Int.sub_emod, Int.emod_emod_of_dvd _ (Int.dvd_refl _), ← Int.sub_emod]
theorem per_of_iff {xs ys : List Int} (h : 1 ≤ xs.length) (h' : 1 ≤ ys.length) (iff : ∀ p : Nat, repB xs (p : Int) = true ↔ repB ys (p : Int) = true) : per xs = per ys := by
  obtain ⟨a1, a2, a3, a4⟩ := per_spec h
  refine per_unique h' a2 ((iff _).1 a1) fun q h1 h2 => ?_
  have := a4 q h1 h2
  cases hq : repB ys (q : Int) with
  | false => rfl
  | true => rw [(iff q).2 hq] at this; cases this
theorem per_swap {xs : List Int} (h : 1 ≤ xs.length) : per (swapL xs) = per xs := by
  refine per_of_iff (by rw [swapL_length]; exact h) h fun p => ?_
  rw [repB_all h, repB_all (by rw [swapL_length]; exact h)]
  constructor
  · intro g i; have := g i; rw [sec_swap h, sec_swap h] at this; omega
  · intro g i; rw [sec_swap h, sec_swap h, g]
theorem per_back {xs : List Int} (h : 1 ≤ xs.length) : per xs.reverse = per xs := by
  refine per_of_iff (by rw [List.length_reverse]; exact h) h fun p => ?_
  rw [repB_all h, repB_all (by rw [List.length_reverse]; exact h)]
  constructor
  · intro g i
    have := g (-1 - (i + p))
    rw [sec_back h, sec_back h, show -1 - (-1 - (i + (p : Int)) + p) = i from by omega, show -1 - (-1 - (i + (p : Int))) = i + p from by omega] at this
    exact this.symm
  · intro g i
    have := g (-1 - (i + p))
    rw [show -1 - (i + (p : Int)) + p = -1 - i from by omega] at this
    rw [sec_back h, sec_back h, this]
theorem bits_swap {xs : List Int} (h : bitsB xs = true) : bitsB (swapL xs) = true := by
  refine bitsB_true fun k hk => ?_
  rw [swapL_length] at hk
  rw [show swapL xs = mapTo (swapF xs) xs.length from rfl, mapTo_getD hk]
  unfold swapF
  rcases bitsB_of_mem h (mem_getD hk) with e | e <;> rw [e] <;> omega
theorem bits_back {xs : List Int} (h : bitsB xs = true) : bitsB xs.reverse = true := by
  unfold bitsB at *
  simpa using h
theorem err_of {xs : List Int} (h1 : 1 ≤ xs.length) (h2 : xs.length ≤ 24) (h : bitsB xs = true) : errOf xs = 0 := by rw [errOf_fit h1 h2, bitErr_true h]

end Go.Proofs.Ytbadihbcjdibeaa
