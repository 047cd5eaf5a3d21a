/- Plain mathematics of tones: sound and silence. -/
import Derived.Test.YtbehnhhgoeiofaaMathC
namespace Go.Proofs.Ytbehnhhgoeiofaa

def sumTo (xs : List Int) : Nat → Int
  | 0 => 0
  | k + 1 => sumTo xs k + xs.getD k 0
theorem sumTo_succ (xs : List Int) (k : Nat) : sumTo xs (k + 1) = sumTo xs k + xs.getD k 0 := rfl
theorem getD_bit {xs : List Int} (h : bitsB xs = true) (k : Nat) : xs.getD k 0 = 0 ∨ xs.getD k 0 = 1 := by
  by_cases hk : k < xs.length
  · exact bitsB_of_mem h (mem_getD hk)
  · left; rw [List.getD_eq_getElem?_getD, List.getElem?_eq_none (by omega)]; rfl
theorem sumTo_bd {xs : List Int} (h : bitsB xs = true) (k : Nat) : 0 ≤ sumTo xs k ∧ sumTo xs k ≤ k := by
  induction k with
  | zero => simp [sumTo]
  | succ k ih => rw [sumTo_succ]; rcases getD_bit h k with e | e <;> rw [e] <;> omega
theorem sec_bit {xs : List Int} (h : bitsB xs = true) (i : Int) : sec xs i = 0 ∨ sec xs i = 1 := getD_bit h _

def silRun (xs : List Int) : Nat → Int
  | 0 => 0
  | k + 1 => if sec xs (k : Int) = 1 then 0 else silRun xs k + 1
def silBest (xs : List Int) : Nat → Int
  | 0 => 0
  | k + 1 => if silBest xs k < silRun xs (k + 1) then silRun xs (k + 1) else silBest xs k
theorem silRun_one {xs : List Int} {k : Nat} (h : sec xs (k : Int) = 1) : silRun xs (k + 1) = 0 := by
  show (if _ then _ else _) = _
  rw [if_pos h]
theorem silRun_ne {xs : List Int} {k : Nat} (h : sec xs (k : Int) ≠ 1) : silRun xs (k + 1) = silRun xs k + 1 := by
  show (if _ then _ else _) = _
  rw [if_neg h]
theorem silBest_lt {xs : List Int} {k : Nat} (h : silBest xs k < silRun xs (k + 1)) : silBest xs (k + 1) = silRun xs (k + 1) := by
  show (if _ then _ else _) = _
  rw [if_pos h]
theorem silBest_ge {xs : List Int} {k : Nat} (h : ¬ silBest xs k < silRun xs (k + 1)) : silBest xs (k + 1) = silBest xs k := by
  show (if _ then _ else _) = _
  rw [if_neg h]
theorem silRun_bd (xs : List Int) (k : Nat) : 0 ≤ silRun xs k ∧ silRun xs k ≤ k := by
  induction k with
  | zero => simp [silRun]
  | succ k ih =>
    by_cases h : sec xs (k : Int) = 1
    · rw [silRun_one h]; omega
    · rw [silRun_ne h]; omega
theorem silBest_bd (xs : List Int) (k : Nat) : 0 ≤ silBest xs k ∧ silBest xs k ≤ k := by
  induction k with
  | zero => simp [silBest]
  | succ k ih =>
    have := silRun_bd xs (k + 1)
    by_cases h : silBest xs k < silRun xs (k + 1)
    · rw [silBest_lt h]; omega
    · rw [silBest_ge h]; omega
def silOf (xs : List Int) : Int := if sumTo xs xs.length = 0 then 0 else silBest xs (2 * xs.length)
def someB (xs : List Int) : Bool := sumTo xs xs.length != 0

end Go.Proofs.Ytbehnhhgoeiofaa
