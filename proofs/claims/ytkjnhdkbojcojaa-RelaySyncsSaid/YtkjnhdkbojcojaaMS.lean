/- Sets of states as numbers; plain mathematics, no program. -/
import Derived.Test.YtkjnhdkbojcojaaMB
namespace Go.Proofs.Ytkjnhdkbojcojaa

/-- Is a state in a set? -/
def bt (m k : Nat) : Bool := m.testBit k
def aftTo (b : Bx) (x : Int) (m : Nat) : Nat → Nat
  | 0 => 0
  | k + 1 => if bt m k then aftTo b x m k ||| (1 <<< aft b k x) else aftTo b x m k
def aftS (b : Bx) (m : Nat) (x : Int) : Nat := aftTo b x m 6
def cntTo6 (m : Nat) : Nat → Nat
  | 0 => 0
  | k + 1 => if bt m k then cntTo6 m k + 1 else cntTo6 m k
theorem cntTo6_le (m : Nat) : ∀ k, cntTo6 m k ≤ k
  | 0 => Nat.le_refl _
  | k + 1 => by
    have := cntTo6_le m k
    unfold cntTo6
    split <;> omega
def oneS (m : Nat) : Bool := cntTo6 m 6 == 1
def allS : Nat → Nat
  | 0 => 0
  | k + 1 => allS k ||| (1 <<< k)
theorem or_lt {a t n : Nat} (h : a < 2 ^ n) (ht : t < n) : a ||| (1 <<< t) < 2 ^ n := by
  refine Nat.or_lt_two_pow h ?_
  rw [Nat.one_shiftLeft]
  exact Nat.pow_lt_pow_right (by decide) ht
theorem aftTo_lt {b : Bx} (h : Okx b) (x : Int) {m : Nat} (hm : m < 2 ^ b.2.length) : ∀ k, aftTo b x m k < 2 ^ b.2.length
  | 0 => Nat.pow_pos (by decide)
  | k + 1 => by
    unfold aftTo
    split
    · rename_i hk
      unfold bt at hk
      refine or_lt (aftTo_lt h x hm k) (h.aft_lt ?_ x)
      rcases Nat.lt_or_ge k b.2.length with h1 | h1
      · exact h1
      · rw [Nat.testBit_lt_two_pow (Nat.lt_of_lt_of_le hm (Nat.pow_le_pow_right (by decide) h1))] at hk; cases hk
    · exact aftTo_lt h x hm k
theorem lt64 {n m : Nat} (h : m < 2 ^ n) (hn : n ≤ 6) : m < 64 := by
  have : 2 ^ n ≤ 2 ^ 6 := Nat.pow_le_pow_right (by decide) hn
  omega
theorem bit_lt {m n k : Nat} (h : m < 2 ^ n) (hk : bt m k = true) : k < n := by
  unfold bt at hk
  rcases Nat.lt_or_ge k n with h1 | h1
  · exact h1
  · rw [Nat.testBit_lt_two_pow (Nat.lt_of_lt_of_le h (Nat.pow_le_pow_right (by decide) h1))] at hk; cases hk
theorem allS_lt : ∀ {k n : Nat}, k ≤ n → allS k < 2 ^ n
  | 0, n, _ => Nat.pow_pos (by decide)
  | k + 1, n, h => or_lt (allS_lt (Nat.le_of_succ_le h)) h
theorem or_bit (a t k : Nat) : bt (a ||| (1 <<< t)) k = (bt a k || (t == k)) := by
  unfold bt
  rw [Nat.testBit_or, Nat.one_shiftLeft, Nat.testBit_two_pow]
  by_cases h : t = k <;> simp [h]
theorem bits_eq {a b : Nat} (ha : a < 64) (hb : b < 64) (h : ∀ k, k < 6 → bt a k = bt b k) : a = b := by
  apply Nat.eq_of_testBit_eq
  intro k
  rcases Nat.lt_or_ge k 6 with h1 | h1
  · exact h k h1
  · have h2 : 2 ^ 6 ≤ 2 ^ k := Nat.pow_le_pow_right (by decide) h1
    rw [Nat.testBit_lt_two_pow (by omega), Nat.testBit_lt_two_pow (by omega)]
/-- The sets that words lead to, from all states on. -/
def syncL (b : Bx) : Pl Nat := plN (aftS b) (allS b.2.length) 64
def syncW (b : Bx) : Option (List Int) := firstW (syncL b) oneS
end Go.Proofs.Ytkjnhdkbojcojaa
