/- Mathematics: how great the counts may be; what the chapter's example says. -/
import Derived.Test.YtndfdminjegldaaMT
namespace Go.Proofs.Ytndfdminjegldaa

theorem smE_bd {C : Nat → Nat → Int} {B : Int} (hB : 0 ≤ B) (h : ∀ a b, -B ≤ C a b ∧ C a b ≤ B) (r k : Nat) (es : List Int) : ∀ t, t ≤ es.length → t ≤ 3 → -(3 * B) ≤ smE C r k es t ∧ smE C r k es t ≤ 3 * B ∧ -(t * B) ≤ smE C r k es t ∧ smE C r k es t ≤ t * B
  | 0, _, _ => by simp [smE]; omega
  | t + 1, ht, h3 => by
    have h1 := smE_bd hB h r k es t (by omega) (by omega)
    have h2 := h (bfR r (es.getD t 0)) (bfK k (es.getD t 0))
    rw [smE_succ C r k es (by omega)]
    have e : ((t + 1 : Nat) : Int) * B = t * B + B := by rw [Int.natCast_add, Int.add_mul]; simp
    have e3 : ((t + 1 : Nat) : Int) * B ≤ 3 * B := Int.mul_le_mul_of_nonneg_right (by omega) hB
    rw [e] at *
    omega
theorem pow4 (n : Nat) : ((4 ^ (n + 1) : Nat) : Int) = 4 * ((4 ^ n : Nat) : Int) := by rw [Nat.pow_succ]; omega
theorem pow4_pos (n : Nat) : (1 : Int) ≤ ((4 ^ n : Nat) : Int) := by
  have : 0 < 4 ^ n := Nat.pow_pos (by decide)
  omega
theorem cqT_bd (l m : List Int) (c : Cst) : ∀ (n r k : Nat), -((4 ^ n : Nat) : Int) ≤ cqT l m c n r k ∧ cqT l m c n r k ≤ ((4 ^ n : Nat) : Int)
  | 0, r, k => by simp [cqT]
  | n + 1, r, k => by
    have ih := cqT_bd l m c n
    have hp := pow4_pos n
    rw [pow4, cqT]
    split
    · omega
    · have h3 := les_len l m c r k
      have e3 : smE (cqT l m c n) r k (les l m c r k) 3 = smE (cqT l m c n) r k (les l m c r k) (les l m c r k).length := by
        unfold smE
        rw [List.take_of_length_le h3, List.take_length]
      have h1 := smE_bd (by omega) ih r k (les l m c r k) _ (Nat.le_refl _) h3
      have h2 : -((4 ^ n : Nat) : Int) ≤ twi l m c (cqT l m c n) r k ∧ twi l m c (cqT l m c n) r k ≤ ((4 ^ n : Nat) : Int) := by
        unfold twi
        split
        · omega
        · exact ih _ _
      rw [e3]
      omega
theorem cq_bd (l m : List Int) (c : Cst) {r k : Nat} (h : r + k ≤ 20) : -1099511627776 ≤ cq l m c r k ∧ cq l m c r k ≤ 1099511627776 := by
  have h1 := cqT_bd l m c (r + k) r k
  have h2 : 4 ^ (r + k) ≤ 4 ^ 20 := Nat.pow_le_pow_right (by omega) h
  have h3 : (4 : Nat) ^ 20 = 1099511627776 := by decide
  unfold cq
  omega
def one3 : Cst := ⟨1, 1, 1⟩
theorem dist_kn : dist [1, 2, 3] [1, 3] one3 = 1 := by
  simp [dist, dd, chg, one3]
  decide
theorem d11 : dd [1, 1] [1] one3 0 0 = 0 ∧ dd [1, 1] [1] one3 1 0 = 1 ∧ dd [1, 1] [1] one3 2 0 = 2 ∧ dd [1, 1] [1] one3 0 1 = 1 ∧ dd [1, 1] [1] one3 1 1 = 0 ∧ dd [1, 1] [1] one3 2 1 = 1 := by
  refine ⟨?_, ?_, ?_, ?_, ?_, ?_⟩
  all_goals simp [dd, chg, one3]
  all_goals decide
theorem cq_kn : cq [1, 1] [1] one3 2 1 = 2 := by
  have o1 : one3.o = 1 := rfl
  have i1 : one3.i = 1 := rfl
  have h1 : one3.h = 1 := rfl
  obtain ⟨h00, h10, h20, h01, h11, h21⟩ := d11
  have l10 : les [1, 1] [1] one3 1 0 = [0] := by simp [les, eds, bd, h00, h10, o1, i1, h1]
  have l20 : les [1, 1] [1] one3 2 0 = [0] := by simp [les, eds, bd, h10, h20, o1, i1, h1]
  have l11 : les [1, 1] [1] one3 1 1 = [3] := by simp [les, eds, bd, h00, h10, h01, h11, o1, i1, h1]
  have l21 : les [1, 1] [1] one3 2 1 = [0, 3] := by simp [les, eds, bd, h20, h10, h11, h21, o1, i1, h1]
  have c10 : cq [1, 1] [1] one3 1 0 = 1 := by
    rw [cq_step _ _ _ (by decide), l10]
    simp [smE, bfR, bfK, twi, cq_zero]
  have c11 : cq [1, 1] [1] one3 1 1 = 1 := by
    rw [cq_step _ _ _ (by decide), l11]
    simp [smE, bfR, bfK, twi, cq_zero, h00, h11, o1, i1]
  rw [cq_step _ _ _ (by decide), l21]
  simp [smE, bfR, bfK, twi, c10, c11, h10, h21, o1, i1]
end Go.Proofs.Ytndfdminjegldaa
