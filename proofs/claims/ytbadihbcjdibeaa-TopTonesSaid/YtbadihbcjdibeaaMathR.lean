/- Mathematics of a repeated tone. -/
import Derived.Test.YtbadihbcjdibeaaLawTurns
import Derived.Test.YtbadihbcjdibeaaWalkN
import Derived.Test.YtbadihbcjdibeaaWalkRp
namespace Go.Proofs.Ytbadihbcjdibeaa
open Go.RowKit

theorem sec_times {xs : List Int} (h : 1 ≤ xs.length) {k : Nat} (hk : 1 ≤ k) (i : Int) : sec (pieceL xs 0 (xs.length * k)) i = sec xs i := by
  have hN : 1 ≤ xs.length * k := Nat.mul_pos h hk
  have e1 := Int.emod_lt_of_pos i (show (0 : Int) < ((xs.length * k : Nat) : Int) by omega)
  have e2 := Int.emod_nonneg i (show ((xs.length * k : Nat) : Int) ≠ 0 by omega)
  show (pieceL xs 0 (xs.length * k)).getD (i % ((pieceL xs 0 (xs.length * k)).length : Int)).toNat 0 = _
  rw [pieceL_length, pieceL_getD (by omega), Int.toNat_of_nonneg e2]
  refine sec_congr ?_
  rw [Int.zero_add]
  exact Int.emod_emod_of_dvd i ⟨(k : Int), by rw [Int.natCast_mul]⟩
theorem len_times (xs : List Int) (k : Nat) : (pieceL xs 0 (xs.length * k)).length = xs.length * k := pieceL_length _ _ _
theorem per_same {xs ys : List Int} (h : 1 ≤ xs.length) (h' : 1 ≤ ys.length) (e : ∀ i : Int, sec ys i = sec xs i) : per ys = per xs :=
  per_congr (b := 0) h' h fun i => by rw [Int.add_zero]; exact e i
theorem piece_same {xs ys : List Int} (e : ∀ i : Int, sec ys i = sec xs i) (i : Int) (n : Nat) : pieceL ys i n = pieceL xs i n := by
  unfold pieceL
  exact List.map_congr_left fun j _ => e _
theorem fill_same {xs ys : List Int} (e : ∀ i : Int, sec ys i = sec xs i) (i : Int) (n k : Nat) : fillTo ys i n k = fillTo xs i n k := by
  unfold fillTo
  rw [piece_same e]
theorem pcs_same {xs ys : List Int} (e : ∀ i : Int, sec ys i = sec xs i) (m : Nat) : ∀ k, pcs ys m k = pcs xs m k
  | 0 => rfl
  | k + 1 => by rw [pcs_succ, pcs_succ, pcs_same e m k, fill_same e]
theorem pcN_same {xs ys : List Int} (h : 1 ≤ xs.length) (h' : 1 ≤ ys.length) (e : ∀ i : Int, sec ys i = sec xs i) (m : Nat) : pcN ys m = pcN xs m := by
  unfold pcN
  rw [pcs_same e, per_same h h' e]
theorem root_times {xs ys : List Int} (h : 1 ≤ xs.length) (h' : 1 ≤ ys.length) (e : ∀ i : Int, sec ys i = sec xs i) : eqL (rootL ys) (rootL xs) = true :=
  (root_same h' h).2 e

def repE (xs : List Int) (t : Int) : Int := if errOf xs = 0 then (if 1 ≤ t ∧ t ≤ 24 then (if (xs.length : Int) * t ≤ 24 then 0 else 3) else 1) else errOf xs
def repL (xs : List Int) (t : Int) : List Int := okl (repE xs t) (pieceL xs 0 (xs.length * t.toNat))
theorem repE_ne {xs : List Int} {t : Int} (h : errOf xs ≠ 0) : repE xs t = errOf xs := by unfold repE; rw [if_neg h]
theorem repE_arg {xs : List Int} {t : Int} (h : errOf xs = 0) (ht : t < 1 ∨ 24 < t) : repE xs t = 1 := by unfold repE; rw [if_pos h, if_neg (by omega)]
theorem repE_large {xs : List Int} {t : Int} (h : errOf xs = 0) (h1 : 1 ≤ t) (h2 : t ≤ 24) (h3 : 24 < (xs.length : Int) * t) : repE xs t = 3 := by
  unfold repE; rw [if_pos h, if_pos ⟨h1, h2⟩, if_neg (by omega)]
theorem repE_ok {xs : List Int} {t : Int} (h : errOf xs = 0) (h1 : 1 ≤ t) (h2 : t ≤ 24) (h3 : (xs.length : Int) * t ≤ 24) : repE xs t = 0 := by
  unfold repE; rw [if_pos h, if_pos ⟨h1, h2⟩, if_pos h3]
theorem repE_zero {xs : List Int} {t : Int} (h : repE xs t = 0) : errOf xs = 0 ∧ ∃ k : Nat, t = (k : Int) ∧ 1 ≤ k ∧ k ≤ 24 ∧ xs.length * k ≤ 24 := by
  unfold repE at h
  split at h
  · rename_i h0
    refine ⟨h0, ?_⟩
    split at h
    · rename_i h1
      split at h
      · rename_i h2
        refine ⟨t.toNat, by omega, by omega, by omega, ?_⟩
        have e : ((xs.length * t.toNat : Nat) : Int) = (xs.length : Int) * t := by rw [Int.natCast_mul, Int.toNat_of_nonneg (by omega)]
        omega
      · cases h
    · cases h
  · rename_i h0
    exact absurd h h0
theorem repL_ok {xs : List Int} {k : Nat} (h : repE xs (k : Int) = 0) : repL xs (k : Int) = pieceL xs 0 (xs.length * k) := by
  unfold repL; rw [okl_zero h, Int.toNat_natCast]
theorem repL_ne {xs : List Int} {t : Int} (h : repE xs t ≠ 0) : repL xs t = [] := by unfold repL; rw [okl_ne h]

end Go.Proofs.Ytbadihbcjdibeaa
