/- How many pieces a tone has: plain mathematics. -/
import Derived.Test.YtbadihbcjdibeaaWalkM
namespace Go.Proofs.Ytbadihbcjdibeaa
open Go.RowKit

def pcN (xs : List Int) (m : Nat) : Nat := (pcs xs m (per xs)).length
def frB (xs : List Int) (m i k : Nat) : Bool := !decide (fillTo xs (i : Int) 60 m ∈ pcs xs m k)
theorem pcs_succ (xs : List Int) (m k : Nat) : pcs xs m (k + 1) = addK (pcs xs m k) (fillTo xs (k : Int) 60 m) := rfl
theorem addK_old {ks : List (List Int)} {x : List Int} (h : x ∈ ks) : addK ks x = ks := by unfold addK; rw [if_pos h]
theorem addK_new {ks : List (List Int)} {x : List Int} (h : x ∉ ks) : addK ks x = ks ++ [x] := by unfold addK; rw [if_neg h]
theorem pcs_len_succ (xs : List Int) (m k : Nat) : (pcs xs m (k + 1)).length = (pcs xs m k).length + (if frB xs m k k then 1 else 0) := by
  rw [pcs_succ]
  by_cases h : fillTo xs (k : Int) 60 m ∈ pcs xs m k
  · rw [addK_old h]; simp [frB, h]
  · rw [addK_new h]; simp [frB, h]
theorem pcs_len_le (xs : List Int) (m : Nat) : ∀ k, (pcs xs m k).length ≤ k := by
  intro k
  induction k with
  | zero => simp [pcs]
  | succ k ih => rw [pcs_len_succ]; split <;> omega
theorem pcs_more {xs : List Int} (h : 1 ≤ xs.length) (m : Nat) : ∀ d, pcs xs m (per xs + d) = pcs xs m (per xs) := by
  obtain ⟨s1, s2, _, _⟩ := per_spec h
  intro d
  induction d with
  | zero => rfl
  | succ d ih =>
    rw [← Nat.add_assoc, pcs_succ, ih, addK_old]
    have a1 := Int.emod_lt_of_pos ((per xs + d : Nat) : Int) (show (0 : Int) < per xs by omega)
    have a2 := Int.emod_nonneg ((per xs + d : Nat) : Int) (show (per xs : Int) ≠ 0 by omega)
    exact pcs_mem.2 ⟨(((per xs + d : Nat) : Int) % (per xs : Int)).toNat, by omega, (fill_emod h _ m).symm⟩
theorem pcs_all {xs : List Int} (h : 1 ≤ xs.length) (m : Nat) : (pcs xs m xs.length).length = pcN xs m := by
  obtain ⟨s1, s2, s3, _⟩ := per_spec h
  have := pcs_more h m (xs.length - per xs)
  rw [show per xs + (xs.length - per xs) = xs.length by omega] at this
  rw [this]; rfl
theorem pcN_le (xs : List Int) (m : Nat) : pcN xs m ≤ per xs := pcs_len_le xs m _
theorem frB_iff {xs : List Int} {m i k : Nat} : frB xs m i k = true ↔ ∀ a : Nat, a < k → ¬ Eqs xs xs i a m := by
  unfold frB
  rw [Bool.not_eq_true', decide_eq_false_iff_not, pcs_mem]
  constructor
  · intro h a ha e
    exact h ⟨a, ha, fill_eq_iff.2 e⟩
  · rintro h ⟨a, ha, e⟩
    exact h a ha (fill_eq_iff.1 e)
theorem pcs_len_mono (xs : List Int) (m : Nat) : ∀ k, (pcs xs m k).length ≤ (pcs xs (m + 1) k).length := by
  intro k
  induction k with
  | zero => simp [pcs]
  | succ k ih =>
    rw [pcs_len_succ, pcs_len_succ]
    cases h : frB xs m k k with
    | false => simp; omega
    | true =>
      have : frB xs (m + 1) k k = true := frB_iff.2 fun a ha e => frB_iff.1 h a ha fun b hb => e b (by omega)
      rw [this]; simpa using ih
theorem pcN_mono (xs : List Int) (m : Nat) : pcN xs m ≤ pcN xs (m + 1) := pcs_len_mono xs m _
theorem pcN_zero {xs : List Int} (h : 1 ≤ xs.length) : pcN xs 0 = 1 := by
  obtain ⟨_, s2, _, _⟩ := per_spec h
  have key : ∀ k, (pcs xs 0 (k + 1)).length = 1 := by
    intro k
    induction k with
    | zero => rw [pcs_len_succ]; simp [pcs, frB]
    | succ k ih =>
      rw [pcs_len_succ, ih]
      have : frB xs 0 (k + 1) (k + 1) = false := by
        cases g : frB xs 0 (k + 1) (k + 1) with
        | false => rfl
        | true => exact absurd (eqs_zero xs xs (k + 1) 0) (frB_iff.1 g 0 (by omega))
      rw [this]; rfl
  unfold pcN
  rw [show per xs = (per xs - 1) + 1 by omega]
  exact key _

/-! From the period less one on, all places differ. -/
def sumTo (f : Nat → Int) : Nat → Int
  | 0 => 0
  | k + 1 => sumTo f k + f k
theorem sumTo_congr {f g : Nat → Int} : ∀ {k : Nat}, (∀ j, j < k → f j = g j) → sumTo f k = sumTo g k := by
  intro k
  induction k with
  | zero => intro _; rfl
  | succ k ih => intro h; simp only [sumTo]; rw [ih fun j hj => h j (by omega), h k (by omega)]
theorem sumTo_shift (f : Nat → Int) : ∀ k, sumTo (fun j => f (j + 1)) k + f 0 = sumTo f k + f k := by
  intro k
  induction k with
  | zero => simp [sumTo]
  | succ k ih => simp only [sumTo]; omega
theorem sum_round {xs : List Int} (h : 1 ≤ xs.length) : ∀ a : Nat, sumTo (fun j => sec xs ((a : Int) + (j : Int))) (per xs) = sumTo (fun j => sec xs ((0 : Int) + (j : Int))) (per xs) := by
  obtain ⟨s1, _, _, _⟩ := per_spec h
  intro a
  induction a with
  | zero => rfl
  | succ a ih =>
    have e : sumTo (fun j => sec xs ((a : Int) + ((j + 1 : Nat) : Int))) (per xs) + sec xs ((a : Int) + ((0 : Nat) : Int)) = sumTo (fun j => sec xs ((a : Int) + (j : Int))) (per xs) + sec xs ((a : Int) + (per xs : Int)) :=
      sumTo_shift (fun j => sec xs ((a : Int) + (j : Int))) (per xs)
    rw [sec_rep h s1, Int.natCast_zero, Int.add_zero] at e
    have c : sumTo (fun j => sec xs (((a + 1 : Nat) : Int) + (j : Int))) (per xs) = sumTo (fun j => sec xs ((a : Int) + ((j + 1 : Nat) : Int))) (per xs) :=
      sumTo_congr fun j _ => by congr 1; omega
    rw [c, ← ih]
    omega
theorem eqs_full {xs : List Int} (h : 1 ≤ xs.length) {a b m : Nat} (hm : per xs ≤ m + 1) (e : Eqs xs xs a b m) : ∀ k : Int, sec xs ((a : Int) + k) = sec xs ((b : Int) + k) := by
  obtain ⟨s1, s2, _, _⟩ := per_spec h
  have low : ∀ j : Nat, j < per xs → sec xs ((a : Int) + (j : Int)) = sec xs ((b : Int) + (j : Int)) := by
    intro j hj
    by_cases hj2 : j < per xs - 1
    · exact e j (by omega)
    · obtain rfl : j = per xs - 1 := by omega
      have t := (sum_round h a).trans (sum_round h b).symm
      rw [show per xs = (per xs - 1) + 1 by omega] at t
      simp only [sumTo] at t
      rw [sumTo_congr (g := fun j => sec xs ((b : Int) + (j : Int))) fun j hj => e j (by omega)] at t
      omega
  intro k
  have a1 := Int.emod_lt_of_pos k (show (0 : Int) < per xs by omega)
  have a2 := Int.emod_nonneg k (show (per xs : Int) ≠ 0 by omega)
  have l := low (k % (per xs : Int)).toNat (by omega)
  rw [Int.toNat_of_nonneg a2] at l
  rw [← sec_rep_emod h s2 s1 ((a : Int) + k), ← sec_rep_emod h s2 s1 ((b : Int) + k), ← Int.add_emod_emod, ← Int.add_emod_emod (b : Int), sec_rep_emod h s2 s1, sec_rep_emod h s2 s1]
  exact l
theorem pcN_full {xs : List Int} (h : 1 ≤ xs.length) {m : Nat} (hm : per xs ≤ m + 1) : pcN xs m = per xs := by
  obtain ⟨s1, s2, _, s4⟩ := per_spec h
  have key : ∀ k, k ≤ per xs → (pcs xs m k).length = k := by
    intro k
    induction k with
    | zero => intro _; simp [pcs]
    | succ k ih =>
      intro hk
      rw [pcs_len_succ, ih (by omega)]
      have : frB xs m k k = true := frB_iff.2 fun a ha e => by
        have f := eqs_full h hm e
        have g : repB xs ((k - a : Nat) : Int) = true := by
          rw [repB_all h]
          intro i
          have := f (i - (a : Int))
          rw [show (k : Int) + (i - (a : Int)) = i + ((k - a : Nat) : Int) by omega, show (a : Int) + (i - (a : Int)) = i by omega] at this
          exact this
        rw [s4 (k - a) (by omega) (by omega)] at g
        cases g
      rw [this]; rfl
  exact key _ (Nat.le_refl _)

/-! The other side's count: a place is fresh if no earlier place sounds the same. -/
theorem frB_zero (xs : List Int) (m i : Nat) : frB xs m i 0 = true := frB_iff.2 fun a h => by omega
theorem frB_false {xs : List Int} {m i k : Nat} (h : frB xs m i k = false) : frB xs m i (k + 1) = false := by
  cases g : frB xs m i (k + 1) with
  | false => rfl
  | true =>
    rw [frB_iff.2 fun a ha => frB_iff.1 g a (by omega)] at h
    cases h
theorem frB_step {xs : List Int} {m i k r : Nat} (h : frB xs m i k = true) (hr : IsRun xs xs i k m r) : frB xs m i (k + 1) = decide (r < m) := by
  by_cases hlt : r < m
  · rw [decide_eq_true hlt]
    refine frB_iff.2 fun a ha e => ?_
    rcases Nat.lt_or_ge a k with g | g
    · exact frB_iff.1 h a g e
    · obtain rfl : a = k := by omega
      rcases hr.2.2 with g2 | g2
      · omega
      · exact g2 (e r hlt)
  · rw [decide_eq_false hlt]
    cases g : frB xs m i (k + 1) with
    | false => rfl
    | true =>
      have : r = m := by have := hr.1; omega
      subst this
      exact absurd hr.2.1 (frB_iff.1 g k (by omega))

end Go.Proofs.Ytbadihbcjdibeaa
