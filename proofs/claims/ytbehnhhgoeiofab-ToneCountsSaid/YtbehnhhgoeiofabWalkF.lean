/- Walks: the functions of two tones, and the rest of the document's own answers on names. -/
import Derived.Test.YtbehnhhgoeiofabWalkE
import Derived.Test.YtbehnhhgoeiofabMathC
namespace Go.Proofs.Ytbehnhhgoeiofab
open Go.RowKit

theorem piece_tmod (xs : List Int) (i : Int) (n : Nat) (h : 1 ≤ xs.length) : pieceL xs (i.tmod (xs.length : Int)) n = pieceL xs i n := by
  refine piece_congr n fun j => sec_congr ?_
  have e := Int.tmod_eq_emod (a := i) (b := (xs.length : Int))
  have : ((xs.length : Int).natAbs : Int) = xs.length := by omega
  split at e
  · rw [e]; simp
  · rw [e, this, show i % (xs.length : Int) - (xs.length : Int) + j = (i % (xs.length : Int) + j) - (xs.length : Int) from by omega, Int.sub_emod_right, Int.emod_add_emod]
theorem tmod_bd (i : Int) (n : Nat) (h1 : 1 ≤ n) : -(n : Int) < i.tmod n ∧ i.tmod n < n := by
  have e := Int.tmod_eq_emod (a := i) (b := (n : Int))
  have l := Int.emod_lt_of_pos i (show (0 : Int) < n by omega)
  have g := Int.emod_nonneg i (show (n : Int) ≠ 0 by omega)
  split at e <;> omega

set_option maxHeartbeats 400000 in
theorem validateBoth_any (A : Option Addr) (n c : Nat) (xs : List Int) (A' : Option Addr) (n' c' : Nat) (ys : List Int) (w : World) (h : Row w A n c xs) (h' : Row w A' n' c' ys) (hn : n ≤ 1000) (hn' : n' ≤ 1000) :
    Calls Try.prog 32 #[.slice A n c, .slice A' n' c'] w fun e w' => e = .returned (.int .i64 (err2 xs ys)) ∧ w = w' := by
  have HR := hide h
  have HR' := hide h'
  clear h h'
  by_cases he : errOf xs = 0
  · have HE := hide he
    clear he
    go_enter Try.func32, Try.ntmps32
    go_wp2_with fail
    refine (Validate_any _ _ _ xs _ HR.out (by omega)).mono ?_
    rintro e w' ⟨rfl, rfl⟩
    rw [HE.out]
    go_wp2_with fail
    refine (Validate_any _ _ _ ys _ HR'.out (by omega)).mono ?_
    rintro e w' ⟨rfl, rfl⟩
    go_wp2
    go_ret
    exact ⟨ret_i64 (by unfold err2; rw [if_pos HE.out]), rfl⟩
  · have he' : (errOf xs != 0) = true := by simp [he]
    go_enter Try.func32, Try.ntmps32
    go_wp2_with fail
    refine (Validate_any _ _ _ xs _ HR.out (by omega)).mono ?_
    rintro e w' ⟨rfl, rfl⟩
    go_wp2
    go_ret
    exact ⟨ret_i64 (by unfold err2; rw [if_neg he]), rfl⟩

set_option maxHeartbeats 400000 in
theorem same_any (A : Option Addr) (n c : Nat) (xs : List Int) (A' : Option Addr) (n' c' : Nat) (ys : List Int) (w : World) (h : Row w A n c xs) (h' : Row w A' n' c' ys) (hn1 : 1 ≤ n) (hn : n ≤ 1000) (hn1' : 1 ≤ n') (hn' : n' ≤ 1000) :
    Calls Try.prog 33 #[.slice A n c, .slice A' n' c'] w fun e w' => e = .returned (.bool (eqL (rootL xs) (rootL ys))) ∧ Below w.heap.size w w' := by
  have HR := hide h
  have HR' := hide h'
  have p1 := (per_spec (xs := xs) (by have := h.length; omega)).2.2.1
  have p2 := (per_spec (xs := ys) (by have := h'.length; omega)).2.2.1
  have q1 : per xs ≤ 1000 := by have := h.length; omega
  have q2 : per ys ≤ 1000 := by have := h'.length; omega
  clear h h' p1 p2
  go_enter Try.func33, Try.ntmps33
  go_wp2_with fail
  refine (root_any _ _ _ xs _ HR.out (by omega) (by omega)).mono ?_
  rintro e w1 ⟨A1, c1, rfl, hown, hb⟩
  go_wp2_with fail
  refine (root_any _ _ _ ys _ (HR'.out.below hb (Nat.le_refl _)) (by omega) (by omega)).mono ?_
  rintro e w2 ⟨A2, c2, rfl, hown2, hb2⟩
  go_wp2_with fail
  refine (Equal_any _ _ _ (rootL xs) _ _ _ (rootL ys) _ (hown.below hb2 (Nat.le_refl _)).row hown2.row).mono ?_
  rintro e w3 ⟨rfl, hd3⟩
  go_wp2
  go_ret
  exact ⟨rfl, (hb.trans (hb2.mono hb.size)).trans (hd3.below _)⟩

set_option maxHeartbeats 400000 in
theorem alike_any (A : Option Addr) (n c : Nat) (xs : List Int) (A' : Option Addr) (n' c' : Nat) (ys : List Int) (w : World) (h : Row w A n c xs) (h' : Row w A' n' c' ys) (hn1 : 1 ≤ n) (hn : n ≤ 1000) (hn1' : 1 ≤ n') (hn' : n' ≤ 1000) :
    Calls Try.prog 39 #[.slice A n c, .slice A' n' c'] w fun e w' => e = .returned (.bool (eqL (nameL xs) (nameL ys))) ∧ Below w.heap.size w w' := by
  have HR := hide h
  have HR' := hide h'
  have p1 := (per_spec (xs := xs) (by have := h.length; omega)).2.2.1
  have p2 := (per_spec (xs := ys) (by have := h'.length; omega)).2.2.1
  have q1 : per xs ≤ 1000 := by have := h.length; omega
  have q2 : per ys ≤ 1000 := by have := h'.length; omega
  clear h h' p1 p2
  go_enter Try.func39, Try.ntmps39
  go_wp2_with fail
  refine (name_any _ _ _ xs _ HR.out (by omega) (by omega)).mono ?_
  rintro e w1 ⟨A1, c1, rfl, hown, hb⟩
  go_wp2_with fail
  refine (name_any _ _ _ ys _ (HR'.out.below hb (Nat.le_refl _)) (by omega) (by omega)).mono ?_
  rintro e w2 ⟨A2, c2, rfl, hown2, hb2⟩
  go_wp2_with fail
  refine (Equal_any _ _ _ (nameL xs) _ _ _ (nameL ys) _ (hown.below hb2 (Nat.le_refl _)).row hown2.row).mono ?_
  rintro e w3 ⟨rfl, hd3⟩
  go_wp2
  go_ret
  exact ⟨rfl, (hb.trans (hb2.mono hb.size)).trans (hd3.below _)⟩

theorem mul_bd {n m : Nat} (h1 : n ≤ 1000) (h2 : m ≤ 1000) : (n : Int) * (m : Int) ≤ 1000000 ∧ 0 ≤ (n : Int) * (m : Int) := by
  have := Nat.mul_le_mul h1 h2
  have e : ((n * m : Nat) : Int) = (n : Int) * (m : Int) := Int.natCast_mul n m
  omega
end Go.Proofs.Ytbehnhhgoeiofab
