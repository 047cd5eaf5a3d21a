/- Walks: the functions of two tones, and the rest of the document's own answers on names. -/
import Derived.Test.YtbadihbcjdibeaaWalkE
import Derived.Test.YtbadihbcjdibeaaMathC
namespace Go.Proofs.Ytbadihbcjdibeaa
open Go.RowKit

theorem piece_tmod (xs : List Int) (i : Int) (n : Nat) (h : 1 ≤ xs.length) : pieceL xs (i.tmod (xs.length : Int)) n = pieceL xs i n := by
  refine piece_congr n fun j => sec_congr ?_
  have e := Int.tmod_eq_emod (a := i) (b := (xs.length : Int))
  have : ((xs.length : Int).natAbs : Int) = xs.length := by omega
  split at e
  · rw [e]; simp
  · rw [e, this, show i % (xs.length : Int) - (xs.length : Int) + j = (i % (xs.length : Int) + j) - (xs.length : Int) from by omega, Int.sub_emod_right, Int.emod_add_emod]
theorem tmod_bd (i : Int) (n : Nat) (h1 : 1 ≤ n) : -(n : Int) < i.tmod n ∧ i.tmod n < n := by
  have e := Int.tmod_eq_emod (a := i) (b := (n : Int))
  have l := Int.emod_lt_of_pos i (show (0 : Int) < n by omega)
  have g := Int.emod_nonneg i (show (n : Int) ≠ 0 by omega)
  split at e <;> omega

set_option maxHeartbeats 400000 in
theorem validateBoth_any (A : Option Addr) (n c : Nat) (xs : List Int) (A' : Option Addr) (n' c' : Nat) (ys : List Int) (w : World) (h : Row w A n c xs) (h' : Row w A' n' c' ys) (hn : n ≤ 1000) (hn' : n' ≤ 1000) :
    Calls Try.prog 45 #[.slice A n c, .slice A' n' c'] w fun e w' => e = .returned (.int .i64 (err2 xs ys)) ∧ w = w' := by
  have HR := hide h
  have HR' := hide h'
  clear h h'
  by_cases he : errOf xs = 0
  · have HE := hide he
    clear he
    go_enter Try.func45, Try.ntmps45
    go_wp2_with fail
    refine (Validate_any _ _ _ xs _ HR.out (by omega)).mono ?_
    rintro e w' ⟨rfl, rfl⟩
    rw [HE.out]
    go_wp2_with fail
    refine (Validate_any _ _ _ ys _ HR'.out (by omega)).mono ?_
    rintro e w' ⟨rfl, rfl⟩
    go_wp2
    go_ret
    exact ⟨ret_i64 (by unfold err2; rw [if_pos HE.out]), rfl⟩
  · have he' : (errOf xs != 0) = true := by simp [he]
    go_enter Try.func45, Try.ntmps45
    go_wp2_with fail
    refine (Validate_any _ _ _ xs _ HR.out (by omega)).mono ?_
    rintro e w' ⟨rfl, rfl⟩
    go_wp2
    go_ret
    exact ⟨ret_i64 (by unfold err2; rw [if_neg he]), rfl⟩

set_option maxHeartbeats 400000 in
theorem same_any (A : Option Addr) (n c : Nat) (xs : List Int) (A' : Option Addr) (n' c' : Nat) (ys : List Int) (w : World) (h : Row w A n c xs) (h' : Row w A' n' c' ys) (hn1 : 1 ≤ n) (hn : n ≤ 1000) (hn1' : 1 ≤ n') (hn' : n' ≤ 1000) :
    Calls Try.prog 46 #[.slice A n c, .slice A' n' c'] w fun e w' => e = .returned (.bool (eqL (rootL xs) (rootL ys))) ∧ Below w.heap.size w w' := by
  have HR := hide h
  have HR' := hide h'
  have p1 := (per_spec (xs := xs) (by have := h.length; omega)).2.2.1
  have p2 := (per_spec (xs := ys) (by have := h'.length; omega)).2.2.1
  have q1 : per xs ≤ 1000 := by have := h.length; omega
  have q2 : per ys ≤ 1000 := by have := h'.length; omega
  clear h h' p1 p2
  go_enter Try.func46, Try.ntmps46
  go_wp2_with fail
  refine (root_any _ _ _ xs _ HR.out (by omega) (by omega)).mono ?_
  rintro e w1 ⟨A1, c1, rfl, hown, hb⟩
  go_wp2_with fail
  refine (root_any _ _ _ ys _ (HR'.out.below hb (Nat.le_refl _)) (by omega) (by omega)).mono ?_
  rintro e w2 ⟨A2, c2, rfl, hown2, hb2⟩
  go_wp2_with fail
  refine (Equal_any _ _ _ (rootL xs) _ _ _ (rootL ys) _ (hown.below hb2 (Nat.le_refl _)).row hown2.row).mono ?_
  rintro e w3 ⟨rfl, hd3⟩
  go_wp2
  go_ret
  exact ⟨rfl, (hb.trans (hb2.mono hb.size)).trans (hd3.below _)⟩

set_option maxHeartbeats 400000 in
theorem alike_any (A : Option Addr) (n c : Nat) (xs : List Int) (A' : Option Addr) (n' c' : Nat) (ys : List Int) (w : World) (h : Row w A n c xs) (h' : Row w A' n' c' ys) (hn1 : 1 ≤ n) (hn : n ≤ 1000) (hn1' : 1 ≤ n') (hn' : n' ≤ 1000) :
    Calls Try.prog 49 #[.slice A n c, .slice A' n' c'] w fun e w' => e = .returned (.bool (eqL (nameL xs) (nameL ys))) ∧ Below w.heap.size w w' := by
  have HR := hide h
  have HR' := hide h'
  have p1 := (per_spec (xs := xs) (by have := h.length; omega)).2.2.1
  have p2 := (per_spec (xs := ys) (by have := h'.length; omega)).2.2.1
  have q1 : per xs ≤ 1000 := by have := h.length; omega
  have q2 : per ys ≤ 1000 := by have := h'.length; omega
  clear h h' p1 p2
  go_enter Try.func49, Try.ntmps49
  go_wp2_with fail
  refine (name_any _ _ _ xs _ HR.out (by omega) (by omega)).mono ?_
  rintro e w1 ⟨A1, c1, rfl, hown, hb⟩
  go_wp2_with fail
  refine (name_any _ _ _ ys _ (HR'.out.below hb (Nat.le_refl _)) (by omega) (by omega)).mono ?_
  rintro e w2 ⟨A2, c2, rfl, hown2, hb2⟩
  go_wp2_with fail
  refine (Equal_any _ _ _ (nameL xs) _ _ _ (nameL ys) _ (hown.below hb2 (Nat.le_refl _)).row hown2.row).mono ?_
  rintro e w3 ⟨rfl, hd3⟩
  go_wp2
  go_ret
  exact ⟨rfl, (hb.trans (hb2.mono hb.size)).trans (hd3.below _)⟩

theorem mul_bd {n m : Nat} (h1 : n ≤ 1000) (h2 : m ≤ 1000) : (n : Int) * (m : Int) ≤ 1000000 ∧ 0 ≤ (n : Int) * (m : Int) := by
  have := Nat.mul_le_mul h1 h2
  have e : ((n * m : Nat) : Int) = (n : Int) * (m : Int) := Int.natCast_mul n m
  omega
set_option maxHeartbeats 400000 in
theorem rsame_any (A : Option Addr) (n c : Nat) (xs : List Int) (A' : Option Addr) (n' c' : Nat) (ys : List Int) (b : Int) (w : World) (h : Row w A n c xs) (h' : Row w A' n' c' ys) (hn1 : 1 ≤ n) (hn : n ≤ 1000) (hn1' : 1 ≤ n') (hn' : n' ≤ 1000) (hb1 : 0 ≤ b) (hb2 : b ≤ 1000) :
    Calls Try.prog 57 #[.slice A n c, .slice A' n' c', .int .i64 b] w fun e w' => e = .returned (.bool (sameB xs ys b (n * n'))) ∧ w = w' := by
  have HR := hide h
  have HR' := hide h'
  obtain ⟨m1, m2⟩ := mul_bd hn hn'
  clear h h'
  go_enter Try.func57, Try.ntmps57
  go_wp2
  go_loop [7] (fun i => ∃ k : Nat, (k : Int) ≤ (n : Int) * (n' : Int) ∧ i = .int .i64 k ∧ sameB xs ys b k = true) (fun i => n * n' - (intOf i).toNat)
  case atStart => exact ⟨0, by simpa using m2, rfl, sameB_zero _ _ _⟩
  case round =>
    obtain ⟨k, hk, rfl, hs⟩ := hrel
    have HS := hide hs
    clear hs
    by_cases hlt : (k : Int) < (n : Int) * (n' : Int)
    · have hltn : k < n * n' := by have e : ((n * n' : Nat) : Int) = (n : Int) * (n' : Int) := Int.natCast_mul n n'; omega
      have HLT := hide hltn
      clear hltn
      cases hc : (sec xs ((k : Int) + b) != sec ys (k : Int)) with
      | false =>
        go_wp2_with fail
        refine (rat_any _ _ _ xs _ _ HR.out (by omega) (by omega)).mono ?_
        rintro e w' ⟨rfl, rfl⟩
        go_wp2_with fail
        refine (rat_any _ _ _ ys _ _ HR'.out (by omega) (by omega)).mono ?_
        rintro e w' ⟨rfl, rfl⟩
        go_wp2
        go_round
        case rel => exact ⟨k + 1, by omega, by go_num, sameB_succ_true HS.out (by simpa using hc)⟩
        case measure => have := HLT.out; simp [intOf]; omega
      | true =>
        go_wp2_with fail
        refine (rat_any _ _ _ xs _ _ HR.out (by omega) (by omega)).mono ?_
        rintro e w' ⟨rfl, rfl⟩
        go_wp2_with fail
        refine (rat_any _ _ _ ys _ _ HR'.out (by omega) (by omega)).mono ?_
        rintro e w' ⟨rfl, rfl⟩
        go_wp2
        go_ret
        exact ⟨ret_bool (sameB_false HLT.out (by simpa using hc)).symm, rfl⟩
    · have hkn : k = n * n' := by have e : ((n * n' : Nat) : Int) = (n : Int) * (n' : Int) := Int.natCast_mul n n'; omega
      have HK := hide hkn
      clear hkn
      go_wp2
      go_ret
      exact ⟨ret_bool (by rw [← HK.out, HS.out]), rfl⟩

set_option maxHeartbeats 400000 in
theorem ralike_any (A : Option Addr) (n c : Nat) (xs : List Int) (A' : Option Addr) (n' c' : Nat) (ys : List Int) (w : World) (h : Row w A n c xs) (h' : Row w A' n' c' ys) (hn1 : 1 ≤ n) (hn : n ≤ 1000) (hn1' : 1 ≤ n') (hn' : n' ≤ 1000) :
    Calls Try.prog 38 #[.slice A n c, .slice A' n' c'] w fun e w' => e = .returned (.bool (eqL (nameL xs) (nameL ys))) ∧ w = w' := by
  have HR := hide h
  have HR' := hide h'
  have l1 := h.length
  have l2 := h'.length
  have HA := hide (alike_eq (xs := xs) (ys := ys) (by omega) (by omega))
  have HL := hide (show n * n' = xs.length * ys.length by rw [l1, l2])
  have HL1 := hide l1
  clear h h' l1 l2
  go_enter Try.func38, Try.ntmps38
  go_wp2
  go_loop [5] (fun i => ∃ k : Nat, k ≤ n ∧ i = .int .i64 k ∧ alikeTo xs ys k = false) (fun i => n - (intOf i).toNat)
  case atStart => exact ⟨0, by omega, rfl, rfl⟩
  case round =>
    obtain ⟨k, hk, rfl, hs⟩ := hrel
    have HS := hide hs
    clear hs
    by_cases hlt : k < n
    · cases hc : sameB xs ys (k : Int) (n * n') with
      | false =>
        go_wp2_with (first | (go_at_call 57; refine (rsame_any _ _ _ xs _ _ _ ys _ _ HR.out HR'.out (by omega) (by omega) (by omega) (by omega) (by omega) (by omega)).mono ?_; rintro e w' ⟨rfl, rfl⟩; rw [hc]))
        go_round
        case rel => exact ⟨k + 1, by omega, by go_num, alikeTo_succ HS.out (by rw [← HL.out]; exact hc)⟩
        case measure => simp [intOf]; omega
      | true =>
        go_wp2_with (first | (go_at_call 57; refine (rsame_any _ _ _ xs _ _ _ ys _ _ HR.out HR'.out (by omega) (by omega) (by omega) (by omega) (by omega) (by omega)).mono ?_; rintro e w' ⟨rfl, rfl⟩; rw [hc]))
        go_ret
        exact ⟨ret_bool (by rw [HA.out, alikeTo_true (k := k) (by rw [HL1.out]; exact hlt) (by rw [← HL.out]; exact hc)]), rfl⟩
    · go_wp2
      go_ret
      exact ⟨ret_bool (by rw [HA.out, HL1.out, show n = k from by omega, HS.out]), rfl⟩


end Go.Proofs.Ytbadihbcjdibeaa
