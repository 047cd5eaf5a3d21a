/- Walks: Same, Alike, Agree (both sides), known. -/
import Derived.Test.YtbadihbcjdibeaaWalkF
namespace Go.Proofs.Ytbadihbcjdibeaa
open Go.RowKit

theorem ret3_ibi {a b : Int} {p q : Bool} {c d : Int} (h : a = b) (h' : p = q) (h2 : c = d) : Ending.returned (.tuple #[.int .i64 a, .bool p, .int .i64 c]) = .returned (.tuple #[.int .i64 b, .bool q, .int .i64 d]) := by rw [h, h', h2]

set_option maxHeartbeats 400000 in
theorem Same_any (A : Option Addr) (n c : Nat) (xs : List Int) (A' : Option Addr) (n' c' : Nat) (ys : List Int) (w : World) (h : Row w A n c xs) (h' : Row w A' n' c' ys) (hn : n ≤ 1000) (hn' : n' ≤ 1000) :
    Calls Try.prog 18 #[.slice A n c, .slice A' n' c'] w fun e w' => e = .returned (.tuple #[.bool (okb (err2 xs ys) (eqL (rootL xs) (rootL ys))), .int .i64 (err2 xs ys)]) ∧ Below w.heap.size w w' := by
  have HR := hide h
  have HR' := hide h'
  have l1 := h.length
  have l2 := h'.length
  by_cases he : err2 xs ys = 0
  · have HE := hide he
    obtain ⟨e1, e2⟩ := err2_zero he
    have k1 := errOf_zero e1
    have k2 := errOf_zero e2
    have j1 : 1 ≤ n := by omega
    have j2 : 1 ≤ n' := by omega
    clear h h' he e1 e2 l1 l2 k1 k2
    go_enter Try.func18, Try.ntmps18
    go_wp2_with fail
    refine (validateBoth_any _ _ _ xs _ _ _ ys _ HR.out HR'.out (by omega) (by omega)).mono ?_
    rintro e w' ⟨rfl, rfl⟩
    rw [HE.out]
    go_wp2_with fail
    refine (same_any _ _ _ xs _ _ _ ys _ HR.out HR'.out (by omega) (by omega) (by omega) (by omega)).mono ?_
    rintro e w1 ⟨rfl, hb⟩
    go_wp2
    go_ret2
    exact ⟨ret2_bi (okb_zero HE.out _).symm HE.out.symm, hb⟩
  · have he' : (err2 xs ys != 0) = true := by simp [he]
    have HE := hide he
    clear h h' l1 l2 he
    go_enter Try.func18, Try.ntmps18
    go_wp2_with fail
    refine (validateBoth_any _ _ _ xs _ _ _ ys _ HR.out HR'.out (by omega) (by omega)).mono ?_
    rintro e w' ⟨rfl, rfl⟩
    go_wp2
    go_ret2
    exact ⟨ret2_bi (okb_ne HE.out _).symm rfl, Below.refl _ _⟩

set_option maxHeartbeats 400000 in
theorem Alike_any (A : Option Addr) (n c : Nat) (xs : List Int) (A' : Option Addr) (n' c' : Nat) (ys : List Int) (w : World) (h : Row w A n c xs) (h' : Row w A' n' c' ys) (hn : n ≤ 1000) (hn' : n' ≤ 1000) :
    Calls Try.prog 24 #[.slice A n c, .slice A' n' c'] w fun e w' => e = .returned (.tuple #[.bool (okb (err2 xs ys) (eqL (nameL xs) (nameL ys))), .int .i64 (err2 xs ys)]) ∧ Below w.heap.size w w' := by
  have HR := hide h
  have HR' := hide h'
  have l1 := h.length
  have l2 := h'.length
  by_cases he : err2 xs ys = 0
  · have HE := hide he
    obtain ⟨e1, e2⟩ := err2_zero he
    have k1 := errOf_zero e1
    have k2 := errOf_zero e2
    have j1 : 1 ≤ n := by omega
    have j2 : 1 ≤ n' := by omega
    clear h h' he e1 e2 l1 l2 k1 k2
    go_enter Try.func24, Try.ntmps24
    go_wp2_with fail
    refine (validateBoth_any _ _ _ xs _ _ _ ys _ HR.out HR'.out (by omega) (by omega)).mono ?_
    rintro e w' ⟨rfl, rfl⟩
    rw [HE.out]
    go_wp2_with fail
    refine (alike_any _ _ _ xs _ _ _ ys _ HR.out HR'.out (by omega) (by omega) (by omega) (by omega)).mono ?_
    rintro e w1 ⟨rfl, hb⟩
    go_wp2
    go_ret2
    exact ⟨ret2_bi (okb_zero HE.out _).symm HE.out.symm, hb⟩
  · have he' : (err2 xs ys != 0) = true := by simp [he]
    have HE := hide he
    clear h h' l1 l2 he
    go_enter Try.func24, Try.ntmps24
    go_wp2_with fail
    refine (validateBoth_any _ _ _ xs _ _ _ ys _ HR.out HR'.out (by omega) (by omega)).mono ?_
    rintro e w' ⟨rfl, rfl⟩
    go_wp2
    go_ret2
    exact ⟨ret2_bi (okb_ne HE.out _).symm rfl, Below.refl _ _⟩

set_option maxHeartbeats 400000 in
theorem rsame_below (A : Option Addr) (n c : Nat) (xs : List Int) (A' : Option Addr) (n' c' : Nat) (ys : List Int) (w : World) (h : Row w A n c xs) (h' : Row w A' n' c' ys) (hn1 : 1 ≤ n) (hn : n ≤ 1000) (hn1' : 1 ≤ n') (hn' : n' ≤ 1000) :
    Calls Try.prog 57 #[.slice A n c, .slice A' n' c', .int .i64 0] w fun e w' => e = .returned (.bool (eqL (rootL xs) (rootL ys))) ∧ Below w.heap.size w w' :=
  (rsame_any A n c xs A' n' c' ys 0 w h h' hn1 hn hn1' hn' (by omega) (by omega)).mono fun e w' ⟨he, hw⟩ =>
    ⟨by rw [he, same_eq (by have := h.length; omega) (by have := h'.length; omega), h.length, h'.length], by rw [← hw]; exact Below.refl _ _⟩
theorem ralike_below (A : Option Addr) (n c : Nat) (xs : List Int) (A' : Option Addr) (n' c' : Nat) (ys : List Int) (w : World) (h : Row w A n c xs) (h' : Row w A' n' c' ys) (hn1 : 1 ≤ n) (hn : n ≤ 1000) (hn1' : 1 ≤ n') (hn' : n' ≤ 1000) :
    Calls Try.prog 38 #[.slice A n c, .slice A' n' c'] w fun e w' => e = .returned (.bool (eqL (nameL xs) (nameL ys))) ∧ Below w.heap.size w w' :=
  (ralike_any A n c xs A' n' c' ys w h h' hn1 hn hn1' hn').mono fun e w' ⟨he, hw⟩ => ⟨he, by rw [← hw]; exact Below.refl _ _⟩

set_option maxHeartbeats 400000 in
theorem Agree_any (A : Option Addr) (n c : Nat) (xs : List Int) (A' : Option Addr) (n' c' : Nat) (ys : List Int) (w : World) (h : Row w A n c xs) (h' : Row w A' n' c' ys) (hn : n ≤ 1000) (hn' : n' ≤ 1000) :
    Calls Try.prog 30 #[.slice A n c, .slice A' n' c'] w fun e w' => e = .returned (.tuple #[.int .i64 (okv (err2 xs ys) (((agreeO xs ys).getD 0 : Nat) : Int)), .bool (okb (err2 xs ys) (agreeO xs ys).isSome), .int .i64 (err2 xs ys)]) ∧ Below w.heap.size w w' := by
  have HR := hide h
  have HR' := hide h'
  have l1 := h.length
  have l2 := h'.length
  by_cases he : err2 xs ys = 0
  · have HE := hide he
    obtain ⟨e1, e2⟩ := err2_zero he
    have k1 := errOf_zero e1
    have k2 := errOf_zero e2
    have j1 : 1 ≤ n := by omega
    have j2 : 1 ≤ n' := by omega
    rcases agreeO_spec (xs := xs) (ys := ys) (by omega) (by omega) with ⟨g1, g2⟩ | ⟨d, g1, g2, g3, g4, g5⟩
    · have HG := hide g1
      clear h h' he e1 e2 l1 l2 k1 k2 g1
      go_enter Try.func30, Try.ntmps30
      go_wp2_with fail
      refine (validateBoth_any _ _ _ xs _ _ _ ys _ HR.out HR'.out (by omega) (by omega)).mono ?_
      rintro e w' ⟨rfl, rfl⟩
      rw [HE.out]
      go_wp2_with fail
      refine (same_any _ _ _ xs _ _ _ ys _ HR.out HR'.out (by omega) (by omega) (by omega) (by omega)).mono ?_
      rintro e w1 ⟨rfl, hb⟩
      rw [g2]
      go_wp2
      go_ret3
      exact ⟨ret3_ibi (by rw [okv_zero HE.out, HG.out]; rfl) (by rw [okb_zero HE.out, HG.out]; rfl) HE.out.symm, hb⟩
    · have HG := hide g1
      have HG3 := hide g3
      have HG4 := hide g4
      have hd : d ≤ 1000000 := by
        have := mul_bd hn hn'
        rw [l1, l2] at g2
        have e : ((n * n' : Nat) : Int) = (n : Int) * (n' : Int) := Int.natCast_mul n n'
        omega
      clear h h' he e1 e2 l1 l2 k1 k2 g1 g2 g3 g4
      go_enter Try.func30, Try.ntmps30
      go_wp2_with fail
      refine (validateBoth_any _ _ _ xs _ _ _ ys _ HR.out HR'.out (by omega) (by omega)).mono ?_
      rintro e w' ⟨rfl, rfl⟩
      rw [HE.out]
      go_wp2_with fail
      refine (same_any _ _ _ xs _ _ _ ys _ HR.out HR'.out (by omega) (by omega) (by omega) (by omega)).mono ?_
      rintro e w1 ⟨rfl, hb⟩
      rw [g5]
      have HR1 := hide (HR.out.below hb (Nat.le_refl _))
      have HR2 := hide (HR'.out.below hb (Nat.le_refl _))
      go_wp2
      go_loop [8] (fun i => ∃ k : Nat, k ≤ d ∧ i = .int .i64 k) (fun i => d - (intOf i).toNat)
      case atStart => exact ⟨0, by omega, rfl⟩
      case round =>
        obtain ⟨k, hk, rfl⟩ := hrel
        by_cases hlt : k < d
        · have hc : (sec xs (k : Int) == sec ys (k : Int)) = true := by simp [HG4.out k hlt]
          go_wp2_with fail
          refine (second_any _ _ _ xs _ _ HR1.out (by omega) (by omega)).mono ?_
          rintro e w' ⟨rfl, rfl⟩
          go_wp2_with fail
          refine (second_any _ _ _ ys _ _ HR2.out (by omega) (by omega)).mono ?_
          rintro e w' ⟨rfl, rfl⟩
          go_wp2
          go_round
          case rel => exact ⟨k + 1, by omega, by go_num⟩
          case measure => simp [intOf]; omega
        · obtain rfl : k = d := by omega
          have hc : (sec xs (k : Int) == sec ys (k : Int)) = false := by simp [HG3.out]
          go_wp2_with fail
          refine (second_any _ _ _ xs _ _ HR1.out (by omega) (by omega)).mono ?_
          rintro e w' ⟨rfl, rfl⟩
          go_wp2_with fail
          refine (second_any _ _ _ ys _ _ HR2.out (by omega) (by omega)).mono ?_
          rintro e w' ⟨rfl, rfl⟩
          go_wp2
          go_ret3
          exact ⟨ret3_ibi (by rw [okv_zero HE.out, HG.out]; rfl) (by rw [okb_zero HE.out, HG.out]; rfl) HE.out.symm, hb⟩
  · have he' : (err2 xs ys != 0) = true := by simp [he]
    have HE := hide he
    clear h h' l1 l2 he
    go_enter Try.func30, Try.ntmps30
    go_wp2_with fail
    refine (validateBoth_any _ _ _ xs _ _ _ ys _ HR.out HR'.out (by omega) (by omega)).mono ?_
    rintro e w' ⟨rfl, rfl⟩
    go_wp2
    go_ret3
    exact ⟨ret3_ibi (okv_ne HE.out _).symm (okb_ne HE.out _).symm rfl, Below.refl _ _⟩

theorem Long_yes (A : Option Addr) (n c : Nat) (w : World) (h : 200 < n) :
    Calls Try.prog 8 #[.slice A n c] w fun e w' => e = .returned (.bool true) ∧ w = w' := by
  go_enter Try.func8, Try.ntmps8
  go_wp2
  go_ret
  exact ⟨ret_bool (by simp; omega), rfl⟩
theorem Long_no (A : Option Addr) (n c : Nat) (w : World) (h : n ≤ 200) :
    Calls Try.prog 8 #[.slice A n c] w fun e w' => e = .returned (.bool false) ∧ w = w' := by
  go_enter Try.func8, Try.ntmps8
  go_wp2
  go_ret
  exact ⟨ret_bool (by simp; omega), rfl⟩

/-! What the program must know: two calls at literals. -/
theorem known_name : nameL [1, 0, 0, 1, 0, 0] = [0, 0, 1] := by decide +kernel
theorem known_err : errOf [1, 0, 0, 1, 0, 0] = 0 := by decide +kernel
theorem known_agree : agreeO [1, 0] [1, 0, 0] = some 2 := by decide +kernel
theorem known_err2 : err2 [1, 0] [1, 0, 0] = 0 := by decide +kernel
theorem known_eq : eqL [0, 0, 1] [0, 0, 1] = true := by decide +kernel
set_option maxHeartbeats 400000 in
theorem known_any (w : World) :
    Calls Try.prog 9 #[] w fun e w' => e = .returned (.bool true) ∧ Below w.heap.size w w' := by
  go_enter Try.func9, Try.ntmps9
  go_wp2_with fail
  refine (Name_any _ _ _ [1, 0, 0, 1, 0, 0] _ (Own.lit w [1, 0, 0, 1, 0, 0] (Nat.le_refl _) (by simp [maxLen])).row (by simp)).mono ?_
  rintro e w1 ⟨A1, n1, c1, rfl, hown, hb⟩
  rw [known_err]
  rw [okl_zero known_err, known_name] at hown
  have hb1 : Below w.heap.size w w1 := ((Below.refl _ w).alloc (Nat.le_refl _) _).trans (hb.mono (by simp))
  have hl := hown.len
  have hn1 : n1 ≤ 3 := by simp at hl; omega
  clear hl
  go_wp2_with fail
  refine (Agree_any _ _ _ [1, 0] _ _ _ [1, 0, 0] _ ((Own.lit w1 [1, 0] (Nat.le_refl _) (by simp [maxLen])).alloc _).row (Own.litAt (w1.alloc (.cells (ints [1, 0]).toArray 3)) [1, 0, 0] (w1.heap.size + 1) (by simp) (Nat.le_refl _) (by simp [maxLen])).row (by simp) (by simp)).mono ?_
  rintro e w2 ⟨rfl, hb2⟩
  rw [known_agree, known_err2]
  have hb3 : Below w1.heap.size w1 w2 := (((Below.refl _ w1).alloc (Nat.le_refl _) _).alloc (by simp) _).trans (hb2.mono (by simp; omega))
  have hown3 := hown.below hb3 (Nat.le_refl _)
  have hsz := hb3.size
  go_wp2_with (first | (go_at_call 12; refine (SameInts_any _ _ _ [0, 0, 1] _ _ _ [0, 0, 1] _ (hown3.alloc _).row (Own.lit w2 [0, 0, 1] (Nat.le_refl _) (by simp [maxLen])).row).mono ?_; rintro e w3 ⟨rfl, hd3⟩; rw [known_eq]))
  go_ret
  exact ⟨rfl, ((hb1.trans (hb3.mono hb1.size)).trans ((Below.refl _ w2).alloc (by have := hb1.size; omega) _)).trans (hd3.below _)⟩



end Go.Proofs.Ytbadihbcjdibeaa
