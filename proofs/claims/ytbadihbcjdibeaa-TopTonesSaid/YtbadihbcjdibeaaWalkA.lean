/- Walks of the small functions of package tone. -/
import Derived.Test.YtbadihbcjdibeaaBase
namespace Go.Proofs.Ytbadihbcjdibeaa
open Go.RowKit

theorem ret_i64 {a b : Int} (h : a = b) : Ending.returned (.int .i64 a) = .returned (.int .i64 b) := by rw [h]
theorem ret_bool {a b : Bool} (h : a = b) : Ending.returned (.bool a) = .returned (.bool b) := by rw [h]

theorem mod_neg (i n : Int) (hn : 1 ≤ n) (h : i.tmod n < 0) : wrap64 (i.tmod n + n) = i % n ∨ 1000000 < n := by
  by_cases hb : n ≤ 1000000
  · left
    have e := Int.tmod_eq_emod (a := i) (b := n)
    have l := Int.emod_lt_of_pos i (show 0 < n by omega)
    have g := Int.emod_nonneg i (show n ≠ 0 by omega)
    have k : i.tmod n + n = i % n := by
      split at e <;> omega
    rw [k]
    exact IntWalk.wrap64_in _ ⟨by omega, by omega⟩
  · right; omega
theorem mod_nonneg (i n : Int) (hn : 1 ≤ n) (h : 0 ≤ i.tmod n) : i.tmod n = i % n := by
  have e := Int.tmod_eq_emod (a := i) (b := n)
  have l := Int.emod_lt_of_pos i (show 0 < n by omega)
  split at e <;> omega

set_option maxHeartbeats 400000 in
theorem modulo_any (i n : Int) (w : World) (hn : 1 ≤ n) (hn2 : n ≤ 1000000) :
    Calls Try.prog 59 #[.int .i64 i, .int .i64 n] w fun e w' => e = .returned (.int .i64 (i % n)) ∧ w = w' := by
  go_enter Try.func59, Try.ntmps59
  go_wp2
  · have h : i.tmod n < 0 := by assumption
    go_ret
    exact ⟨ret_i64 ((mod_neg i n hn h).resolve_right (by omega)), rfl⟩
  · have h : 0 ≤ i.tmod n := by assumption
    go_ret
    exact ⟨ret_i64 (mod_nonneg i n hn h), rfl⟩

set_option maxHeartbeats 400000 in
theorem second_any (A : Option Addr) (n c : Nat) (xs : List Int) (i : Int) (w : World) (h : Row w A n c xs) (hn : 1 ≤ n) (hn2 : n ≤ 1000) :
    Calls Try.prog 41 #[.slice A n c, .int .i64 i] w fun e w' => e = .returned (.int .i64 (sec xs i)) ∧ w = w' := by
  obtain ⟨b, off, h1, hcap, hmax, h2, h3, h4⟩ := h
  obtain rfl := h2 (by omega)
  have e1 := Int.emod_lt_of_pos i (show (0 : Int) < n by omega)
  have e2 := Int.emod_nonneg i (show (n : Int) ≠ 0 by omega)
  have hs : sec xs i = xs.getD (i % (n : Int)).toNat 0 := by unfold sec; rw [h1]
  have hc := h4 (i % (n : Int)).toNat (by omega)
  rw [← hs] at hc
  have H := hide hs
  clear hs h4 h2 h1 h3
  generalize sec xs i = s at *
  generalize hm : i % (n : Int) = m at *
  have HM := hide hm
  clear hm H
  go_enter Try.func41, Try.ntmps41
  go_wp2_with (go_at_call 59; refine (modulo_any _ _ _ (by omega) (by omega)).mono ?_; rintro e w' ⟨rfl, rfl⟩; rw [HM.out])
  go_ret
  exact ⟨rfl, rfl⟩

theorem ret2_ii {a b c d : Int} (h : a = b) (h' : c = d) : Ending.returned (.tuple #[.int .i64 a, .int .i64 c]) = .returned (.tuple #[.int .i64 b, .int .i64 d]) := by rw [h, h']
theorem ret2_bi {a b : Bool} {c d : Int} (h : a = b) (h' : c = d) : Ending.returned (.tuple #[.bool a, .int .i64 c]) = .returned (.tuple #[.bool b, .int .i64 d]) := by rw [h, h']

set_option maxHeartbeats 400000 in
theorem repeatsAfter_any (A : Option Addr) (n c : Nat) (xs : List Int) (p : Int) (w : World) (h : Row w A n c xs) (hn : 1 ≤ n) (hn2 : n ≤ 1000) (hp1 : 0 ≤ p) (hp2 : p ≤ 1000) :
    Calls Try.prog 63 #[.slice A n c, .int .i64 p] w fun e w' => e = .returned (.bool (repB xs p)) ∧ w = w' := by
  have HR := hide h
  obtain ⟨b, off, h1, hcap, hmax, h2, h3, h4⟩ := h
  obtain rfl := h2 (by omega)
  have H4 := hide h4
  have H1 := hide h1
  clear h1 h2 h3 h4
  go_enter Try.func63, Try.ntmps63
  go_wp2
  go_loop [9] (fun i => ∃ k : Nat, k ≤ n ∧ i = .int .i64 k ∧ RepTo xs p k) (fun i => n - (intOf i).toNat)
  case atStart => exact ⟨0, Nat.zero_le _, rfl, repTo_zero _ _⟩
  case round =>
    obtain ⟨k, hk, rfl, hrep⟩ := hrel
    by_cases hlt : k < n
    · have hcell := H4.out k hlt
      generalize hx : xs.getD k 0 = x at hcell
      have HX := hide hx
      clear hx
      go_wp2_with (go_at_call 41; refine (second_any _ _ _ xs _ _ HR.out (by omega) (by omega)).mono ?_; rintro e w' ⟨rfl, rfl⟩)
      · have ht : (sec xs (↑k + p) != x) = true := by assumption
        go_ret
        exact ⟨ret_bool (repB_false (by rw [H1.out]; exact hlt) (by rw [HX.out]; simpa using ht)).symm, rfl⟩
      · have ht : (sec xs (↑k + p) != x) = false := by assumption
        go_round
        case rel => exact ⟨k + 1, by omega, by go_num, repTo_succ hrep (by rw [HX.out]; simpa using ht)⟩
        case measure => simp [intOf]; omega
    · go_wp2
      go_ret
      exact ⟨ret_bool (repB_true (by rw [H1.out, show n = k from by omega]; exact hrep)).symm, rfl⟩

set_option maxHeartbeats 400000 in
theorem period_any (A : Option Addr) (n c : Nat) (xs : List Int) (w : World) (h : Row w A n c xs) (hn : 1 ≤ n) (hn2 : n ≤ 1000) :
    Calls Try.prog 48 #[.slice A n c] w fun e w' => e = .returned (.int .i64 (per xs)) ∧ w = w' := by
  have HR := hide h
  have h1 : n = xs.length := by obtain ⟨b, off, h1, hcap, hmax, h2, h3, h4⟩ := h; exact h1.symm
  obtain ⟨s1, s2, s3, s4⟩ := per_spec (xs := xs) (by omega)
  have S := hide s1
  have U := hide h1
  have s3' : per xs ≤ n := by omega
  clear s1 h h1 s4 s3
  go_enter Try.func48, Try.ntmps48
  go_wp2
  go_loop [3] (fun i => ∃ k : Nat, 1 ≤ k ∧ k ≤ per xs ∧ i = .int .i64 k ∧ NoRepTo xs k) (fun i => n - (intOf i).toNat)
  case atStart => exact ⟨1, by omega, by omega, rfl, noRepTo_one _⟩
  case round =>
    obtain ⟨k, hk1, hk, rfl, hrep⟩ := hrel
    cases hb : repB xs (k : Int) with
    | true =>
      go_wp2_with (go_at_call 63; refine (repeatsAfter_any _ _ _ xs _ _ HR.out (by omega) (by omega) (by omega) (by omega)).mono ?_; rintro e w' ⟨rfl, rfl⟩)
      go_ret
      exact ⟨ret_i64 (by rw [per_unique (by have := U.out; omega) hk1 hb hrep]), rfl⟩
    | false =>
      have hne : k ≠ per xs := fun e => by rw [e, S.out] at hb; cases hb
      go_wp2_with (go_at_call 63; refine (repeatsAfter_any _ _ _ xs _ _ HR.out (by omega) (by omega) (by omega) (by omega)).mono ?_; rintro e w' ⟨rfl, rfl⟩)
      go_round
      case rel => exact ⟨k + 1, by omega, by omega, by go_num, noRepTo_succ hrep hb⟩
      case measure => simp [intOf]; omega

set_option maxHeartbeats 400000 in
theorem validateSeconds_any (A : Option Addr) (n c : Nat) (xs : List Int) (w : World) (h : Row w A n c xs) (hn2 : n ≤ 1000) :
    Calls Try.prog 32 #[.slice A n c] w fun e w' => e = .returned (.int .i64 (bitErr xs)) ∧ w = w' := by
  obtain ⟨b, off, h1, hcap, hmax, h2, h3, h4⟩ := h
  have H4 := hide h4
  have H1 := hide h1
  have H2 := hide h2
  clear h1 h2 h3 h4
  go_enter Try.func32, Try.ntmps32
  go_wp2
  go_loop [7] (fun i => ∃ k : Nat, k ≤ n ∧ i = .int .i64 k ∧ BitTo xs k) (fun i => n - (intOf i).toNat)
  case atStart => exact ⟨0, Nat.zero_le _, rfl, bitTo_zero _⟩
  case round =>
    obtain ⟨k, hk, rfl, hrep⟩ := hrel
    by_cases hlt : k < n
    · have hcell := H4.out k hlt
      have hA := H2.out (by omega)
      generalize hx : xs.getD k 0 = x at hcell
      have HX := hide hx
      clear hx
      subst hA
      by_cases hx0 : x = 0
      · subst hx0
        go_wp2
        go_round
        case rel => exact ⟨k + 1, by omega, by go_num, bitTo_succ hrep (.inl HX.out)⟩
        case measure => simp [intOf]; omega
      · by_cases hx1 : x = 1
        · subst hx1
          go_wp2
          go_round
          case rel => exact ⟨k + 1, by omega, by go_num, bitTo_succ hrep (.inr HX.out)⟩
          case measure => simp [intOf]; omega
        · have b0 : (x != 0) = true := by simp [hx0]
          have b1 : (x != 1) = true := by simp [hx1]
          go_wp2
          go_ret
          exact ⟨ret_i64 (bitErr_false (bitsB_false (mem_getD (k := k) (by rw [H1.out]; exact hlt)) (by rw [HX.out]; exact hx0) (by rw [HX.out]; exact hx1))).symm, rfl⟩
    · go_wp2
      go_ret
      exact ⟨ret_i64 (bitErr_true (bitTo_all (by rw [H1.out, show n = k from by omega]; exact hrep))).symm, rfl⟩

set_option maxHeartbeats 400000 in
theorem Validate_any (A : Option Addr) (n c : Nat) (xs : List Int) (w : World) (h : Row w A n c xs) (hn2 : n ≤ 1000) :
    Calls Try.prog 40 #[.slice A n c] w fun e w' => e = .returned (.int .i64 (errOf xs)) ∧ w = w' := by
  have HR := hide h
  have h1 : xs.length = n := by obtain ⟨b, off, h1, hcap, hmax, h2, h3, h4⟩ := h; exact h1
  have H1 := hide h1
  clear h h1
  by_cases ha : n < 1
  · obtain rfl : n = 0 := by omega
    go_enter Try.func40, Try.ntmps40
    go_wp2
    go_ret
    exact ⟨ret_i64 (errOf_large (.inl (by rw [H1.out]; omega))).symm, rfl⟩
  · by_cases hb : 24 < n
    · go_enter Try.func40, Try.ntmps40
      go_wp2
      go_ret
      exact ⟨ret_i64 (errOf_large (.inr (by rw [H1.out]; omega))).symm, rfl⟩
    · go_enter Try.func40, Try.ntmps40
      go_wp2_with (go_at_call 32; refine (validateSeconds_any _ _ _ xs _ HR.out (by omega)).mono ?_; rintro e w' ⟨rfl, rfl⟩)
      go_ret
      exact ⟨ret_i64 (errOf_fit (by rw [H1.out]; omega) (by rw [H1.out]; omega)).symm, rfl⟩

set_option maxHeartbeats 400000 in
theorem At_any (A : Option Addr) (n c : Nat) (xs : List Int) (i : Int) (w : World) (h : Row w A n c xs) (hn2 : n ≤ 1000) :
    Calls Try.prog 15 #[.slice A n c, .int .i64 i] w fun e w' => e = .returned (.tuple #[.int .i64 (okv (errOf xs) (sec xs i)), .int .i64 (errOf xs)]) ∧ w = w' := by
  have HR := hide h
  have h1 : xs.length = n := by obtain ⟨b, off, h1, hcap, hmax, h2, h3, h4⟩ := h; exact h1
  by_cases he : errOf xs = 0
  · obtain ⟨l1, l2, _⟩ := errOf_zero he
    have l1' : 1 ≤ n := by omega
    have HE := hide he
    clear h h1 he l1 l2
    go_enter Try.func15, Try.ntmps15
    go_wp2_with (first | (go_at_call 40; refine (Validate_any _ _ _ xs _ HR.out (by omega)).mono ?_; rintro e w' ⟨rfl, rfl⟩; rw [HE.out]) | (go_at_call 41; refine (second_any _ _ _ xs _ _ HR.out (by omega) (by omega)).mono ?_; rintro e w' ⟨rfl, rfl⟩))
    go_ret2
    exact ⟨ret2_ii (okv_zero HE.out _).symm HE.out.symm, rfl⟩
  · have he' : (errOf xs != 0) = true := by simp [he]
    clear h h1
    go_enter Try.func15, Try.ntmps15
    go_wp2_with (first | (go_at_call 40; refine (Validate_any _ _ _ xs _ HR.out (by omega)).mono ?_; rintro e w' ⟨rfl, rfl⟩))
    go_ret2
    exact ⟨ret2_ii (okv_ne he _).symm rfl, rfl⟩

set_option maxHeartbeats 400000 in
theorem Period_any (A : Option Addr) (n c : Nat) (xs : List Int) (w : World) (h : Row w A n c xs) (hn2 : n ≤ 1000) :
    Calls Try.prog 21 #[.slice A n c] w fun e w' => e = .returned (.tuple #[.int .i64 (okv (errOf xs) (per xs)), .int .i64 (errOf xs)]) ∧ w = w' := by
  have HR := hide h
  have h1 : xs.length = n := by obtain ⟨b, off, h1, hcap, hmax, h2, h3, h4⟩ := h; exact h1
  by_cases he : errOf xs = 0
  · obtain ⟨l1, l2, _⟩ := errOf_zero he
    have l1' : 1 ≤ n := by omega
    have HE := hide he
    clear h h1 he l1 l2
    go_enter Try.func21, Try.ntmps21
    go_wp2_with (first | (go_at_call 40; refine (Validate_any _ _ _ xs _ HR.out (by omega)).mono ?_; rintro e w' ⟨rfl, rfl⟩; rw [HE.out]) | (go_at_call 48; refine (period_any _ _ _ xs _ HR.out (by omega) (by omega)).mono ?_; rintro e w' ⟨rfl, rfl⟩))
    go_ret2
    exact ⟨ret2_ii (okv_zero HE.out _).symm HE.out.symm, rfl⟩
  · have he' : (errOf xs != 0) = true := by simp [he]
    clear h h1
    go_enter Try.func21, Try.ntmps21
    go_wp2_with (first | (go_at_call 40; refine (Validate_any _ _ _ xs _ HR.out (by omega)).mono ?_; rintro e w' ⟨rfl, rfl⟩))
    go_ret2
    exact ⟨ret2_ii (okv_ne he _).symm rfl, rfl⟩

end Go.Proofs.Ytbadihbcjdibeaa
