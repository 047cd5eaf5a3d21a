/- Walks: which logs and costs are right, on both sides. -/
import Derived.Test.YtndfdminjegldaaTab
import Derived.Test.YtndfdminjegldaaME
namespace Go.Proofs.Ytndfdminjegldaa
open Go.RowKit Go.Shelf
attribute [local go_sem] Oper.semAt_some

def withinB (n lo hi : Int) : Bool := decide (lo ≤ n) && decide (n ≤ hi)
theorem withinB_true {n lo hi : Int} (h1 : lo ≤ n) (h2 : n ≤ hi) : withinB n lo hi = true := by simp [withinB, h1, h2]
theorem withinB_false {n lo hi : Int} (h : n < lo ∨ hi < n) : withinB n lo hi = false := by
  simp [withinB]; omega
theorem withinB_dec (n lo hi : Int) : withinB n lo hi = true ∧ lo ≤ n ∧ n ≤ hi ∨ withinB n lo hi = false ∧ ¬ (lo ≤ n ∧ n ≤ hi) := by
  by_cases h : lo ≤ n ∧ n ≤ hi
  · exact .inl ⟨withinB_true h.1 h.2, h⟩
  · exact .inr ⟨withinB_false (by omega), h⟩
theorem sgB_within (x : Int) : sgB x = withinB x 0 5 := by
  rcases withinB_dec x 0 5 with ⟨h, h1⟩ | ⟨h, h1⟩
  · rw [h, sgB_iff]; exact h1
  · rw [h, Bool.eq_false_iff, Ne, sgB_iff]; exact h1
set_option maxHeartbeats 400000 in
theorem within_any (n lo hi : Int) (w : World) :
    Calls Try.prog 58 #[.int .i64 n, .int .i64 lo, .int .i64 hi] w fun e w' => e = .returned (.bool (withinB n lo hi)) ∧ w = w' := by
  by_cases h1 : lo ≤ n
  · by_cases h2 : n ≤ hi
    · go_enter Try.func58, Try.ntmps58
      go_wp2
      go_ret
      exact ⟨ret_bool (withinB_true h1 h2).symm, rfl⟩
    · have h2' : hi < n := by omega
      go_enter Try.func58, Try.ntmps58
      go_wp2
      go_ret
      exact ⟨ret_bool (withinB_false (.inr h2')).symm, rfl⟩
  · have h1' : n < lo := by omega
    go_enter Try.func58, Try.ntmps58
    go_wp2
    go_ret
    exact ⟨ret_bool (withinB_false (.inl h1')).symm, rfl⟩
set_option maxHeartbeats 400000 in
theorem isSign_any (n : Int) (w : World) :
    Calls Try.prog 60 #[.int .i64 n] w fun e w' => e = .returned (.bool (sgB n)) ∧ w = w' := by
  rw [sgB_within]
  by_cases h1 : 0 ≤ n
  · by_cases h2 : n ≤ 5
    · go_enter Try.func60, Try.ntmps60
      go_wp2
      go_ret
      exact ⟨ret_bool (withinB_true h1 h2).symm, rfl⟩
    · have h2' : 5 < n := by omega
      go_enter Try.func60, Try.ntmps60
      go_wp2
      go_ret
      exact ⟨ret_bool (withinB_false (.inr h2')).symm, rfl⟩
  · have h1' : n < 0 := by omega
    go_enter Try.func60, Try.ntmps60
    go_wp2
    go_ret
    exact ⟨ret_bool (withinB_false (.inl h1')).symm, rfl⟩
set_option maxHeartbeats 1000000 in
theorem Validate_any (A : Option Addr) (n c : Nat) (xs : List Int) (w : World) (h : R E1 w A n c xs) :
    Calls Try.prog 22 #[.slice A n c] w fun e w' => e = .returned (.int .i64 (errL xs)) ∧ w = w' := by
  have HL := hide h.length
  have hle := h.le
  have H := hide h
  clear h
  by_cases hn : n ≤ 10
  · go_enter Try.func22, Try.ntmps22
    go_wp2_with fail
    go_loop [10] (fun i => ∃ k : Nat, k ≤ n ∧ i = .int .i64 k ∧ SgTo xs k) (fun i => n - (intOf i).toNat)
    case atStart => exact ⟨0, Nat.zero_le _, rfl, sgTo_zero _⟩
    case round =>
      obtain ⟨k, hk, rfl, hrep⟩ := hrel
      by_cases hlt : k < n
      · obtain ⟨b, off, hr⟩ := H.out
        obtain rfl := hr.at_ (by omega)
        have hc1 := c1 hr hlt
        have HF := hide (fun h1 : sgB (xs.getD k 0) = false => errL_arg (by rw [HL.out]; exact hn) (by rw [HL.out]; exact hlt) h1)
        have HS := hide (fun h1 : sgB (xs.getD k 0) = true => sgTo_succ hrep h1)
        have HC := hide (sgB_within (xs.getD k 0))
        generalize xs.getD k 0 = x at *
        clear hr
        cases hsx : sgB x with
        | true =>
          have HSX := hide hsx
          have HSW := hide (HC.out.symm.trans hsx)
          go_wp2_with (go_at_call 60; refine (isSign_any x _).mono ?_; rintro e w' ⟨rfl, rfl⟩; rw [HSX.out])
          go_round
          case rel => exact ⟨k + 1, by omega, by go_num, HS.out HSX.out⟩
          case measure => simp [intOf]; omega
        | false =>
          have HSX := hide hsx
          have HSW := hide (HC.out.symm.trans hsx)
          go_wp2_with (go_at_call 60; refine (isSign_any x _).mono ?_; rintro e w' ⟨rfl, rfl⟩; rw [HSX.out])
          go_ret
          exact ⟨ret_i64 (HF.out HSX.out).symm, rfl⟩
      · obtain rfl : k = n := by omega
        go_wp2_with fail
        go_ret
        exact ⟨ret_i64 (errL_fine (by rw [HL.out]; exact hn) (by rw [HL.out]; exact hrep)).symm, rfl⟩
  · have hn2 : (10 : Int) < n := by omega
    go_enter Try.func22, Try.ntmps22
    go_wp2_with fail
    go_ret
    exact ⟨ret_i64 (errL_large (by rw [HL.out]; exact hn)).symm, rfl⟩
set_option maxHeartbeats 1000000 in
theorem rValidate_any (A : Option Addr) (n c : Nat) (xs : List Int) (w : World) (h : R E1 w A n c xs) :
    Calls Try.prog 23 #[.slice A n c] w fun e w' => e = .returned (.int .i64 (errL xs)) ∧ w = w' := by
  have HL := hide h.length
  have hle := h.le
  have H := hide h
  clear h
  by_cases hn : n ≤ 10
  · go_enter Try.func23, Try.ntmps23
    go_wp2_with fail
    go_loop [3] (fun i => ∃ k : Nat, k ≤ n ∧ i = .int .i64 k ∧ SgTo xs k) (fun i => n - (intOf i).toNat)
    case atStart => exact ⟨0, Nat.zero_le _, rfl, sgTo_zero _⟩
    case round =>
      obtain ⟨k, hk, rfl, hrep⟩ := hrel
      by_cases hlt : k < n
      · obtain ⟨b, off, hr⟩ := H.out
        obtain rfl := hr.at_ (by omega)
        have hc1 := c1 hr hlt
        have HF := hide (fun h1 : sgB (xs.getD k 0) = false => errL_arg (by rw [HL.out]; exact hn) (by rw [HL.out]; exact hlt) h1)
        have HS := hide (fun h1 : sgB (xs.getD k 0) = true => sgTo_succ hrep h1)
        have HC := hide (sgB_within (xs.getD k 0))
        generalize xs.getD k 0 = x at *
        clear hr
        cases hsx : sgB x with
        | true =>
          have HSX := hide hsx
          have HSW := hide (HC.out.symm.trans hsx)
          go_wp2_with (go_at_call 58; refine (within_any x 0 5 _).mono ?_; rintro e w' ⟨rfl, rfl⟩; rw [HSW.out])
          go_round
          case rel => exact ⟨k + 1, by omega, by go_num, HS.out HSX.out⟩
          case measure => simp [intOf]; omega
        | false =>
          have HSX := hide hsx
          have HSW := hide (HC.out.symm.trans hsx)
          go_wp2_with (go_at_call 58; refine (within_any x 0 5 _).mono ?_; rintro e w' ⟨rfl, rfl⟩; rw [HSW.out])
          go_ret
          exact ⟨ret_i64 (HF.out HSX.out).symm, rfl⟩
      · obtain rfl : k = n := by omega
        go_wp2_with fail
        go_ret
        exact ⟨ret_i64 (errL_fine (by rw [HL.out]; exact hn) (by rw [HL.out]; exact hrep)).symm, rfl⟩
  · have hn2 : (10 : Int) < n := by omega
    go_enter Try.func23, Try.ntmps23
    go_wp2_with fail
    go_ret
    exact ⟨ret_i64 (errL_large (by rw [HL.out]; exact hn)).symm, rfl⟩
end Go.Proofs.Ytndfdminjegldaa
