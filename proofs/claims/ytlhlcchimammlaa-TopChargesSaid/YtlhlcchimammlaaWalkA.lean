/- Walks: which weights are right, on both sides. -/
import Derived.Test.YtlhlcchimammlaaOwn
import Derived.Test.YtlhlcchimammlaaMV
namespace Go.Proofs.Ytlhlcchimammlaa
open Go.RowKit Go.Shelf

def withinB (n lo hi : Int) : Bool := decide (lo ≤ n) && decide (n ≤ hi)
theorem withinB_true {n lo hi : Int} (h1 : lo ≤ n) (h2 : n ≤ hi) : withinB n lo hi = true := by simp [withinB, h1, h2]
theorem withinB_false {n lo hi : Int} (h : n < lo ∨ hi < n) : withinB n lo hi = false := by
  simp [withinB]; omega
theorem withinB_dec (n lo hi : Int) : withinB n lo hi = true ∧ lo ≤ n ∧ n ≤ hi ∨ withinB n lo hi = false ∧ ¬ (lo ≤ n ∧ n ≤ hi) := by
  by_cases h : lo ≤ n ∧ n ≤ hi
  · exact .inl ⟨withinB_true h.1 h.2, h⟩
  · exact .inr ⟨withinB_false (by omega), h⟩
set_option maxHeartbeats 400000 in
theorem within_any (n lo hi : Int) (w : World) :
    Calls Try.prog 59 #[.int .i64 n, .int .i64 lo, .int .i64 hi] w fun e w' => e = .returned (.bool (withinB n lo hi)) ∧ w = w' := by
  by_cases h1 : lo ≤ n
  · by_cases h2 : n ≤ hi
    · go_enter Try.func59, Try.ntmps59
      go_wp2
      go_ret
      exact ⟨ret_bool (withinB_true h1 h2).symm, rfl⟩
    · have h2' : hi < n := by omega
      go_enter Try.func59, Try.ntmps59
      go_wp2
      go_ret
      exact ⟨ret_bool (withinB_false (.inr h2')).symm, rfl⟩
  · have h1' : n < lo := by omega
    go_enter Try.func59, Try.ntmps59
    go_wp2
    go_ret
    exact ⟨ret_bool (withinB_false (.inl h1')).symm, rfl⟩
set_option maxHeartbeats 400000 in
theorem isAmount_any (n : Int) (w : World) :
    Calls Try.prog 58 #[.int .i64 n] w fun e w' => e = .returned (.bool (withinB n 0 2000)) ∧ w = w' := by
  by_cases h1 : 0 ≤ n
  · by_cases h2 : n ≤ 2000
    · go_enter Try.func58, Try.ntmps58
      go_wp2
      go_ret
      exact ⟨ret_bool (withinB_true h1 h2).symm, rfl⟩
    · have h2' : 2000 < n := by omega
      go_enter Try.func58, Try.ntmps58
      go_wp2
      go_ret
      exact ⟨ret_bool (withinB_false (.inr h2')).symm, rfl⟩
  · have h1' : n < 0 := by omega
    go_enter Try.func58, Try.ntmps58
    go_wp2
    go_ret
    exact ⟨ret_bool (withinB_false (.inl h1')).symm, rfl⟩

set_option maxHeartbeats 1000000 in
theorem Validate_any (A : Option Addr) (n c : Nat) (xs : List Int) (w : World) (h : R E1 w A n c xs) :
    Calls Try.prog 25 #[.slice A n c] w fun e w' => e = .returned (.int .i64 (errW xs)) ∧ w = w' := by
  have hl := h.length
  have hle := h.le
  obtain ⟨b, off, hr⟩ := h
  have H1 := hide hl
  by_cases ha : n < 1
  · obtain rfl : n = 0 := by omega
    go_enter Try.func25, Try.ntmps25
    go_wp2
    go_ret
    exact ⟨ret_i64 (errW_large (by rw [H1.out]; omega)).symm, rfl⟩
  · by_cases hb : 4 < n
    · go_enter Try.func25, Try.ntmps25
      go_wp2
      go_ret
      exact ⟨ret_i64 (errW_large (by rw [H1.out]; omega)).symm, rfl⟩
    · have H4 := hide hr
      obtain rfl := hr.at_ (by omega)
      clear hr hl
      go_enter Try.func25, Try.ntmps25
      go_wp2
      go_loop [3, 16] (fun last i => ∃ k : Nat, k ≤ n ∧ i = .int .i64 k ∧ last = .int .i64 (prevW xs k) ∧ OkW xs k) (fun _ i => n - (intOf i).toNat)
      case atStart => exact ⟨0, Nat.zero_le _, rfl, rfl, okW_zero _⟩
      case round =>
        obtain ⟨k, hk, rfl, rfl, hrep⟩ := hrel
        have hp := prevW_bd hrep
        by_cases hlt : k < n
        · have hc1 := c1 H4.out hlt
          have HX := hide (prevW_succ xs k)
          have HP := hide (okW_prev hrep)
          generalize hx : xs.getD k 0 = x at hc1 HX HP
          generalize hy : prevW xs k = y at hp HP
          clear hx hy
          go_wp2
          all_goals first
            | (go_ret; exact ⟨ret_i64 (errW_arg (by rw [H1.out]; omega) (k := k) (by rw [H1.out]; exact hlt) (Bool.eq_false_iff.2 fun h2 => by have := HP.out.1 h2; omega)).symm, rfl⟩)
            | skip
          go_round
          case rel => exact ⟨k + 1, by omega, by go_num, by rw [HX.out], okW_succ hrep (HP.out.2 (by omega))⟩
          case measure => simp [intOf]; omega
        · obtain rfl : k = n := by omega
          go_wp2
          go_ret
          exact ⟨ret_i64 (errW_fine (by rw [H1.out]; omega) (by rw [H1.out]; exact hrep)).symm, rfl⟩
set_option maxHeartbeats 400000 in
theorem validateAmount_any (A : Option Addr) (n c : Nat) (xs : List Int) (m : Int) (w : World) (h : R E1 w A n c xs) :
    Calls Try.prog 60 #[.slice A n c, .int .i64 m] w fun e w' => e = .returned (.int .i64 (errA xs m)) ∧ w = w' := by
  have H := hide h
  clear h
  by_cases he : errW xs = 0
  · have HE := hide he
    by_cases hm : 0 ≤ m ∧ m ≤ 2000
    · have HA := hide (errA_fine he hm)
      have HW := hide (withinB_true hm.1 hm.2)
      clear he
      go_enter Try.func60, Try.ntmps60
      go_wp2_with (first
        | (go_at_call 25; refine (Validate_any _ _ _ xs _ H.out).mono ?_; rintro e w1 ⟨rfl, rfl⟩; rw [HE.out])
        | (go_at_call 58; refine (isAmount_any _ _).mono ?_; rintro e w1 ⟨rfl, rfl⟩; rw [HW.out]))
      go_ret
      exact ⟨ret_i64 HA.out.symm, rfl⟩
    · have HA := hide (errA_arg he hm)
      have HW := hide (withinB_false (n := m) (lo := 0) (hi := 2000) (by omega))
      clear he
      go_enter Try.func60, Try.ntmps60
      go_wp2_with (first
        | (go_at_call 25; refine (Validate_any _ _ _ xs _ H.out).mono ?_; rintro e w1 ⟨rfl, rfl⟩; rw [HE.out])
        | (go_at_call 58; refine (isAmount_any _ _).mono ?_; rintro e w1 ⟨rfl, rfl⟩; rw [HW.out]))
      go_ret
      exact ⟨ret_i64 HA.out.symm, rfl⟩
  · have HA := hide (errA_no (n := m) he)
    have hne : (errW xs != 0) = true := by simpa using he
    clear he
    go_enter Try.func60, Try.ntmps60
    go_wp2_with (go_at_call 25; refine (Validate_any _ _ _ xs _ H.out).mono ?_; rintro e w1 ⟨rfl, rfl⟩)
    go_ret
    exact ⟨ret_i64 HA.out.symm, rfl⟩
end Go.Proofs.Ytlhlcchimammlaa
