/- Walks of the small functions on numbers and of Validate, on both sides. -/
import Derived.Test.YtlmmkaadoicogaaBase
namespace Go.Proofs.Ytlmmkaadoicogaa
open Go.RowKit

def withinB (n lo hi : Int) : Bool := decide (lo ≤ n) && decide (n ≤ hi)
theorem withinB_true {n lo hi : Int} (h1 : lo ≤ n) (h2 : n ≤ hi) : withinB n lo hi = true := by simp [withinB, h1, h2]
theorem withinB_false {n lo hi : Int} (h : n < lo ∨ hi < n) : withinB n lo hi = false := by
  simp [withinB]; omega

set_option maxHeartbeats 400000 in
theorem within_any (n lo hi : Int) (w : World) :
    Calls Try.prog 64 #[.int .i64 n, .int .i64 lo, .int .i64 hi] w fun e w' => e = .returned (.bool (withinB n lo hi)) ∧ w = w' := by
  by_cases h1 : lo ≤ n
  · by_cases h2 : n ≤ hi
    · go_enter Try.func64, Try.ntmps64
      go_wp2
      go_ret
      exact ⟨ret_bool (withinB_true h1 h2).symm, rfl⟩
    · have h2' : hi < n := by omega
      go_enter Try.func64, Try.ntmps64
      go_wp2
      go_ret
      exact ⟨ret_bool (withinB_false (.inr h2')).symm, rfl⟩
  · have h1' : n < lo := by omega
    go_enter Try.func64, Try.ntmps64
    go_wp2
    go_ret
    exact ⟨ret_bool (withinB_false (.inl h1')).symm, rfl⟩

theorem Long_yes (A : Option Addr) (n c : Nat) (w : World) (h : 100 < n) :
    Calls Try.prog 18 #[.slice A n c] w fun e w' => e = .returned (.bool true) ∧ w = w' := by
  go_enter Try.func18, Try.ntmps18
  go_wp2
  go_ret
  exact ⟨ret_bool (by simp; omega), rfl⟩
theorem Long_no (A : Option Addr) (n c : Nat) (w : World) (h : n ≤ 100) :
    Calls Try.prog 18 #[.slice A n c] w fun e w' => e = .returned (.bool false) ∧ w = w' := by
  go_enter Try.func18, Try.ntmps18
  go_wp2
  go_ret
  exact ⟨ret_bool (by simp; omega), rfl⟩

set_option maxHeartbeats 1000000 in
theorem Validate_any (A : Option Addr) (n c : Nat) (xs : Rd) (w : World) (h : Row w A n c xs) (hn2 : n ≤ 1000) :
    Calls Try.prog 24 #[.slice A n c] w fun e w' => e = .returned (.int .i64 (errH xs)) ∧ Below w.heap.size w w' := by
  obtain ⟨b, off, h1, hcap, hmax, h2, h3, h4⟩ := h
  have H1 := hide h1
  have H2 := hide h2
  have H3 := hide h3
  have H4 := hide h4
  clear h1 h2 h3 h4
  by_cases ha : n < 1
  · obtain rfl : n = 0 := by omega
    go_enter Try.func24, Try.ntmps24
    go_wp2
    go_ret
    exact ⟨ret_i64 (errH_large (.inl (by rw [H1.out]; omega))).symm, Below.refl _ _⟩
  · by_cases hb : 12 < n
    · go_enter Try.func24, Try.ntmps24
      go_wp2
      go_ret
      exact ⟨ret_i64 (errH_large (.inr (by rw [H1.out]; omega))).symm, Below.refl _ _⟩
    · obtain rfl := H2.out (by omega)
      have hlt := H3.out (by omega)
      have HL := hide hlt
      clear H3 H2 hlt
      go_enter Try.func24, Try.ntmps24
      go_wp2
      go_loopw [15] (fun i wr => ∃ k : Nat, k ≤ n ∧ i = .int .i64 k ∧ OkTo xs k ∧ Below w.heap.size w wr) (fun i _ => n - (intOf i).toNat)
      case atStart => exact ⟨0, Nat.zero_le _, rfl, okTo_zero _, Below.refl _ _⟩
      case round =>
        obtain ⟨k, hk, rfl, hrep, hbel⟩ := hrel
        by_cases hlt : k < n
        · obtain ⟨hc1, hc2⟩ := H4.out k hlt
          rw [← hbel.cell (p := ⟨b, off + k * 2, none⟩) HL.out] at hc1
          rw [← hbel.cell (p := ⟨b, off + k * 2 + 1, none⟩) HL.out] at hc2
          generalize hx : xs.getD k (0, 0) = x at hc1 hc2
          obtain ⟨x1, x2⟩ := x
          simp only at hc1 hc2
          have HX := hide hx
          clear hx
          go_wp2
          all_goals first
            | (go_ret; exact ⟨ret_i64 (errH_arg (by rw [H1.out]; omega) (by rw [H1.out]; omega) (okH_no (i := k) (by rw [H1.out]; exact hlt) (by rw [HX.out]; simp [okR]; omega))).symm, hbel.alloc hbel.size _⟩)
            | skip
          go_roundw
          case rel => exact ⟨k + 1, by omega, by go_num, okTo_succ hrep (by rw [HX.out]; simp [okR]; omega), hbel.alloc hbel.size _⟩
          case measure => simp [intOf]; omega
        · go_wp2
          go_ret
          exact ⟨ret_i64 (by rw [errH_ok (by rw [H1.out]; omega) (by rw [H1.out]; omega) (okH_of (by rw [H1.out, show n = k from by omega]; exact hrep))]), hbel⟩

theorem withinB_dec (n lo hi : Int) : withinB n lo hi = true ∧ lo ≤ n ∧ n ≤ hi ∨ withinB n lo hi = false ∧ ¬ (lo ≤ n ∧ n ≤ hi) := by
  by_cases h : lo ≤ n ∧ n ≤ hi
  · exact .inl ⟨withinB_true h.1 h.2, h⟩
  · exact .inr ⟨withinB_false (by omega), h⟩

set_option maxHeartbeats 1000000 in
theorem rValidate_any (A : Option Addr) (n c : Nat) (xs : Rd) (w : World) (h : Row w A n c xs) (hn2 : n ≤ 1000) :
    Calls Try.prog 25 #[.slice A n c] w fun e w' => e = .returned (.int .i64 (errH xs)) ∧ w = w' := by
  obtain ⟨b, off, h1, hcap, hmax, h2, h3, h4⟩ := h
  have H1 := hide h1
  have H2 := hide h2
  have H3 := hide h3
  have H4 := hide h4
  clear h1 h2 h3 h4
  by_cases hr : 1 ≤ n ∧ n ≤ 12
  · have hw : withinB n 1 12 = true := withinB_true (by omega) (by omega)
    obtain rfl := H2.out (by omega)
    go_enter Try.func25, Try.ntmps25
    go_wp2_with (go_at_call 64; refine (within_any _ _ _ _).mono ?_; rintro e w' ⟨rfl, rfl⟩)
    go_loop [3] (fun i => ∃ k : Nat, k ≤ n ∧ i = .int .i64 k ∧ OkTo xs k) (fun i => n - (intOf i).toNat)
    case atStart => exact ⟨0, Nat.zero_le _, rfl, okTo_zero _⟩
    case round =>
      obtain ⟨k, hk, rfl, hrep⟩ := hrel
      by_cases hlt : k < n
      · obtain ⟨hc1, hc2⟩ := H4.out k hlt
        generalize hx : xs.getD k (0, 0) = x at hc1 hc2
        obtain ⟨x1, x2⟩ := x
        simp only at hc1 hc2
        have HX := hide hx
        clear hx
        rcases withinB_dec x1 0 100 with ⟨h5, h6, h7⟩ | ⟨h5, h6⟩
        · rcases withinB_dec x2 1 9 with ⟨h8, h9, h10⟩ | ⟨h8, h9⟩
          · go_wp2_with (go_at_call 64; refine (within_any _ _ _ _).mono ?_; rintro e w' ⟨rfl, rfl⟩)
            go_round
            case rel => exact ⟨k + 1, by omega, by go_num, okTo_succ hrep (by rw [HX.out]; simp [okR]; omega)⟩
            case measure => simp [intOf]; omega
          · go_wp2_with (go_at_call 64; refine (within_any _ _ _ _).mono ?_; rintro e w' ⟨rfl, rfl⟩)
            go_ret
            exact ⟨ret_i64 (errH_arg (by rw [H1.out]; omega) (by rw [H1.out]; omega) (okH_no (i := k) (by rw [H1.out]; exact hlt) (by rw [HX.out]; simp [okR]; omega))).symm, rfl⟩
        · go_wp2_with (go_at_call 64; refine (within_any _ _ _ _).mono ?_; rintro e w' ⟨rfl, rfl⟩)
          go_ret
          exact ⟨ret_i64 (errH_arg (by rw [H1.out]; omega) (by rw [H1.out]; omega) (okH_no (i := k) (by rw [H1.out]; exact hlt) (by rw [HX.out]; simp [okR]; omega))).symm, rfl⟩
      · go_wp2
        go_ret
        exact ⟨ret_i64 (by rw [errH_ok (by rw [H1.out]; omega) (by rw [H1.out]; omega) (okH_of (by rw [H1.out, show n = k from by omega]; exact hrep))]), rfl⟩
  · have hw : withinB n 1 12 = false := withinB_false (by omega)
    go_enter Try.func25, Try.ntmps25
    go_wp2_with (go_at_call 64; refine (within_any _ _ _ _).mono ?_; rintro e w' ⟨rfl, rfl⟩)
    go_ret
    exact ⟨ret_i64 (errH_large (by rw [H1.out]; omega)).symm, rfl⟩

end Go.Proofs.Ytlmmkaadoicogaa
