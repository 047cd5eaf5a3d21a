/- The document's Validate. -/
import Derived.Test.YtllfkhcpdgdmnaaWalkA
import Derived.Deep.RegionHeld3
import Derived.Shelf.RegionOpen
namespace Go.Proofs.Ytllfkhcpdgdmnaa
open Go.RowKit Go.Shelf
attribute [local go_sem] Oper.semAt_some

set_option maxHeartbeats 4000000 in
theorem rValidate_any (A : Option Addr) (n c : Nat) (xs : List Int) (w : World) (h : R E1 w A n c xs) (hn2 : n ≤ 1000) :
    Calls Try.prog 25 #[.slice A n c] w fun e w' => e = .returned (.int .i64 (errC xs)) ∧ Below w.heap.size w w' := by
  have hl := h.length
  obtain ⟨b, off, hr⟩ := h
  have H1 := hide hl
  rcases withinB_dec n 1 6 with ⟨hw, hn1, hn6⟩ | ⟨hw, hn⟩
  · have H4 := hide hr
    obtain rfl := hr.at_ (by omega)
    have HL := hide (hr.lt (by omega))
    clear hr hl
    go_enter Try.func25, Try.ntmps25
    go_wp2_with (go_at_call 62; refine (within_any _ _ _ _).mono ?_; rintro e w1 ⟨rfl, rfl⟩)
    go_loopw [3] (fun i wr => ∃ k : Nat, k ≤ n ∧ i = .int .i64 k ∧ OkTo xs k ∧ Below w.heap.size w wr) (fun i _ => n - (intOf i).toNat)
    case atStart => exact ⟨0, Nat.zero_le _, rfl, okTo_zero _, Below.refl _ _⟩
    case round =>
      obtain ⟨k, hk, rfl, hrep, hbel⟩ := hrel
      by_cases hlt : k < n
      · have hc1 := c1 (H4.out.under hbel fun _ => HL.out) hlt
        by_cases hk0 : k = 0
        · subst hk0
          rw [Nat.add_zero] at hc1
          have HF := hide (fun h1 : ¬ (-60 ≤ xs.getD 0 0 ∧ xs.getD 0 0 ≤ 60) => (Bool.eq_false_iff.2 fun h2 => h1 ⟨(okB_iff.1 h2).1, (okB_iff.1 h2).2.1⟩ : okB xs 0 = false))
          have HS := hide (fun h1 : -60 ≤ xs.getD 0 0 ∧ xs.getD 0 0 ≤ 60 => (okB_iff.2 ⟨h1.1, h1.2, .inl rfl⟩ : okB xs 0 = true))
          generalize xs.getD 0 0 = x at hc1 HF HS
          rcases withinB_dec x (-60) 60 with ⟨hwx, hx1, hx2⟩ | ⟨hwx, hx⟩
          · clear HF
            go_wp2_with fail
            go_quiet ((go_at_call 62; first | exact quiet_left (within_any _ _ _ _) | exact quiet_add_left (within_any _ _ _ _)))
            all_goals
              go_wp2_with fail
              all_goals first
                | (go_ret; exact ⟨ret_i64 (errC_arg (by rw [H1.out]; omega) (by rw [H1.out]; omega) (k := 0) (by rw [H1.out]; exact hlt) (HF.out (by omega))).symm, below_drewN hbel _⟩)
                | (go_roundw
                   case rel => exact ⟨0 + 1, by omega, by go_num, okTo_succ hrep (HS.out (by omega)), below_drewN hbel _⟩
                   case measure => simp [intOf] <;> omega)
          · clear HS
            go_wp2_with fail
            go_quiet ((go_at_call 62; first | exact quiet_left (within_any _ _ _ _) | exact quiet_add_left (within_any _ _ _ _)))
            all_goals
              go_wp2_with fail
              all_goals first
                | (go_ret; exact ⟨ret_i64 (errC_arg (by rw [H1.out]; omega) (by rw [H1.out]; omega) (k := 0) (by rw [H1.out]; exact hlt) (HF.out (by omega))).symm, below_drewN hbel _⟩)
                | (go_roundw
                   case rel => exact ⟨0 + 1, by omega, by go_num, okTo_succ hrep (HS.out (by omega)), below_drewN hbel _⟩
                   case measure => simp [intOf] <;> omega)
        · have hc0 := c1 (H4.out.under hbel fun _ => HL.out) (k := k - 1) (by omega)
          have hkk : ((k : Int) - 1) = ((k - 1 : Nat) : Int) := by omega
          have hkp : 0 < k := by omega
          have HF := hide (fun h1 : ¬ (-60 ≤ xs.getD k 0 ∧ xs.getD k 0 ≤ 60 ∧ xs.getD (k - 1) 0 < xs.getD k 0) => (Bool.eq_false_iff.2 fun h2 => h1 ⟨(okB_iff.1 h2).1, (okB_iff.1 h2).2.1, (okB_iff.1 h2).2.2.resolve_left hk0⟩ : okB xs k = false))
          have HS := hide (fun h1 : -60 ≤ xs.getD k 0 ∧ xs.getD k 0 ≤ 60 ∧ xs.getD (k - 1) 0 < xs.getD k 0 => (okB_iff.2 ⟨h1.1, h1.2.1, .inr h1.2.2⟩ : okB xs k = true))
          generalize xs.getD k 0 = x at hc1 HF HS
          generalize xs.getD (k - 1) 0 = y at hc0 HF HS
          rcases withinB_dec x (-60) 60 with ⟨hwx, hx1, hx2⟩ | ⟨hwx, hx⟩
          · by_cases hxy : x ≤ y
            · go_wp2_with fail
              go_quiet ((go_at_call 62; first | exact quiet_left (within_any _ _ _ _) | exact quiet_add_left (within_any _ _ _ _)))
              all_goals
                go_wp2_with fail
                all_goals first
                  | (go_ret; exact ⟨ret_i64 (errC_arg (by rw [H1.out]; omega) (by rw [H1.out]; omega) (k := k) (by rw [H1.out]; exact hlt) (HF.out (by omega))).symm, below_drewN hbel _⟩)
                  | (go_roundw
                     case rel => exact ⟨k + 1, by omega, by go_num, okTo_succ hrep (HS.out (by omega)), below_drewN hbel _⟩
                     case measure => simp [intOf] <;> omega)
            · go_wp2_with fail
              go_quiet ((go_at_call 62; first | exact quiet_left (within_any _ _ _ _) | exact quiet_add_left (within_any _ _ _ _)))
              all_goals
                go_wp2_with fail
                all_goals first
                  | (go_ret; exact ⟨ret_i64 (errC_arg (by rw [H1.out]; omega) (by rw [H1.out]; omega) (k := k) (by rw [H1.out]; exact hlt) (HF.out (by omega))).symm, below_drewN hbel _⟩)
                  | (go_roundw
                     case rel => exact ⟨k + 1, by omega, by go_num, okTo_succ hrep (HS.out (by omega)), below_drewN hbel _⟩
                     case measure => simp [intOf] <;> omega)
          · go_wp2_with fail
            go_quiet ((go_at_call 62; first | exact quiet_left (within_any _ _ _ _) | exact quiet_add_left (within_any _ _ _ _)))
            all_goals
              go_wp2_with fail
              all_goals first
                | (go_ret; exact ⟨ret_i64 (errC_arg (by rw [H1.out]; omega) (by rw [H1.out]; omega) (k := k) (by rw [H1.out]; exact hlt) (HF.out (by omega))).symm, below_drewN hbel _⟩)
                | (go_roundw
                   case rel => exact ⟨k + 1, by omega, by go_num, okTo_succ hrep (HS.out (by omega)), below_drewN hbel _⟩
                   case measure => simp [intOf] <;> omega)
      · obtain rfl : k = n := by omega
        have hc1 := c1 (H4.out.under hbel fun _ => HL.out) (k := 0) (by omega)
        have hc2 := c1 (H4.out.under hbel fun _ => HL.out) (k := k - 1) (by omega)
        rw [Nat.add_zero] at hc1
        have he : ext xs = xs.getD (k - 1) 0 - xs.getD 0 0 := by unfold ext; rw [H1.out]
        have hq := okB_iff.1 (hrep 0 (by omega))
        have hp := okB_iff.1 (hrep (k - 1) (by omega))
        have HE := hide he
        generalize xs.getD 0 0 = x at hc1 hq HE
        generalize xs.getD (k - 1) 0 = y at hc2 hp HE
        have hkk : ((k : Int) - 1) = ((k - 1 : Nat) : Int) := by omega
        clear he
        go_wp2_with fail
        go_quiet (fail)
        go_wp2_with fail
        all_goals go_ret
        all_goals first
          | exact ⟨ret_i64 (errC_far (by rw [H1.out]; omega) (by rw [H1.out]; omega) (by rw [HE.out]; omega)).symm, below_drewN hbel _⟩
          | exact ⟨ret_i64 (errC_fine (by rw [H1.out]; omega) (by rw [H1.out]; omega) (by rw [H1.out]; exact hrep) (by rw [HE.out]; omega)).symm, below_drewN hbel _⟩
  · go_enter Try.func25, Try.ntmps25
    go_wp2_with (go_at_call 62; refine (within_any _ _ _ _).mono ?_; rintro e w1 ⟨rfl, rfl⟩)
    go_ret
    exact ⟨ret_i64 (errC_large (by rw [H1.out]; omega)).symm, Below.refl _ _⟩
end Go.Proofs.Ytllfkhcpdgdmnaa
