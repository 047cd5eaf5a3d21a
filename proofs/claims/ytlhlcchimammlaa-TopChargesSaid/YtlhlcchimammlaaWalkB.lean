/- The document's Validate and asked. -/
import Derived.Test.YtlhlcchimammlaaWalkA
namespace Go.Proofs.Ytlhlcchimammlaa
open Go.RowKit Go.Shelf
attribute [local go_sem] Oper.semAt_some

set_option maxHeartbeats 4000000 in
theorem rValidate_any (A : Option Addr) (n c : Nat) (xs : List Int) (w : World) (h : R E1 w A n c xs) :
    Calls Try.prog 26 #[.slice A n c] w fun e w' => e = .returned (.int .i64 (errW xs)) ∧ ∃ q, w' = w.drewN q := by
  have hl := h.length
  have hle := h.le
  obtain ⟨b, off, hr⟩ := h
  have H1 := hide hl
  rcases withinB_dec n 1 4 with ⟨hw, hn1, hn6⟩ | ⟨hw, hn⟩
  · have H4 := hide hr
    obtain rfl := hr.at_ (by omega)
    have HL := hide (hr.lt (by omega))
    clear hr hl
    go_enter Try.func26, Try.ntmps26
    go_wp2_with (go_at_call 59; refine (within_any _ _ _ _).mono ?_; rintro e w1 ⟨rfl, rfl⟩)
    go_loopw [3] (fun i wr => ∃ k q : Nat, k ≤ n ∧ i = .int .i64 k ∧ OkW xs k ∧ wr = w.drewN q) (fun i _ => n - (intOf i).toNat)
    case atStart => exact ⟨0, 0, Nat.zero_le _, rfl, okW_zero _, rfl⟩
    case round =>
      obtain ⟨k, q, hk, rfl, hrep, rfl⟩ := hrel
      by_cases hlt : k < n
      · have hc1 := c1 H4.out hlt
        by_cases hk0 : k = 0
        · subst hk0
          rw [Nat.add_zero] at hc1
          have HF := hide (fun h1 : ¬ (1 ≤ xs.getD 0 0 ∧ xs.getD 0 0 ≤ 30) => (Bool.eq_false_iff.2 fun h2 => h1 ⟨(okW_iff.1 h2).1, (okW_iff.1 h2).2.1⟩ : okW xs 0 = false))
          have HS := hide (fun h1 : 1 ≤ xs.getD 0 0 ∧ xs.getD 0 0 ≤ 30 => (okW_iff.2 ⟨h1.1, h1.2, .inl rfl⟩ : okW xs 0 = true))
          generalize xs.getD 0 0 = x at hc1 HF HS
          rcases withinB_dec x 1 30 with ⟨hwx, hx1, hx2⟩ | ⟨hwx, hx⟩
          · clear HF
            go_wp2_with fail
            go_quiet ((go_at_call 59; first | exact quiet_left (within_any _ _ _ _) | exact quiet_add_left (within_any _ _ _ _)))
            all_goals
              go_wp2_with fail
              all_goals first
                | (go_ret; exact ⟨ret_i64 (errW_arg (by rw [H1.out]; omega) (k := 0) (by rw [H1.out]; exact hlt) (HF.out (by omega))).symm, _, rfl⟩)
                | (go_roundw
                   case rel => exact ⟨0 + 1, q + nq, by omega, by go_num, okW_succ hrep (HS.out (by omega)), by first | rfl | (rw [World.drewN_drewN])⟩
                   case measure => simp [intOf] <;> omega)
          · clear HS
            go_wp2_with fail
            go_quiet ((go_at_call 59; first | exact quiet_left (within_any _ _ _ _) | exact quiet_add_left (within_any _ _ _ _)))
            all_goals
              go_wp2_with fail
              all_goals first
                | (go_ret; exact ⟨ret_i64 (errW_arg (by rw [H1.out]; omega) (k := 0) (by rw [H1.out]; exact hlt) (HF.out (by omega))).symm, q + nq, by first | rfl | (rw [World.drewN_drewN])⟩)
                | (go_roundw
                   case rel => exact ⟨0 + 1, q + nq, by omega, by go_num, okW_succ hrep (HS.out (by omega)), by first | rfl | (rw [World.drewN_drewN])⟩
                   case measure => simp [intOf] <;> omega)
        · have hc0 := c1 H4.out (k := k - 1) (by omega)
          have hkk : ((k : Int) - 1) = ((k - 1 : Nat) : Int) := by omega
          have hkp : 0 < k := by omega
          have HF := hide (fun h1 : ¬ (1 ≤ xs.getD k 0 ∧ xs.getD k 0 ≤ 30 ∧ xs.getD (k - 1) 0 < xs.getD k 0) => (Bool.eq_false_iff.2 fun h2 => h1 ⟨(okW_iff.1 h2).1, (okW_iff.1 h2).2.1, (okW_iff.1 h2).2.2.resolve_left hk0⟩ : okW xs k = false))
          have HS := hide (fun h1 : 1 ≤ xs.getD k 0 ∧ xs.getD k 0 ≤ 30 ∧ xs.getD (k - 1) 0 < xs.getD k 0 => (okW_iff.2 ⟨h1.1, h1.2.1, .inr h1.2.2⟩ : okW xs k = true))
          generalize xs.getD k 0 = x at hc1 HF HS
          generalize xs.getD (k - 1) 0 = y at hc0 HF HS
          rcases withinB_dec x 1 30 with ⟨hwx, hx1, hx2⟩ | ⟨hwx, hx⟩
          · by_cases hxy : x ≤ y
            all_goals
              go_wp2_with fail
              go_quiet ((go_at_call 59; first | exact quiet_left (within_any _ _ _ _) | exact quiet_add_left (within_any _ _ _ _)))
              all_goals
                go_wp2_with fail
                all_goals first
                  | (go_ret; exact ⟨ret_i64 (errW_arg (by rw [H1.out]; omega) (k := k) (by rw [H1.out]; exact hlt) (HF.out (by omega))).symm, q + nq, by first | rfl | (rw [World.drewN_drewN])⟩)
                  | (go_roundw
                     case rel => exact ⟨k + 1, q + nq, by omega, by go_num, okW_succ hrep (HS.out (by omega)), by first | rfl | (rw [World.drewN_drewN])⟩
                     case measure => simp [intOf] <;> omega)
          · go_wp2_with fail
            go_quiet ((go_at_call 59; first | exact quiet_left (within_any _ _ _ _) | exact quiet_add_left (within_any _ _ _ _)))
            all_goals
              go_wp2_with fail
              all_goals first
                | (go_ret; exact ⟨ret_i64 (errW_arg (by rw [H1.out]; omega) (k := k) (by rw [H1.out]; exact hlt) (HF.out (by omega))).symm, q + nq, by first | rfl | (rw [World.drewN_drewN])⟩)
                | (go_roundw
                   case rel => exact ⟨k + 1, q + nq, by omega, by go_num, okW_succ hrep (HS.out (by omega)), by first | rfl | (rw [World.drewN_drewN])⟩
                   case measure => simp [intOf] <;> omega)
      · obtain rfl : k = n := by omega
        go_wp2_with fail
        go_ret
        exact ⟨ret_i64 (errW_fine (by rw [H1.out]; omega) (by rw [H1.out]; exact hrep)).symm, q, rfl⟩
  · go_enter Try.func26, Try.ntmps26
    go_wp2_with (go_at_call 59; refine (within_any _ _ _ _).mono ?_; rintro e w1 ⟨rfl, rfl⟩)
    go_ret
    exact ⟨ret_i64 (errW_large (by rw [H1.out]; omega)).symm, 0, rfl⟩
set_option maxHeartbeats 400000 in
theorem asked_any (A : Option Addr) (n c : Nat) (xs : List Int) (m : Int) (w : World) (h : R E1 w A n c xs) :
    Calls Try.prog 64 #[.slice A n c, .int .i64 m] w fun e w' => e = .returned (.int .i64 (errA xs m)) ∧ ∃ q, w' = w.drewN q := by
  have H := hide h
  clear h
  by_cases he : errW xs = 0
  · have HE := hide he
    by_cases hm : 0 ≤ m ∧ m ≤ 2000
    · have HA := hide (errA_fine he hm)
      have HW := hide (withinB_true hm.1 hm.2)
      clear he
      go_enter Try.func64, Try.ntmps64
      go_wp2_with (first
        | (go_at_call 26; refine (rValidate_any _ _ _ xs _ H.out).mono ?_; rintro e w1 ⟨rfl, q, rfl⟩; rw [HE.out])
        | (go_at_call 59; refine (within_any _ _ _ _).mono ?_; rintro e w1 ⟨rfl, rfl⟩; rw [HW.out]))
      go_ret
      exact ⟨ret_i64 HA.out.symm, q, rfl⟩
    · have HA := hide (errA_arg he hm)
      have HW := hide (withinB_false (n := m) (lo := 0) (hi := 2000) (by omega))
      clear he
      go_enter Try.func64, Try.ntmps64
      go_wp2_with (first
        | (go_at_call 26; refine (rValidate_any _ _ _ xs _ H.out).mono ?_; rintro e w1 ⟨rfl, q, rfl⟩; rw [HE.out])
        | (go_at_call 59; refine (within_any _ _ _ _).mono ?_; rintro e w1 ⟨rfl, rfl⟩; rw [HW.out]))
      go_ret
      exact ⟨ret_i64 HA.out.symm, q, rfl⟩
  · have HA := hide (errA_no (n := m) he)
    have hne : (errW xs != 0) = true := by simpa using he
    clear he
    go_enter Try.func64, Try.ntmps64
    go_wp2_with (go_at_call 26; refine (rValidate_any _ _ _ xs _ H.out).mono ?_; rintro e w1 ⟨rfl, q, rfl⟩)
    go_ret
    exact ⟨ret_i64 HA.out.symm, q, rfl⟩
end Go.Proofs.Ytlhlcchimammlaa
