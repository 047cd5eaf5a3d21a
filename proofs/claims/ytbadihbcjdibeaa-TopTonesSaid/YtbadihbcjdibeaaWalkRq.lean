/- Walks: Repeat, both sides. -/
import Derived.Test.YtbadihbcjdibeaaMathR
namespace Go.Proofs.Ytbadihbcjdibeaa
open Go.RowKit

set_option maxHeartbeats 1000000 in
theorem Repeat_any (A : Option Addr) (n c : Nat) (xs : List Int) (t : Int) (w : World) (h : Row w A n c xs) (hn : n ≤ 1000) :
    Calls Try.prog 16 #[.slice A n c, .int .i64 t] w fun e w' => ∃ A' n' c', e = .returned (.tuple #[.slice A' n' c', .int .i64 (repE xs t)]) ∧ Own w' w.heap.size A' n' c' (repL xs t) ∧ Below w.heap.size w w' := by
  have HR := hide h
  have h1 := h.length
  by_cases he : errOf xs = 0
  · obtain ⟨l1, l2, _⟩ := errOf_zero he
    have l1' : 1 ≤ n := by omega
    have l2' : n ≤ 24 := by omega
    have HE := hide he
    have HL := hide h1
    clear h h1 he l1 l2
    by_cases ho : t < 1 ∨ 24 < t
    · have HO := hide (repE_arg HE.out ho)
      have HO2 := hide (repL_ne (xs := xs) (t := t) (by rw [HO.out]; decide))
      rcases ho with ho | ho
      · go_enter Try.func16, Try.ntmps16
        go_wp2_with (first | (go_at_call 40; refine (Validate_any _ _ _ xs _ HR.out (by omega)).mono ?_; rintro e w' ⟨rfl, rfl⟩; rw [HE.out]))
        go_ret2
        exact ⟨none, 0, 0, ret2_vi HO.out.symm, by rw [HO2.out]; exact Own.nil _ _, Below.refl _ _⟩
      · have ho1 : 1 ≤ t := by omega
        go_enter Try.func16, Try.ntmps16
        go_wp2_with (first | (go_at_call 40; refine (Validate_any _ _ _ xs _ HR.out (by omega)).mono ?_; rintro e w' ⟨rfl, rfl⟩; rw [HE.out]))
        go_ret2
        exact ⟨none, 0, 0, ret2_vi HO.out.symm, by rw [HO2.out]; exact Own.nil _ _, Below.refl _ _⟩
    · obtain ⟨k, rfl⟩ : ∃ k : Nat, t = (k : Int) := ⟨t.toNat, by omega⟩
      have k1 : (1 : Int) ≤ (k : Int) := by omega
      have k2 : (k : Int) ≤ 24 := by omega
      obtain ⟨m1, m2⟩ := mul_bd (n := n) (m := k) (by omega) (by omega)
      have m3 : IntKind.i64.wrap ((n : Int) * (k : Int)) = (n : Int) * (k : Int) := IntWalk.i64_in _ (by omega)
      clear ho
      by_cases hl : 24 < (n : Int) * (k : Int)
      · have HO := hide (repE_large HE.out k1 k2 (by rw [HL.out]; exact hl))
        have HO2 := hide (repL_ne (xs := xs) (t := (k : Int)) (by rw [HO.out]; decide))
        go_enter Try.func16, Try.ntmps16
        go_wp2_with (first | (go_at_call 40; refine (Validate_any _ _ _ xs _ HR.out (by omega)).mono ?_; rintro e w' ⟨rfl, rfl⟩; rw [HE.out]))
        go_ret2
        exact ⟨none, 0, 0, ret2_vi HO.out.symm, by rw [HO2.out]; exact Own.nil _ _, Below.refl _ _⟩
      · have hl2 : (n : Int) * (k : Int) ≤ 24 := by omega
        have HO := hide (repE_ok HE.out k1 k2 (by rw [HL.out]; exact hl2))
        have HO2 := hide (repL_ok HO.out)
        have HN := hide (show ∀ W, Row W A n c xs → _ from fun W hW => slRepeat_any A n c xs k W hW l1' (by omega) (by omega) (by omega))
        clear hl
        go_enter Try.func16, Try.ntmps16
        go_wp2_with (first | (go_at_call 40; refine (Validate_any _ _ _ xs _ HR.out (by omega)).mono ?_; rintro e w' ⟨rfl, rfl⟩; rw [HE.out]) | (go_at_call 42; refine (HN.out _ HR.out).mono ?_; rintro e w1 ⟨A1, c1, rfl, hown, hb⟩))
        go_ret2
        exact ⟨A1, _, c1, ret2_vi HO.out.symm, by rw [HO2.out, HL.out]; exact hown, hb⟩
  · have he' : (errOf xs != 0) = true := by simp [he]
    have HO := hide (repE_ne (t := t) he)
    have HO2 := hide (repL_ne (xs := xs) (t := t) (by rw [HO.out]; exact he))
    clear h h1
    go_enter Try.func16, Try.ntmps16
    go_wp2_with (first | (go_at_call 40; refine (Validate_any _ _ _ xs _ HR.out (by omega)).mono ?_; rintro e w' ⟨rfl, rfl⟩))
    go_ret2
    exact ⟨none, 0, 0, ret2_vi HO.out.symm, by rw [HO2.out]; exact Own.nil _ _, Below.refl _ _⟩

theorem within_yes {x lo hi : Int} (h1 : lo ≤ x) (h2 : x ≤ hi) : withinB x lo hi = true := by unfold withinB; simp; exact ⟨h1, h2⟩
theorem within_not {x lo hi : Int} (h : x < lo ∨ hi < x) : withinB x lo hi = false := by unfold withinB; simp; omega

set_option maxHeartbeats 1000000 in
theorem rRepeat_any (A : Option Addr) (n c : Nat) (xs : List Int) (t : Int) (w : World) (h : Row w A n c xs) (hn : n ≤ 1000) :
    Calls Try.prog 17 #[.slice A n c, .int .i64 t] w fun e w' => ∃ A' n' c', e = .returned (.tuple #[.slice A' n' c', .int .i64 (repE xs t)]) ∧ Own w' w.heap.size A' n' c' (repL xs t) ∧ Below w.heap.size w w' := by
  have HR := hide h
  have h1 := h.length
  by_cases he : errOf xs = 0
  · obtain ⟨l1, l2, _⟩ := errOf_zero he
    have l1' : 1 ≤ n := by omega
    have l2' : n ≤ 24 := by omega
    have HE := hide he
    have HL := hide h1
    clear h h1 he l1 l2
    by_cases ho : t < 1 ∨ 24 < t
    · have HO := hide (repE_arg HE.out ho)
      have HO2 := hide (repL_ne (xs := xs) (t := t) (by rw [HO.out]; decide))
      have hw : withinB t 1 24 = false := within_not ho
      clear ho
      go_enter Try.func17, Try.ntmps17
      go_wp2_with (first | (go_at_call 43; refine (rValidate_any _ _ _ xs _ HR.out (by omega)).mono ?_; rintro e w' ⟨rfl, rfl⟩; rw [HE.out]) | (go_at_call 44; refine (within_any _ _ _ _).mono ?_; rintro e w' ⟨rfl, rfl⟩))
      go_ret2
      exact ⟨none, 0, 0, ret2_vi HO.out.symm, by rw [HO2.out]; exact Own.nil _ _, Below.refl _ _⟩
    · obtain ⟨k, rfl⟩ : ∃ k : Nat, t = (k : Int) := ⟨t.toNat, by omega⟩
      have k1 : (1 : Int) ≤ (k : Int) := by omega
      have k2 : (k : Int) ≤ 24 := by omega
      obtain ⟨m1, m2⟩ := mul_bd (n := k) (m := n) (by omega) (by omega)
      have m3 : IntKind.i64.wrap ((k : Int) * (n : Int)) = (k : Int) * (n : Int) := IntWalk.i64_in _ (by omega)
      have hw : withinB (k : Int) 1 24 = true := within_yes k1 k2
      have hc : (k : Int) * (n : Int) = (n : Int) * (k : Int) := Int.mul_comm _ _
      have HC := hide (show (k : Int) * (n : Int) = ((n * k : Nat) : Int) by rw [Int.natCast_mul]; exact hc)
      clear ho
      by_cases hl : 24 < (k : Int) * (n : Int)
      · have HO := hide (repE_large HE.out k1 k2 (by rw [HL.out, ← hc]; exact hl))
        have HO2 := hide (repL_ne (xs := xs) (t := (k : Int)) (by rw [HO.out]; decide))
        clear hc HC
        go_enter Try.func17, Try.ntmps17
        go_wp2_with (first | (go_at_call 43; refine (rValidate_any _ _ _ xs _ HR.out (by omega)).mono ?_; rintro e w' ⟨rfl, rfl⟩; rw [HE.out]) | (go_at_call 44; refine (within_any _ _ _ _).mono ?_; rintro e w' ⟨rfl, rfl⟩))
        go_ret2
        exact ⟨none, 0, 0, ret2_vi HO.out.symm, by rw [HO2.out]; exact Own.nil _ _, Below.refl _ _⟩
      · have hl2 : (k : Int) * (n : Int) ≤ 24 := by omega
        have HO := hide (repE_ok HE.out k1 k2 (by rw [HL.out, ← hc]; exact hl2))
        have HO2 := hide (repL_ok HO.out)
        clear hl hc
        rw [HC.out] at m1 m2 m3 hl2
        generalize hM : n * k = M at *
        rw [show xs.length * k = M by rw [HL.out, hM]] at HO2
        clear hM
        go_enter Try.func17, Try.ntmps17
        go_wp2_with fail
        refine (rValidate_any _ _ _ xs _ HR.out (by omega)).mono ?_
        rintro e w' ⟨rfl, rfl⟩
        rw [HE.out]
        go_wp2_with fail
        refine (within_any _ _ _ _).mono ?_
        rintro e w' ⟨rfl, rfl⟩
        have HM3 := hide m3
        clear m3
        have m3 : IntKind.i64.wrap ((k : Int) * (n : Int)) = (M : Int) := by rw [HC.out]; exact HM3.out
        go_wp2_with fail
        refine (piece_any _ _ _ xs 0 M _ HR.out (by omega) (by omega) (by omega) (by omega) (by omega)).mono ?_
        rintro e w1 ⟨A1, c1, rfl, hown, hb⟩
        go_wp2_with fail
        go_ret2
        exact ⟨A1, _, c1, ret2_vi HO.out.symm, by rw [HO2.out]; exact hown, hb⟩
  · have he' : (errOf xs != 0) = true := by simp [he]
    have HO := hide (repE_ne (t := t) he)
    have HO2 := hide (repL_ne (xs := xs) (t := t) (by rw [HO.out]; exact he))
    clear h h1
    go_enter Try.func17, Try.ntmps17
    go_wp2_with (first | (go_at_call 43; refine (rValidate_any _ _ _ xs _ HR.out (by omega)).mono ?_; rintro e w' ⟨rfl, rfl⟩))
    go_ret2
    exact ⟨none, 0, 0, ret2_vi HO.out.symm, by rw [HO2.out]; exact Own.nil _ _, Below.refl _ _⟩

end Go.Proofs.Ytbadihbcjdibeaa
