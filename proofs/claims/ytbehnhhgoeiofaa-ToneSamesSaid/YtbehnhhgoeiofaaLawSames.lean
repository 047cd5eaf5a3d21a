/- The walks of ToneSeconds, ToneSames. -/
import Derived.Test.YtbehnhhgoeiofaaLawPeriods
namespace Go.Proofs.Ytbehnhhgoeiofaa
open Go.RowKit

theorem bd_i64 {i : Int} (h : (Lit.int .i64 i).wf = true) : -9223372036854775808 ≤ i ∧ i ≤ 9223372036854775807 := by
  exact bounds_i64 h

set_option maxHeartbeats 1000000 in
theorem ToneSeconds_walk (A : Option Addr) (n c : Nat) (xs : List Int) (i : Int) (w : World) (h : Row w A n c xs) (hi : (Lit.int .i64 i).wf = true) :
    Calls Try.prog 3 #[.slice A n c, .int .i64 i] w fun e w' => e = .returned (.bool true) ∧ Below w.heap.size w w' := by
  have HR := hide h
  have hl := h.length
  by_cases hn : 200 < n
  · clear h hl hi
    go_enter Try.func3, Try.ntmps3
    go_wp2_with (first | (go_at_call 15; refine (Long_yes _ _ _ _ hn).mono ?_; rintro e w' ⟨rfl, rfl⟩) | (go_at_call 16; refine (known_any _).mono ?_; rintro e w9 ⟨rfl, hb9⟩))
    go_ret
    exact ⟨rfl, hb9⟩
  · have hn' : n ≤ 200 := by omega
    have hp : errOf xs = 0 → 1 ≤ per xs ∧ per xs ≤ 200 ∧ sec xs (i + (per xs : Int)) = sec xs i := fun he => by
      have := errOf_zero he
      have s := per_spec this.1
      exact ⟨s.2.1, by omega, sec_rep this.1 s.1 i⟩
    have HP := hide hp
    clear h hl hp hn hi
    go_enter Try.func3, Try.ntmps3
    go_wp2_with fail
    refine (Long_no _ _ _ _ hn').mono ?_
    rintro e w' ⟨rfl, rfl⟩
    go_wp2_with fail
    refine (At_any _ _ _ xs _ _ HR.out (by omega)).mono ?_
    rintro e w' ⟨rfl, rfl⟩
    go_wp2_with fail
    refine (rAt_any _ _ _ xs _ _ HR.out (by omega)).mono ?_
    rintro e w' ⟨rfl, rfl⟩
    go_wp2_with fail
    refine (Validate_any _ _ _ xs _ HR.out (by omega)).mono ?_
    rintro e w' ⟨rfl, rfl⟩
    go_wp2_with fail
    refine (rValidate_any _ _ _ xs _ HR.out (by omega)).mono ?_
    rintro e w' ⟨rfl, rfl⟩
    go_wp2_with fail
    refine (Period_any _ _ _ xs _ HR.out (by omega)).mono ?_
    rintro e w' ⟨rfl, rfl⟩
    by_cases he : errOf xs = 0
    · obtain ⟨g1, g2, g3⟩ := HP.out he
      have hv : okv 0 (per xs) = per xs := okv_zero rfl _
      have hv2 : ∀ y, okv 0 y = y := fun y => okv_zero rfl _
      clear HP
      by_cases hi1 : 1099511627776 < i
      · go_wp2_with (first | (go_at_call 16; refine (known_any _).mono ?_; rintro e w9 ⟨rfl, hb9⟩))
        go_ret
        exact ⟨rfl, hb9⟩
      · by_cases hi2 : i < -1099511627776
        · go_wp2_with (first | (go_at_call 16; refine (known_any _).mono ?_; rintro e w9 ⟨rfl, hb9⟩))
          go_ret
          exact ⟨rfl, hb9⟩
        · have hi3 : -1099511627776 ≤ i := by omega
          have hi4 : i ≤ 1099511627776 := by omega
          clear hi1 hi2
          go_wp2_with fail
          refine (At_any _ _ _ xs _ _ HR.out (by omega)).mono ?_
          rintro e w' ⟨rfl, rfl⟩
          go_wp2_with (first | (go_at_call 16; refine (known_any _).mono ?_; rintro e w9 ⟨rfl, hb9⟩))
          go_ret
          exact ⟨rfl, hb9⟩
    · have he' : (errOf xs != 0) = true := by simp [he]
      clear he
      go_wp2_with (first | (go_at_call 16; refine (known_any _).mono ?_; rintro e w9 ⟨rfl, hb9⟩))
      go_ret
      exact ⟨rfl, hb9⟩

set_option maxHeartbeats 1000000 in
theorem ToneSames_walk (A : Option Addr) (n c : Nat) (xs : List Int) (A' : Option Addr) (n' c' : Nat) (ys : List Int) (w : World) (h : Row w A n c xs) (h' : Row w A' n' c' ys) :
    Calls Try.prog 6 #[.slice A n c, .slice A' n' c'] w fun e w' => e = .returned (.bool true) ∧ Below w.heap.size w w' := by
  have HR := hide h
  have HR' := hide h'
  clear h h'
  by_cases hn : 200 < n
  · go_enter Try.func6, Try.ntmps6
    go_wp2_with (first | (go_at_call 15; refine (Long_yes _ _ _ _ hn).mono ?_; rintro e w' ⟨rfl, rfl⟩) | (go_at_call 16; refine (known_any _).mono ?_; rintro e w9 ⟨rfl, hb9⟩))
    go_ret
    exact ⟨rfl, hb9⟩
  · have hn1 : n ≤ 200 := by omega
    clear hn
    by_cases hn : 200 < n'
    · go_enter Try.func6, Try.ntmps6
      go_wp2_with fail
      refine (Long_no _ _ _ _ hn1).mono ?_
      rintro e w' ⟨rfl, rfl⟩
      go_wp2_with fail
      refine (Long_yes _ _ _ _ hn).mono ?_
      rintro e w' ⟨rfl, rfl⟩
      go_wp2_with (first | (go_at_call 16; refine (known_any _).mono ?_; rintro e w9 ⟨rfl, hb9⟩))
      go_ret
      exact ⟨rfl, hb9⟩
    · have hn2 : n' ≤ 200 := by omega
      clear hn
      go_enter Try.func6, Try.ntmps6
      go_wp2_with fail
      refine (Long_no _ _ _ _ hn1).mono ?_
      rintro e w' ⟨rfl, rfl⟩
      go_wp2_with fail
      refine (Long_no _ _ _ _ hn2).mono ?_
      rintro e w' ⟨rfl, rfl⟩
      go_wp2_with fail
      refine (Same_any _ _ _ xs _ _ _ ys _ HR.out HR'.out (by omega) (by omega)).mono ?_
      rintro e w1 ⟨rfl, b1⟩
      have B1 := b1
      have z1 := b1.size
      go_wp2_with fail
      refine (rSame_any _ _ _ xs _ _ _ ys _ (HR.out.below B1 (Nat.le_refl _)) (HR'.out.below B1 (Nat.le_refl _)) (by omega) (by omega)).mono ?_
      rintro e w2 ⟨rfl, b2⟩
      have B2 := B1.trans (b2.mono z1)
      have z2 := b2.size
      go_wp2_with fail
      refine (Alike_any _ _ _ xs _ _ _ ys _ (HR.out.below B2 (Nat.le_refl _)) (HR'.out.below B2 (Nat.le_refl _)) (by omega) (by omega)).mono ?_
      rintro e w3 ⟨rfl, b3⟩
      have B3 := B2.trans (b3.mono (by omega))
      have z3 := b3.size
      go_wp2_with fail
      refine (rAlike_any _ _ _ xs _ _ _ ys _ (HR.out.below B3 (Nat.le_refl _)) (HR'.out.below B3 (Nat.le_refl _)) (by omega) (by omega)).mono ?_
      rintro e w4 ⟨rfl, b4⟩
      have B4 := B3.trans (b4.mono (by omega))
      have z4 := b4.size
      clear b1 b2 b3 b4 B1 B2 B3
      go_wp2_with fail
      refine (Root_any _ _ _ xs _ (HR.out.below B4 (Nat.le_refl _)) (by omega)).mono ?_
      rintro e w5 ⟨A5, n5, c5, rfl, o5, b5⟩
      have B5 := B4.trans (b5.mono (by omega))
      have z5 := b5.size
      go_wp2_with fail
      refine (Root_any _ _ _ ys _ (HR'.out.below B5 (Nat.le_refl _)) (by omega)).mono ?_
      rintro e w6 ⟨A6, n6, c6, rfl, o6, b6⟩
      have B6 := B5.trans (b6.mono (by omega))
      have z6 := b6.size
      have o5 := o5.below b6 (Nat.le_refl _)
      go_wp2_with fail
      refine (Name_any _ _ _ xs _ (HR.out.below B6 (Nat.le_refl _)) (by omega)).mono ?_
      rintro e w7 ⟨A7, n7, c7, rfl, o7, b7⟩
      have B7 := B6.trans (b7.mono (by omega))
      have z7 := b7.size
      have o5 := o5.below b7 (Nat.le_refl _)
      have o6 := o6.below b7 (Nat.le_refl _)
      go_wp2_with fail
      refine (Name_any _ _ _ ys _ (HR'.out.below B7 (Nat.le_refl _)) (by omega)).mono ?_
      rintro e w8 ⟨A8, n8, c8, rfl, o8, b8⟩
      have B8 := B7.trans (b8.mono (by omega))
      have z8 := b8.size
      have o5 := o5.below b8 (Nat.le_refl _)
      have o6 := o6.below b8 (Nat.le_refl _)
      have o7 := o7.below b8 (Nat.le_refl _)
      clear b5 b6 b7 b8 B4 B5 B6 B7
      by_cases he : err2 xs ys = 0
      · obtain ⟨e1, e2⟩ := err2_zero he
        have q1 : okb 0 (eqL (rootL xs) (rootL ys)) = eqL (rootL xs) (rootL ys) := okb_zero rfl _
        have q2 : okb 0 (eqL (nameL xs) (nameL ys)) = eqL (nameL xs) (nameL ys) := okb_zero rfl _
        rw [okl_zero e1] at o5 o7
        rw [okl_zero e2] at o6 o8
        go_wp2_with fail
        refine (SameInts_any _ _ _ _ _ _ _ _ _ o5.row o6.row).mono ?_
        rintro e w10 ⟨rfl, hd5⟩
        have o7 := o7.below (hd5.below _) (Nat.le_refl _)
        have o8 := o8.below (hd5.below _) (Nat.le_refl _)
        have B9 := B8.trans (hd5.below _)
        have z9 := (hd5.below 0).size
        go_wp2_with fail
        refine (SameInts_any _ _ _ _ _ _ _ _ _ o7.row o8.row).mono ?_
        rintro e w11 ⟨rfl, hd6⟩
        have B10 := B9.trans (hd6.below _)
        have z10 := (hd6.below 0).size
        go_wp2_with (first | (go_at_call 16; refine (known_any _).mono ?_; rintro e w9 ⟨rfl, hb9⟩))
        go_ret
        exact ⟨rfl, B10.trans (hb9.mono (by omega))⟩
      · have he' : (err2 xs ys != 0) = true := by simp [he]
        clear he
        go_wp2_with (first | (go_at_call 16; refine (known_any _).mono ?_; rintro e w9 ⟨rfl, hb9⟩))
        go_ret
        exact ⟨rfl, B8.trans (hb9.mono (by omega))⟩

end Go.Proofs.Ytbehnhhgoeiofaa
