/- The walk of TonePeriods. -/
import Derived.Test.YtbehnhhgoeiofaaLift
namespace Go.Proofs.Ytbehnhhgoeiofaa
open Go.RowKit

theorem per_dvd {xs : List Int} (h : 1 ≤ xs.length) : (xs.length : Int) % (per xs : Int) = 0 := by
  obtain ⟨s1, s2, s3, s4⟩ := per_spec h
  have e := sec_rep_emod h s2 s1
  have l := Int.emod_lt_of_pos (xs.length : Int) (show (0 : Int) < per xs by omega)
  have g := Int.emod_nonneg (xs.length : Int) (show (per xs : Int) ≠ 0 by omega)
  generalize hr : (xs.length : Int) % (per xs : Int) = r at *
  by_cases h0 : r = 0
  · exact h0
  · exfalso
    have hn := s4 r.toNat (by omega) (by omega)
    have : repB xs (r.toNat : Int) = true := by
      rw [repB_all h]
      intro i
      rw [Int.toNat_of_nonneg g, ← hr, ← e (i + _), Int.add_emod_emod, e]
      exact sec_add_len xs i
    rw [this] at hn
    cases hn

set_option maxHeartbeats 1000000 in
theorem TonePeriods_walk (A : Option Addr) (n c : Nat) (xs : List Int) (w : World) (h : Row w A n c xs) :
    Calls Try.prog 4 #[.slice A n c] w fun e w' => e = .returned (.bool true) ∧ Below w.heap.size w w' := by
  have HR := hide h
  have hl := h.length
  by_cases hn : 200 < n
  · clear h hl
    go_enter Try.func4, Try.ntmps4
    go_wp2_with (first | (go_at_call 15; refine (Long_yes _ _ _ _ hn).mono ?_; rintro e w' ⟨rfl, rfl⟩) | (go_at_call 16; refine (known_any _).mono ?_; rintro e w1 ⟨rfl, hb⟩))
    go_ret
    exact ⟨rfl, hb⟩
  · have hn' : n ≤ 200 := by omega
    have hp : errOf xs = 0 → 1 ≤ per xs ∧ (n : Int) % (per xs : Int) = 0 := fun he => by
      have := errOf_zero he
      exact ⟨(per_spec this.1).2.1, by rw [← hl]; exact per_dvd this.1⟩
    have HP := hide hp
    clear h hl hp hn
    go_enter Try.func4, Try.ntmps4
    go_wp2_with fail
    refine (Long_no _ _ _ _ hn').mono ?_
    rintro e w' ⟨rfl, rfl⟩
    go_wp2_with fail
    refine (Period_any _ _ _ xs _ HR.out (by omega)).mono ?_
    rintro e w' ⟨rfl, rfl⟩
    go_wp2_with fail
    refine (rPeriod_any _ _ _ xs _ HR.out (by omega)).mono ?_
    rintro e w' ⟨rfl, rfl⟩
    go_wp2_with fail
    refine (Root_any _ _ _ xs _ HR.out (by omega)).mono ?_
    rintro e w1 ⟨A1, n1, c1, rfl, o1, b1⟩
    have B1 := b1
    have z1 := b1.size
    go_wp2_with fail
    refine (rRoot_any _ _ _ xs _ (HR.out.below B1 (Nat.le_refl _)) (by omega)).mono ?_
    rintro e w2 ⟨A2, n2, c2, rfl, o2, b2⟩
    have B2 := B1.trans (b2.mono z1)
    have z2 := b2.size
    have o1 := o1.below b2 (Nat.le_refl _)
    go_wp2_with fail
    refine (Name_any _ _ _ xs _ (HR.out.below B2 (Nat.le_refl _)) (by omega)).mono ?_
    rintro e w3 ⟨A3, n3, c3, rfl, o3, b3⟩
    have B3 := B2.trans (b3.mono (by omega))
    have z3 := b3.size
    have o1 := o1.below b3 (Nat.le_refl _)
    have o2 := o2.below b3 (Nat.le_refl _)
    go_wp2_with fail
    refine (rName_any _ _ _ xs _ (HR.out.below B3 (Nat.le_refl _)) (by omega)).mono ?_
    rintro e w4 ⟨A4, n4, c4, rfl, o4, b4⟩
    have B4 := B3.trans (b4.mono (by omega))
    have z4 := b4.size
    have o1 := o1.below b4 (Nat.le_refl _)
    have o2 := o2.below b4 (Nat.le_refl _)
    have o3 := o3.below b4 (Nat.le_refl _)
    go_wp2_with fail
    refine (SameInts_any _ _ _ _ _ _ _ _ _ o1.row o2.row).mono ?_
    rintro e w5 ⟨rfl, hd5⟩
    rw [eqL_self]
    have o3 := o3.below (hd5.below _) (Nat.le_refl _)
    have o4 := o4.below (hd5.below _) (Nat.le_refl _)
    have B5 := B4.trans (hd5.below _)
    have z5 := (hd5.below 0).size
    go_wp2_with fail
    refine (SameInts_any _ _ _ _ _ _ _ _ _ o3.row o4.row).mono ?_
    rintro e w6 ⟨rfl, hd6⟩
    rw [eqL_self]
    have B6 := B5.trans (hd6.below _)
    have z6 := (hd6.below 0).size
    by_cases he : errOf xs = 0
    · obtain ⟨g1, g2⟩ := HP.out he
      have hv : okv 0 (per xs) = per xs := okv_zero rfl _
      have g3 : ((n : Int) % (per xs : Int) == 0) = true := by simp [g2]
      have G2 := hide g2
      clear g2
      go_wp2_with (first | (go_at_call 16; refine (known_any _).mono ?_; rintro e w7 ⟨rfl, hb7⟩))
      go_ret
      exact ⟨rfl, B6.trans (hb7.mono (by omega))⟩
    · have he' : (errOf xs != 0) = true := by simp [he]
      clear he
      go_wp2_with (first | (go_at_call 16; refine (known_any _).mono ?_; rintro e w7 ⟨rfl, hb7⟩))
      go_ret
      exact ⟨rfl, B6.trans (hb7.mono (by omega))⟩

end Go.Proofs.Ytbehnhhgoeiofaa
