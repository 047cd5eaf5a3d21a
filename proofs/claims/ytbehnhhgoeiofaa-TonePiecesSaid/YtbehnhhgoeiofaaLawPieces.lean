/- The walk of TonePieces. -/
import Derived.Test.YtbehnhhgoeiofaaWalkN
namespace Go.Proofs.Ytbehnhhgoeiofaa
open Go.RowKit

set_option maxHeartbeats 1000000 in
theorem TonePieces_walk (A : Option Addr) (n c : Nat) (xs : List Int) (m : Int) (w : World) (h : Row w A n c xs) (_ : (Lit.int .i64 m).wf = true) :
    Calls Try.prog 8 #[.slice A n c, .int .i64 m] w fun e w' => e = .returned (.bool true) ∧ Below w.heap.size w w' := by
  have HR := hide h
  have HL := hide h.length
  clear h
  by_cases hn : 200 < n
  · go_enter Try.func8, Try.ntmps8
    go_wp2_with (first | (go_at_call 15; refine (Long_yes _ _ _ _ hn).mono ?_; rintro e w' ⟨rfl, rfl⟩) | (go_at_call 16; refine (known_any _).mono ?_; rintro e w9 ⟨rfl, hb9⟩))
    go_ret
    exact ⟨rfl, hb9⟩
  · have hn1 : n ≤ 200 := by omega
    clear hn
    by_cases he : errOf xs = 0
    · by_cases ho : m < 0 ∨ 60 < m
      · have HO := hide ho
        clear ho
        go_enter Try.func8, Try.ntmps8
        go_wp2_with fail
        refine (Long_no _ _ _ _ hn1).mono ?_
        rintro e w' ⟨rfl, rfl⟩
        go_wp2_with fail
        refine (Pieces_out _ _ _ xs m _ HR.out (by omega) he HO.out).mono ?_
        rintro e w1 ⟨rfl, b1⟩
        have z1 := b1.size
        go_wp2_with fail
        refine (rPieces_out _ _ _ xs m _ (HR.out.below b1 (Nat.le_refl _)) (by omega) he HO.out).mono ?_
        rintro e w2 ⟨rfl, rfl⟩
        go_wp2_with (first | (go_at_call 16; refine (known_any _).mono ?_; rintro e w9 ⟨rfl, hb9⟩))
        go_ret
        exact ⟨rfl, b1.trans (hb9.mono (by omega))⟩
      · obtain ⟨k, rfl⟩ : ∃ k : Nat, m = (k : Int) := ⟨m.toNat, by omega⟩
        have hk : k ≤ 60 := by omega
        clear ho
        by_cases h60 : k = 60
        · subst h60
          go_enter Try.func8, Try.ntmps8
          go_wp2_with fail
          refine (Long_no _ _ _ _ hn1).mono ?_
          rintro e w' ⟨rfl, rfl⟩
          go_wp2_with fail
          refine (Pieces_in _ _ _ xs 60 _ HR.out (by omega) he (by omega)).mono ?_
          rintro e w1 ⟨rfl, b1⟩
          have z1 := b1.size
          go_wp2_with fail
          refine (rPieces_in _ _ _ xs 60 _ (HR.out.below b1 (Nat.le_refl _)) (by omega) he (by omega)).mono ?_
          rintro e w2 ⟨rfl, rfl⟩
          go_wp2_with (first | (go_at_call 16; refine (known_any _).mono ?_; rintro e w9 ⟨rfl, hb9⟩))
          go_ret
          exact ⟨rfl, b1.trans (hb9.mono (by omega))⟩
        · have hk2 : k < 60 := by omega
          have hkz : ((k : Int) == 60) = false := by simp; omega
          have k1 := (errOf_zero he).1
          obtain ⟨_, s2, s3, _⟩ := per_spec k1
          have r1 := pcN_mono xs k
          have r2 := pcN_le xs k
          have r4 := pcN_le xs (k + 1)
          have r3 : k < per xs - 1 ∨ pcN xs k = per xs := by
            by_cases g : k < per xs - 1
            · exact .inl g
            · exact .inr (pcN_full k1 (by omega))
          have r5 : 0 < k ∨ pcN xs k = 1 := by
            rcases Nat.eq_zero_or_pos k with g | g
            · subst g; exact .inr (pcN_zero k1)
            · exact .inl g
          have s4 : per xs ≤ 200 := by have := HL.out; omega
          obtain ⟨p, hp⟩ : ∃ p : Nat, per xs = p := ⟨_, rfl⟩
          obtain ⟨a, ha⟩ : ∃ p : Nat, pcN xs k = p := ⟨_, rfl⟩
          obtain ⟨b, hb⟩ : ∃ p : Nat, pcN xs (k + 1) = p := ⟨_, rfl⟩
          rw [hp, ha] at r2 r3
          rw [ha, hb] at r1
          rw [hp, hb] at r4
          rw [ha] at r5
          rw [hp] at s2 s4
          clear s3 k1 h60 hk
          have q1 : ∀ y, okv 0 y = y := fun y => okv_zero rfl _
          have hcast : (k : Int) + 1 = ((k + 1 : Nat) : Int) := by omega
          have HCAST := hide hcast
          clear hcast
          have HHP := hide hp
          have HHA := hide ha
          have HHB := hide hb
          clear ha hb hp
          have main : (((k : Int) < (p : Int) - 1) ∨ (((p : Int) - 1 ≤ (k : Int)) ∧ a = p)) ∧ ((0 < (k : Int)) ∨ (k = 0 ∧ a = 1)) := by
            rcases r3 with g | g <;> rcases r5 with g2 | g2 <;> omega
          have r1' : (a : Int) ≤ (b : Int) := by omega
          have r2' : (a : Int) ≤ (p : Int) := by omega
          obtain ⟨m1, m2⟩ := main
          clear r1 r2 r3 r5
          go_enter Try.func8, Try.ntmps8
          go_wp2_with fail
          refine (Long_no _ _ _ _ hn1).mono ?_
          rintro e w' ⟨rfl, rfl⟩
          go_wp2_with fail
          refine (Pieces_in _ _ _ xs k _ HR.out (by omega) he (by omega)).mono ?_
          rintro e w1 ⟨rfl, b1⟩
          rw [HHA.out]
          have z1 := b1.size
          go_wp2_with fail
          refine (rPieces_in _ _ _ xs k _ (HR.out.below b1 (Nat.le_refl _)) (by omega) he (by omega)).mono ?_
          rintro e w2 ⟨rfl, rfl⟩
          rw [HHA.out]
          go_wp2_with fail
          rw [HCAST.out]
          refine (Pieces_in _ _ _ xs (k + 1) _ (HR.out.below b1 (Nat.le_refl _)) (by omega) he (by omega)).mono ?_
          rintro e w3 ⟨rfl, b3⟩
          rw [HHB.out]
          have B3 := b1.trans (b3.mono z1)
          have z3 := b3.size
          go_wp2_with fail
          refine (Period_any _ _ _ xs _ (HR.out.below B3 (Nat.le_refl _)) (by omega)).mono ?_
          rintro e w4 ⟨rfl, rfl⟩
          rw [HHP.out]
          rcases m1 with m1 | ⟨m1, rfl⟩ <;> rcases m2 with m2 | ⟨rfl, rfl⟩
          all_goals (
            go_wp2_with (first | (go_at_call 16; refine (known_any _).mono ?_; rintro e w9 ⟨rfl, hb9⟩))
            go_ret
            exact ⟨rfl, B3.trans (hb9.mono (by omega))⟩
          )
    · have HE := hide he
      have he' : (errOf xs != 0) = true := by simp [he]
      clear he
      go_enter Try.func8, Try.ntmps8
      go_wp2_with fail
      refine (Long_no _ _ _ _ hn1).mono ?_
      rintro e w' ⟨rfl, rfl⟩
      go_wp2_with fail
      refine (Pieces_bad _ _ _ xs m _ HR.out (by omega) HE.out).mono ?_
      rintro e w1 ⟨rfl, b1⟩
      have z1 := b1.size
      go_wp2_with fail
      refine (rPieces_bad _ _ _ xs m _ (HR.out.below b1 (Nat.le_refl _)) (by omega) HE.out).mono ?_
      rintro e w2 ⟨rfl, rfl⟩
      go_wp2_with (first | (go_at_call 16; refine (known_any _).mono ?_; rintro e w9 ⟨rfl, hb9⟩))
      go_ret
      exact ⟨rfl, b1.trans (hb9.mono (by omega))⟩

end Go.Proofs.Ytbehnhhgoeiofaa
