/- The walk of ToneAgrees. -/
import Derived.Test.YtbehnhhgoeiofaaWalkM
namespace Go.Proofs.Ytbehnhhgoeiofaa
open Go.RowKit

theorem agrees_facts {xs ys : List Int} (h : 1 ≤ xs.length) (h' : 1 ≤ ys.length) (hl : xs.length ≤ 24) (hl' : ys.length ≤ 24) :
    ∃ p q g : Nat, per xs = p ∧ per ys = q ∧ Nat.gcd p q = g ∧ 1 ≤ p ∧ 1 ≤ q ∧ p ≤ 24 ∧ q ≤ 24 ∧ g ≤ 24 ∧
      (agreeO xs ys = none ∨ ∃ d : Nat, agreeO xs ys = some d ∧ (d : Int) < (p : Int) + (q : Int) - (g : Int)) ∧
      (lisO xs ys = none ∨ ∃ d : Nat, lisO xs ys = some d ∧ (d : Int) ≤ (p : Int) + (q : Int) - (g : Int)) := by
  obtain ⟨_, s2, s3, _⟩ := per_spec h
  obtain ⟨_, t2, t3, _⟩ := per_spec h'
  obtain ⟨m1, m2, m3, m4, m5⟩ := most_bd s2 t2
  refine ⟨per xs, per ys, Nat.gcd (per xs) (per ys), rfl, rfl, rfl, s2, t2, by omega, by omega, by omega, ?_, ?_⟩
  · cases ha : agreeO xs ys with
    | none => exact .inl rfl
    | some d => exact .inr ⟨d, rfl, by have := agree_lt h h' ha; unfold most at this; omega⟩
  · cases hn : eqL (nameL xs) (nameL ys) with
    | true => exact .inl (lis_none hn)
    | false =>
      obtain ⟨d, q1, q2, q3, _⟩ := lis_spec h h' hl hl' hn
      exact .inr ⟨d, q1, by unfold most at q3; omega⟩

set_option maxHeartbeats 1000000 in
theorem ToneAgrees_walk (A : Option Addr) (n c : Nat) (xs : List Int) (A' : Option Addr) (n' c' : Nat) (ys : List Int) (w : World) (h : Row w A n c xs) (h' : Row w A' n' c' ys) :
    Calls Try.prog 7 #[.slice A n c, .slice A' n' c'] w fun e w' => e = .returned (.bool true) ∧ Below w.heap.size w w' := by
  have HR := hide h
  have HR' := hide h'
  have HL := hide h.length
  have HL' := hide h'.length
  clear h h'
  by_cases hn : 200 < n
  · go_enter Try.func7, Try.ntmps7
    go_wp2_with (first | (go_at_call 15; refine (Long_yes _ _ _ _ hn).mono ?_; rintro e w' ⟨rfl, rfl⟩) | (go_at_call 16; refine (known_any _).mono ?_; rintro e w9 ⟨rfl, hb9⟩))
    go_ret
    exact ⟨rfl, hb9⟩
  · have hn1 : n ≤ 200 := by omega
    clear hn
    by_cases hn : 200 < n'
    · go_enter Try.func7, Try.ntmps7
      go_wp2_with fail
      refine (Long_no _ _ _ _ hn1).mono ?_
      rintro e w' ⟨rfl, rfl⟩
      go_wp2_with fail
      refine (Long_yes _ _ _ _ hn).mono ?_
      rintro e w' ⟨rfl, rfl⟩
      go_wp2_with (first | (go_at_call 16; refine (known_any _).mono ?_; rintro e w9 ⟨rfl, hb9⟩))
      go_ret
      exact ⟨rfl, hb9⟩
    · have hn2 : n' ≤ 200 := by omega
      clear hn
      go_enter Try.func7, Try.ntmps7
      go_wp2_with fail
      refine (Long_no _ _ _ _ hn1).mono ?_
      rintro e w' ⟨rfl, rfl⟩
      go_wp2_with fail
      refine (Long_no _ _ _ _ hn2).mono ?_
      rintro e w' ⟨rfl, rfl⟩
      go_wp2_with fail
      refine (Agree_any _ _ _ xs _ _ _ ys _ HR.out HR'.out (by omega) (by omega)).mono ?_
      rintro e w1 ⟨rfl, b1⟩
      have B1 := b1
      have z1 := b1.size
      go_wp2_with fail
      refine (rAgree_any _ _ _ xs _ _ _ ys _ (HR.out.below B1 (Nat.le_refl _)) (HR'.out.below B1 (Nat.le_refl _)) (by omega) (by omega)).mono ?_
      rintro e w2 ⟨rfl, rfl⟩
      go_wp2_with fail
      refine (Listen_any _ _ _ xs _ _ _ ys _ (HR.out.below B1 (Nat.le_refl _)) (HR'.out.below B1 (Nat.le_refl _)) (by omega) (by omega)).mono ?_
      rintro e w3 ⟨rfl, b3⟩
      have B3 := B1.trans (b3.mono z1)
      have z3 := b3.size
      go_wp2_with fail
      refine (rListen_any _ _ _ xs _ _ _ ys _ (HR.out.below B3 (Nat.le_refl _)) (HR'.out.below B3 (Nat.le_refl _)) (by omega) (by omega)).mono ?_
      rintro e w4 ⟨rfl, b4⟩
      have B4 := B3.trans (b4.mono (by omega))
      have z4 := b4.size
      clear b1 b3 b4 B1 B3
      by_cases he : err2 xs ys = 0
      · obtain ⟨e1, e2⟩ := err2_zero he
        have k1 := errOf_zero e1
        have k2 := errOf_zero e2
        obtain ⟨p, q, g, p1, p2, p3, f1, f2, f3, f4, f5, hA, hL⟩ := agrees_facts (xs := xs) (ys := ys) k1.1 k2.1 (by have := HL.out; omega) (by have := HL'.out; omega)
        clear k1 k2
        have q1 : ∀ y, okv 0 y = y := fun y => okv_zero rfl _
        have q2 : ∀ y, okb 0 y = y := fun y => okb_zero rfl _
        rcases hA with hA | ⟨d, hA, hd⟩ <;> rcases hL with hL | ⟨l, hL, hl⟩ <;> rw [hA, hL]
        all_goals (
          go_wp2_with fail
          refine (Period_any _ _ _ xs _ (HR.out.below B4 (Nat.le_refl _)) (by omega)).mono ?_
          rintro e w5 ⟨rfl, rfl⟩
          go_wp2_with fail
          refine (Period_any _ _ _ ys _ (HR'.out.below B4 (Nat.le_refl _)) (by omega)).mono ?_
          rintro e w5 ⟨rfl, rfl⟩
          go_wp2_with fail
          refine (rGcd_any p q _ (by omega) (by omega)).mono ?_
          rintro e w6 ⟨rfl, b6⟩
          have B6 := B4.trans (b6.mono (by omega))
          have z6 := b6.size
          go_wp2_with (first | (go_at_call 16; refine (known_any _).mono ?_; rintro e w9 ⟨rfl, hb9⟩))
          go_ret
          exact ⟨rfl, B6.trans (hb9.mono (by omega))⟩
        )
      · have he' : (err2 xs ys != 0) = true := by simp [he]
        clear he
        go_wp2_with fail
        refine (Period_any _ _ _ xs _ (HR.out.below B4 (Nat.le_refl _)) (by omega)).mono ?_
        rintro e w5 ⟨rfl, rfl⟩
        go_wp2_with fail
        refine (Period_any _ _ _ ys _ (HR'.out.below B4 (Nat.le_refl _)) (by omega)).mono ?_
        rintro e w5 ⟨rfl, rfl⟩
        go_wp2_with (first | (go_at_call 16; refine (known_any _).mono ?_; rintro e w9 ⟨rfl, hb9⟩))
        go_ret
        exact ⟨rfl, B4.trans (hb9.mono (by omega))⟩

end Go.Proofs.Ytbehnhhgoeiofaa
