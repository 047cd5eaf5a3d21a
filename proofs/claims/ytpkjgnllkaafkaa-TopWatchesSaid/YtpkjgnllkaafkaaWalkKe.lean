/- The walk of WatchKeepers. -/
import Derived.Test.YtpkjgnllkaafkaaWalkRo
namespace Go.Proofs.Ytpkjgnllkaafkaa
open Go.RowKit

theorem roster_right {xs : Ls} {r : List Int} (he : errV xs = 0) (h : r.length = xs.length ∧ Right xs r ∧ dst r = (peak xs).2 ∧ ∀ x ∈ r, 0 ≤ x ∧ x < 12) : rosE xs r = 0 ∧ rosV xs r = ((peak xs).2 : Nat) := by
  obtain ⟨h1, h2, h3, h4⟩ := h
  have h0 : rosE xs r = 0 := rosE_ok he h1 (List.all_eq_true.2 fun x hx => kOk_iff.2 (by have := h4 x hx; omega)) (rgtB_iff.2 h2)
  exact ⟨h0, by rw [rosV_ok h0, h3]⟩
set_option maxHeartbeats 2000000 in
theorem WatchKeepers_walk (A : Option Addr) (n c : Nat) (xs : Ls) (w : World) (h : R E3 w A n c xs) :
    Calls Try.prog 6 #[.slice A n c] w fun e w' => e = .returned (.bool true) ∧ Below w.heap.size w w' := by
  have HLX := hide h.length
  have HX := hide h
  clear h
  by_cases hn : 50 < n
  · have hb : decide (50 < n) = true := by simpa using hn
    have HB := hide hb
    clear hb
    go_enter Try.func6, Try.ntmps6
    go_wp2_with fail
    refine (Long0_any _ _ _ _ _ HB.out).mono ?_
    rintro e w' ⟨rfl, rfl⟩
    go_wp2_with fail
    refine (sane_any _).mono ?_
    rintro e w1 ⟨rfl, b1⟩
    go_wp2_with fail
    go_ret
    exact ⟨rfl, b1⟩
  · have hb : decide (50 < n) = false := by simpa using hn
    have HB := hide hb
    have hn2 : n ≤ 1000 := by omega
    clear hb hn
    by_cases he : errV xs = 0
    · have HE := hide he
      clear he
      go_enter Try.func6, Try.ntmps6
      go_wp2_with fail
      refine (Long0_any _ _ _ _ _ HB.out).mono ?_
      rintro e w' ⟨rfl, rfl⟩
      go_wp2_with fail
      refine (Roster_any _ _ _ xs _ HX.out hn2).mono ?_
      rintro e w1 ⟨A1, n1, c1, r, rfl, hr, _, o1, b1⟩
      have HRR := hide (roster_right HE.out (hr HE.out))
      have hn1 : n1 ≤ 1000 := by have h1 := (hr HE.out).1; have h2 := o1.len; have h3 := HLX.out; omega
      rw [HE.out]
      have O1 := hide o1
      have B1 := hide b1
      clear hr o1 b1
      go_wp2_with fail
      refine (rPeak_any _ _ _ xs _ (HX.out.below B1.out (Nat.le_refl _)) hn2).mono ?_
      rintro e w2 ⟨rfl, b2⟩
      rw [HE.out]
      have O2 := hide (O1.out.below b2 (Nat.le_refl _))
      have B2 := hide (B1.out.trans (b2.mono B1.out.size)); clear b2
      generalize peak xs = pk at *
      obtain ⟨pk1, pk2⟩ := pk
      dsimp only at *
      go_wp2_with fail
      refine (rCheckRoster_any _ _ _ xs _ _ _ r _ (HX.out.below B2.out (Nat.le_refl _)) hn2 O2.out.row hn1).mono ?_
      rintro e w3 ⟨rfl, b3⟩
      rw [HRR.out.1, HRR.out.2]
      have B3 := hide (B2.out.trans (b3.mono B2.out.size)); clear b3
      go_wp2_with (first
        | (go_at_call 20; refine (sane_any _).mono ?_; rintro e w8 ⟨rfl, b8⟩; have B8 := hide (B3.out.trans (b8.mono B3.out.size)); clear b8))
      go_ret
      exact ⟨rfl, B8.out⟩
    · have HE := hide he
      have hne : (errV xs != 0) = true := by simpa using he
      clear he
      go_enter Try.func6, Try.ntmps6
      go_wp2_with fail
      refine (Long0_any _ _ _ _ _ HB.out).mono ?_
      rintro e w' ⟨rfl, rfl⟩
      go_wp2_with fail
      refine (Roster_any _ _ _ xs _ HX.out hn2).mono ?_
      rintro e w1 ⟨A1, n1, c1, r, rfl, _, hr, o1, b1⟩
      obtain rfl := hr HE.out
      obtain rfl : n1 = 0 := by have h1 := o1.len; exact h1.symm
      have B1 := hide b1
      clear hr o1 b1
      go_wp2_with fail
      refine (rPeak_any _ _ _ xs _ (HX.out.below B1.out (Nat.le_refl _)) hn2).mono ?_
      rintro e w2 ⟨rfl, b2⟩
      have B2 := hide (B1.out.trans (b2.mono B1.out.size)); clear b2
      generalize errV xs = ev at *
      generalize peak xs = pk at *
      obtain ⟨pk1, pk2⟩ := pk
      dsimp only at *
      go_wp2_with (first
        | (go_at_call 20; refine (sane_any _).mono ?_; rintro e w8 ⟨rfl, b8⟩; have B8 := hide (B2.out.trans (b8.mono B2.out.size)); clear b8))
      go_ret
      exact ⟨rfl, B8.out⟩
end Go.Proofs.Ytpkjgnllkaafkaa
