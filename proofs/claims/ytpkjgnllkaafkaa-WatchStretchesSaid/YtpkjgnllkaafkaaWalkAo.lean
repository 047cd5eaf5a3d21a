/- The walk of WatchAlone. -/
import Derived.Test.YtpkjgnllkaafkaaWalkEa
namespace Go.Proofs.Ytpkjgnllkaafkaa
open Go.RowKit

theorem best_len {xs : Ls} (hv : errV xs = 0) {L : Ns} {J : List Int} (hL : Ord kt (ones xs) L) (hJ : Chosen (ones xs) L J) : best lenI (setsTo xs xs.length) = J.length ∧ Asc xs.length J ∧ Alone (pick xs J) := by
  have ha := hJ.asc
  rw [ones_len] at ha
  have hal := (alone_ones ha.rng).1 hJ.alone
  refine ⟨best_eq (by omega) (fun I hI hb => ?_) ha hal rfl, ha, hal⟩
  unfold lenI
  rw [← pay_ones hI.rng, ← pay_ones ha.rng]
  exact pay_best (errV_ok.1 (errV_ones hv)).2 hL hJ (by rw [ones_len]; exact hI) ((alone_ones hI.rng).2 hb)
set_option maxHeartbeats 2000000 in
theorem WatchAlone_walk (A : Option Addr) (n c : Nat) (xs : Ls) (w : World) (h : R E3 w A n c xs) :
    Calls Try.prog 8 #[.slice A n c] w fun e w' => e = .returned (.bool true) ∧ Below w.heap.size w w' := by
  have HLX := hide h.length
  have HX := hide h
  clear h
  by_cases hn : 50 < n
  · have hb : decide (50 < n) = true := by simpa using hn
    have HB := hide hb
    clear hb
    go_enter Try.func8, Try.ntmps8
    go_wp2_with fail
    refine (Long0_any _ _ _ _ _ HB.out).mono ?_
    rintro e w' ⟨rfl, rfl⟩
    go_wp2_with fail
    refine (sane_any _).mono ?_
    rintro e w1 ⟨rfl, b1⟩
    go_wp2_with fail
    go_ret
    exact ⟨rfl, b1⟩
  · have hb : decide (50 < n) = false := by simpa using hn
    have HB := hide hb
    have hn2 : n ≤ 1000 := by omega
    clear hb hn
    by_cases he : errV xs = 0
    · have HE := hide he
      have HOK := hide (errV_ok.1 he).2
      clear he
      go_enter Try.func8, Try.ntmps8
      go_wp2_with (first
        | (go_at_call 19; refine (Long0_any _ _ _ _ _ HB.out).mono ?_; rintro e w' ⟨rfl, rfl⟩)
        | (go_at_call 35; refine (Alone_any _ _ _ xs _ HX.out hn2).mono ?_; rintro e w1 ⟨A1, n1, k1, I, rfl, hI, _, o1, b1⟩; obtain ⟨L, hL, hC⟩ := hI HE.out; have hB := best_len HE.out hL hC; have HEB := hide hB.1; have HSR := hide (set_right HE.out hB.2.1 hB.2.2); have hn1 : n1 ≤ 1000 := by { have h1 := asc_len hB.2.1; have h2 := o1.len; have h3 := HLX.out; omega }; have HI := hide o1; have B1 := hide b1; rw [HE.out]; clear hI hL hC o1 b1 hB)
        | (go_at_call 24; refine (rValidate_any _ _ _ xs _ (HX.out.below B1.out (Nat.le_refl _)) hn2).mono ?_; rintro e w2 ⟨rfl, b2⟩; rw [HE.out]; have HI2 := hide (HI.out.below b2 (Nat.le_refl _)); have B2 := hide (B1.out.trans (b2.mono B1.out.size)); clear b2)
        | (go_at_call 34; refine (rCheckAlone_any _ _ _ xs _ _ _ I _ (HX.out.below B2.out (Nat.le_refl _)) hn2 HI2.out.row hn1).mono ?_; rintro e w3 ⟨rfl, b3⟩; rw [HSR.out.1, HSR.out.2]; have B3 := hide (B2.out.trans (b3.mono B2.out.size)); clear b3)
        | (go_at_call 38; refine (rMost_any _ _ _ xs _ (HX.out.below B3.out (Nat.le_refl _)) HE.out).mono ?_; rintro e w4 ⟨rfl, b4⟩; rw [HEB.out]; have B4 := hide (B3.out.trans (b4.mono B3.out.size)); clear b4)
        | (go_at_call 20; refine (sane_any _).mono ?_; rintro e w6 ⟨rfl, b6⟩; have B6 := hide (B4.out.trans (b6.mono B4.out.size)); clear b6))
      go_ret
      exact ⟨rfl, B6.out⟩
    · have HE := hide he
      have hne : (errV xs != 0) = true := by simpa using he
      clear he
      go_enter Try.func8, Try.ntmps8
      go_wp2_with (first
        | (go_at_call 19; refine (Long0_any _ _ _ _ _ HB.out).mono ?_; rintro e w' ⟨rfl, rfl⟩)
        | (go_at_call 35; refine (Alone_any _ _ _ xs _ HX.out hn2).mono ?_; rintro e w1 ⟨A1, n1, k1, I, rfl, _, hI, o1, b1⟩; obtain rfl := hI HE.out; have hl := o1.len; simp only [List.length_nil] at hl; subst hl; have B1 := hide b1; clear hI o1 b1)
        | (go_at_call 24; refine (rValidate_any _ _ _ xs _ (HX.out.below B1.out (Nat.le_refl _)) hn2).mono ?_; rintro e w2 ⟨rfl, b2⟩; generalize errV xs = ev at *; have B2 := hide (B1.out.trans (b2.mono B1.out.size)); clear b2)
        | (go_at_call 20; refine (sane_any _).mono ?_; rintro e w6 ⟨rfl, b6⟩; have B6 := hide (B2.out.trans (b6.mono B2.out.size)); clear b6))
      go_ret
      exact ⟨rfl, B6.out⟩
end Go.Proofs.Ytpkjgnllkaafkaa
