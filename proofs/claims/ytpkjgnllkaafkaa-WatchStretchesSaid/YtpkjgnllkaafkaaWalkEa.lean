/- The walk of WatchEarns. -/
import Derived.Test.YtpkjgnllkaafkaaWalkMo
namespace Go.Proofs.Ytpkjgnllkaafkaa
open Go.RowKit

theorem asc_sto {I : List Int} {n : Nat} (h : Asc n I) : STo I ((n : Int) - 1) I.length := by
  have e : ∀ i (h : i < I.length), gi I i = I[i] := fun i h => by simp [gi, List.getD_eq_getElem?_getD, h]
  intro i hi
  have h1 := h.rng _ (gi_mem hi)
  refine ⟨⟨h1.1, by omega⟩, fun h0 => ?_⟩
  rw [e i hi, e (i - 1) (by omega)]
  exact List.pairwise_iff_getElem.1 h.up (i - 1) i (by omega) hi (by omega)
theorem set_right {xs : Ls} {I : List Int} (hv : errV xs = 0) (h : Asc xs.length I) (ha : Alone (pick xs I)) : errS xs I = 0 ∧ lenS xs I = I.length := by
  have h0 := errS_ok hv (isB_iff.2 (asc_sto h)) (alB_alone.2 ha)
  exact ⟨h0, lenS_ok h0⟩
set_option maxHeartbeats 2000000 in
theorem WatchEarns_walk (A : Option Addr) (n c : Nat) (xs : Ls) (w : World) (h : R E3 w A n c xs) :
    Calls Try.prog 11 #[.slice A n c] w fun e w' => e = .returned (.bool true) ∧ Below w.heap.size w w' := by
  have HLX := hide h.length
  have HX := hide h
  clear h
  by_cases hn : 50 < n
  · have hb : decide (50 < n) = true := by simpa using hn
    have HB := hide hb
    clear hb
    go_enter Try.func11, Try.ntmps11
    go_wp2_with fail
    refine (Long0_any _ _ _ _ _ HB.out).mono ?_
    rintro e w' ⟨rfl, rfl⟩
    go_wp2_with fail
    refine (sane_any _).mono ?_
    rintro e w1 ⟨rfl, b1⟩
    go_wp2_with fail
    go_ret
    exact ⟨rfl, b1⟩
  · have hb : decide (50 < n) = false := by simpa using hn
    have HB := hide hb
    have hn2 : n ≤ 1000 := by omega
    clear hb hn
    by_cases he : errV xs = 0
    · have HE := hide he
      have HOK := hide (errV_ok.1 he).2
      clear he
      go_enter Try.func11, Try.ntmps11
      go_wp2_with (first
        | (go_at_call 19; refine (Long0_any _ _ _ _ _ HB.out).mono ?_; rintro e w' ⟨rfl, rfl⟩)
        | (go_at_call 36; refine (Earn_any _ _ _ xs _ HX.out hn2).mono ?_; rintro e w1 ⟨A1, n1, k1, I, rfl, hI, _, o1, b1⟩; obtain ⟨L, hL, hC⟩ := hI HE.out; have HC := hide hC; have HEB := hide (earns_best HOK.out hL hC); have HSR := hide (set_right HE.out hC.asc hC.alone); have hn1 : n1 ≤ 1000 := by { have h1 := asc_len hC.asc; have h2 := o1.len; have h3 := HLX.out; omega }; have HI := hide o1; have B1 := hide b1; rw [HE.out]; clear hI hL hC o1 b1)
        | (go_at_call 24; refine (rValidate_any _ _ _ xs _ (HX.out.below B1.out (Nat.le_refl _)) hn2).mono ?_; rintro e w2 ⟨rfl, b2⟩; rw [HE.out]; have HI2 := hide (HI.out.below b2 (Nat.le_refl _)); have B2 := hide (B1.out.trans (b2.mono B1.out.size)); clear b2)
        | (go_at_call 34; refine (rCheckAlone_any _ _ _ xs _ _ _ I _ (HX.out.below B2.out (Nat.le_refl _)) hn2 HI2.out.row hn1).mono ?_; rintro e w3 ⟨rfl, b3⟩; rw [HSR.out.1]; have HI3 := hide (HI2.out.below b3 (Nat.le_refl _)); have B3 := hide (B2.out.trans (b3.mono B2.out.size)); clear b3)
        | (go_at_call 38; refine (rMost_any _ _ _ xs _ (HX.out.below B3.out (Nat.le_refl _)) HE.out).mono ?_; rintro e w4 ⟨rfl, b4⟩; rw [HEB.out]; have HI4 := hide (HI3.out.below b4 (Nat.le_refl _)); have B4 := hide (B3.out.trans (b4.mono B3.out.size)); clear b4)
        | (go_at_call 37; refine (rPay_any _ _ _ xs _ _ _ I _ (HX.out.below B4.out (Nat.le_refl _)) HOK.out HI4.out.row hn1 (fun x hx => by have := HC.out.asc.rng x hx; have h3 := HLX.out; omega)).mono ?_; rintro e w5 ⟨rfl, rfl⟩)
        | (go_at_call 20; refine (sane_any _).mono ?_; rintro e w6 ⟨rfl, b6⟩; have B6 := hide (B4.out.trans (b6.mono B4.out.size)); clear b6))
      go_ret
      exact ⟨rfl, B6.out⟩
    · have HE := hide he
      have hne : (errV xs != 0) = true := by simpa using he
      clear he
      go_enter Try.func11, Try.ntmps11
      go_wp2_with (first
        | (go_at_call 19; refine (Long0_any _ _ _ _ _ HB.out).mono ?_; rintro e w' ⟨rfl, rfl⟩)
        | (go_at_call 36; refine (Earn_any _ _ _ xs _ HX.out hn2).mono ?_; rintro e w1 ⟨A1, n1, k1, I, rfl, _, hI, o1, b1⟩; obtain rfl := hI HE.out; have hl := o1.len; simp only [List.length_nil] at hl; subst hl; have B1 := hide b1; have HPZ := hide (show payI xs [] = 0 from rfl); rw [HPZ.out]; clear hI o1 b1)
        | (go_at_call 24; refine (rValidate_any _ _ _ xs _ (HX.out.below B1.out (Nat.le_refl _)) hn2).mono ?_; rintro e w2 ⟨rfl, b2⟩; generalize errV xs = ev at *; have B2 := hide (B1.out.trans (b2.mono B1.out.size)); clear b2)
        | (go_at_call 20; refine (sane_any _).mono ?_; rintro e w6 ⟨rfl, b6⟩; have B6 := hide (B2.out.trans (b6.mono B2.out.size)); clear b6))
      go_ret
      exact ⟨rfl, B6.out⟩
end Go.Proofs.Ytpkjgnllkaafkaa
