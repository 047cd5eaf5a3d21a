/- ChargeCans: the walk. -/
import Derived.Test.YtlhlcchimammlaaSane
namespace Go.Proofs.Ytlhlcchimammlaa
open Go.RowKit Go.Shelf

set_option maxRecDepth 100000 in
set_option maxHeartbeats 4000000 in
theorem ChargeCans_walk (A : Option Addr) (n c : Nat) (xs : List Int) (v0 : Int) (w : World) (h : R E1 w A n c xs) (hw0 : (Lit.int .i64 v0).wf = true) :
    Calls Try.prog 4 #[.slice A n c, .int .i64 v0] w fun e w' => e = .returned (.bool true) ∧ Below w.heap.size w w' := by
  have HX := hide h
  have HL := hide h.length
  have hm9 := h.le
  by_cases hn : 50 < n
  · have HLn := hide (show decide (50 < n) = true from by simpa using hn)
    clear h
    go_enter Try.func4, Try.ntmps4
    go_wp2_with (first
      | (go_at_call 19; refine (Long1_any A n c w hm9).mono ?_; rintro e w1 ⟨rfl, b1⟩; have D1 := hide b1; clear b1; rw [HLn.out])
      | (go_at_call 20; refine (sane_any _).mono ?_; rintro e w2 ⟨rfl, b2⟩; have D2 := hide b2; clear b2))
    go_ret
    exact ⟨rfl, (le_call D1.out D2.out)⟩
  · have HLn := hide (show decide (50 < n) = false from by simpa using hn)
    clear h
    by_cases he : errA xs v0 = 0
    · have HER := hide he
      obtain ⟨k, hk, hk2, hw⟩ := errA_am he
      have hV := (errA_ok.1 he).1
      have HMV := hide (mesV_ok (errW_vw.2 hV))
      have HEW := hide (errW_vw.2 hV)
      have hg := gcdL_rng hV
      have hC := canV_ok he
      cases hc : canV xs v0 with
      | true =>
        have HCN := hide hc
        have hd : gcdL xs ∣ v0.toNat := by
          rw [hC] at hc
          obtain ⟨c, hc⟩ := (mu_iff hw).1 hc
          exact gcdL_mk hc
        generalize gcdL xs = g at *
        have hm : (v0 % (g : Int)) = 0 := by
          subst hk
          rw [Int.toNat_natCast] at hd
          exact Int.emod_eq_zero_of_dvd (Int.natCast_dvd_natCast.2 hd)
        have hm2 : (v0.tmod (g : Int)) = 0 := by rw [Int.tmod_eq_emod_of_nonneg (by omega)]; exact hm
        have hg0 : (0 : Int) < (g : Int) := by omega
        clear hd hC hc he hV hw hk
        go_enter Try.func4, Try.ntmps4
        go_wp2_with (first
          | (go_at_call 19; refine (Long1_any A n c w hm9).mono ?_; rintro e w1 ⟨rfl, b1⟩; have D1 := hide b1; clear b1; rw [HLn.out])
          | (go_at_call 27; refine (Can_any A n c xs v0 _ (HX.out.below D1.out (Nat.le_refl _))).mono ?_; rw [HCN.out, HER.out]; rintro e w2 ⟨rfl, b2⟩; have D2 := hide b2; clear b2)
          | (go_at_call 28; refine (Fewest_any A n c xs v0 _ ((HX.out.below D1.out (Nat.le_refl _)).below D2.out (Nat.le_refl _))).mono ?_; rw [HCN.out, HER.out]; rintro e w3 ⟨rfl, b3⟩; have D3 := hide b3; clear b3)
          | (go_at_call 29; refine (rFewest_any A n c xs v0 _ (((HX.out.below D1.out (Nat.le_refl _)).below D2.out (Nat.le_refl _)).below D3.out (Nat.le_refl _))).mono ?_; rw [HCN.out, HER.out]; rintro e w4 ⟨rfl, b4⟩; have D4 := hide b4; clear b4)
          | (go_at_call 21; refine (Measure_any A n c xs _ ((((HX.out.below D1.out (Nat.le_refl _)).below D2.out (Nat.le_refl _)).below D3.out (Nat.le_refl _)).below D4.out (Nat.le_refl _))).mono ?_; rw [HMV.out, HEW.out]; rintro e w5 ⟨rfl, q5, hw5⟩; have D5 := hide (show Below w4.heap.size w4 w5 from by rw [hw5]; exact below_drewN (Below.refl _ _) q5); clear hw5)
          | (go_at_call 20; refine (sane_any _).mono ?_; rintro e w6 ⟨rfl, b6⟩; have D6 := hide b6; clear b6))
        go_ret
        exact ⟨ret_bool (by simp), (le_call (le_call (le_call (le_call (le_call D1.out D2.out) D3.out) D4.out) D5.out) D6.out)⟩
      | false =>
        have HCN := hide hc
        clear hc he hC hV hw hk
        go_enter Try.func4, Try.ntmps4
        go_wp2_with (first
          | (go_at_call 19; refine (Long1_any A n c w hm9).mono ?_; rintro e w1 ⟨rfl, b1⟩; have D1 := hide b1; clear b1; rw [HLn.out])
          | (go_at_call 27; refine (Can_any A n c xs v0 _ (HX.out.below D1.out (Nat.le_refl _))).mono ?_; rw [HCN.out, HER.out]; rintro e w2 ⟨rfl, b2⟩; have D2 := hide b2; clear b2)
          | (go_at_call 28; refine (Fewest_any A n c xs v0 _ ((HX.out.below D1.out (Nat.le_refl _)).below D2.out (Nat.le_refl _))).mono ?_; rw [HCN.out, HER.out]; rintro e w3 ⟨rfl, b3⟩; have D3 := hide b3; clear b3)
          | (go_at_call 29; refine (rFewest_any A n c xs v0 _ (((HX.out.below D1.out (Nat.le_refl _)).below D2.out (Nat.le_refl _)).below D3.out (Nat.le_refl _))).mono ?_; rw [HCN.out, HER.out]; rintro e w4 ⟨rfl, b4⟩; have D4 := hide b4; clear b4)
          | (go_at_call 21; refine (Measure_any A n c xs _ ((((HX.out.below D1.out (Nat.le_refl _)).below D2.out (Nat.le_refl _)).below D3.out (Nat.le_refl _)).below D4.out (Nat.le_refl _))).mono ?_; rw [HMV.out, HEW.out]; rintro e w5 ⟨rfl, q5, hw5⟩; have D5 := hide (show Below w4.heap.size w4 w5 from by rw [hw5]; exact below_drewN (Below.refl _ _) q5); clear hw5)
          | (go_at_call 20; refine (sane_any _).mono ?_; rintro e w6 ⟨rfl, b6⟩; have D6 := hide b6; clear b6))
        go_ret
        exact ⟨ret_bool (by simp), (le_call (le_call (le_call (le_call (le_call D1.out D2.out) D3.out) D4.out) D5.out) D6.out)⟩
    · have HCN := hide (canV_no he)
      have HZ := hide he
      clear he
      go_enter Try.func4, Try.ntmps4
      go_wp2_with (first
        | (go_at_call 19; refine (Long1_any A n c w hm9).mono ?_; rintro e w1 ⟨rfl, b1⟩; have D1 := hide b1; clear b1; rw [HLn.out])
        | (go_at_call 27; refine (Can_any A n c xs v0 _ (HX.out.below D1.out (Nat.le_refl _))).mono ?_; rw [HCN.out]; rintro e w2 ⟨rfl, b2⟩; have D2 := hide b2; clear b2)
        | (go_at_call 28; refine (Fewest_any A n c xs v0 _ ((HX.out.below D1.out (Nat.le_refl _)).below D2.out (Nat.le_refl _))).mono ?_; rw [HCN.out]; rintro e w3 ⟨rfl, b3⟩; have D3 := hide b3; clear b3)
        | (go_at_call 29; refine (rFewest_any A n c xs v0 _ (((HX.out.below D1.out (Nat.le_refl _)).below D2.out (Nat.le_refl _)).below D3.out (Nat.le_refl _))).mono ?_; rw [HCN.out]; rintro e w4 ⟨rfl, b4⟩; have D4 := hide b4; clear b4)
        | (go_at_call 21; refine (Measure_any A n c xs _ ((((HX.out.below D1.out (Nat.le_refl _)).below D2.out (Nat.le_refl _)).below D3.out (Nat.le_refl _)).below D4.out (Nat.le_refl _))).mono ?_; rintro e w5 ⟨rfl, q5, hw5⟩; have D5 := hide (show Below w4.heap.size w4 w5 from by rw [hw5]; exact below_drewN (Below.refl _ _) q5); clear hw5)
        | (go_at_call 20; refine (sane_any _).mono ?_; rintro e w6 ⟨rfl, b6⟩; have D6 := hide b6; clear b6))
      go_ret
      exact ⟨ret_bool (by simp), (le_call (le_call (le_call (le_call (le_call D1.out D2.out) D3.out) D4.out) D5.out) D6.out)⟩
end Go.Proofs.Ytlhlcchimammlaa
