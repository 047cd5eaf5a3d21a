/- ChargeWays: the walk. -/
import Derived.Test.YtlhlcchimammlaaWalkU
import Derived.Test.YtlhlcchimammlaaWkFires
namespace Go.Proofs.Ytlhlcchimammlaa
open Go.RowKit Go.Shelf

set_option maxRecDepth 100000 in
set_option maxHeartbeats 4000000 in
theorem ChargeWays_walk (A : Option Addr) (n c : Nat) (xs : List Int) (v0 : Int) (w : World) (h : R E1 w A n c xs) (hw0 : (Lit.int .i64 v0).wf = true) :
    Calls Try.prog 6 #[.slice A n c, .int .i64 v0] w fun e w' => e = .returned (.bool true) ∧ Below w.heap.size w w' := by
  have HX := hide h
  have HL := hide h.length
  have hm9 := h.le
  by_cases hn : 50 < n
  · have HLn := hide (show decide (50 < n) = true from by simpa using hn)
    clear h
    go_enter Try.func6, Try.ntmps6
    go_wp2_with (first
      | (go_at_call 19; refine (Long1_any A n c w hm9).mono ?_; rintro e w1 ⟨rfl, b1⟩; have D1 := hide b1; clear b1; rw [HLn.out])
      | (go_at_call 20; refine (sane_any _).mono ?_; rintro e w2 ⟨rfl, b2⟩; have D2 := hide b2; clear b2))
    go_ret
    exact ⟨rfl, (le_call D1.out D2.out)⟩
  · have HLn := hide (show decide (50 < n) = false from by simpa using hn)
    clear h
    by_cases he : errY xs v0 = 0
    · have HE := hide he
      have hA := (errY_ok he).1
      have HA := hide hA
      obtain ⟨N, rfl, hN, hwt⟩ := errA_am hA
      have hwv := waysV_ok he
      rw [Int.toNat_natCast] at hwv
      have hcv := canV_ok hA
      rw [Int.toNat_natCast] at hcv
      have HW := hide (show canV xs (N : Int) = decide (0 < waysV xs (N : Int)) from by rw [hcv, hwv, wy_mu hwt])
      obtain ⟨v, hvd⟩ : ∃ v, waysV xs (N : Int) = v := ⟨_, rfl⟩
      have HVD := hide hvd
      rw [hvd] at HW
      clear he hA hwv hcv hwt hvd
      by_cases hv : 0 < v
      · have HC := hide (show canV xs (N : Int) = true from by rw [HW.out]; simpa using hv)
        go_enter Try.func6, Try.ntmps6
        go_wp2_with (first
          | (go_at_call 19; refine (Long1_any A n c w hm9).mono ?_; rintro e w1 ⟨rfl, b1⟩; have D1 := hide b1; clear b1; rw [HLn.out])
          | (go_at_call 32; refine (Ways_any A n c xs (N : Int) _ (HX.out.below D1.out (Nat.le_refl _))).mono ?_; rw [HE.out, HVD.out]; rintro e w2 ⟨rfl, b2⟩; have D2 := hide b2; clear b2)
          | (go_at_call 33; refine (rWays_any A n c xs (N : Int) _ ((HX.out.below D1.out (Nat.le_refl _)).below D2.out (Nat.le_refl _))).mono ?_; rw [HE.out, HVD.out]; rintro e w3 ⟨rfl, b3⟩; have D3 := hide b3; clear b3)
          | (go_at_call 27; refine (Can_any A n c xs (N : Int) _ (((HX.out.below D1.out (Nat.le_refl _)).below D2.out (Nat.le_refl _)).below D3.out (Nat.le_refl _))).mono ?_; rw [HC.out, HA.out]; rintro e w4 ⟨rfl, b4⟩; have D4 := hide b4; clear b4)
          | (go_at_call 20; refine (sane_any _).mono ?_; rintro e w5 ⟨rfl, b5⟩; have D5 := hide b5; clear b5))
        go_ret
        exact ⟨ret_bool (by first | (simp; done) | (simp; omega)), (le_call (le_call (le_call (le_call D1.out D2.out) D3.out) D4.out) D5.out)⟩
      · have HC := hide (show canV xs (N : Int) = false from by rw [HW.out]; simpa using hv)
        have hv2 : v ≤ 0 := by omega
        go_enter Try.func6, Try.ntmps6
        go_wp2_with (first
          | (go_at_call 19; refine (Long1_any A n c w hm9).mono ?_; rintro e w1 ⟨rfl, b1⟩; have D1 := hide b1; clear b1; rw [HLn.out])
          | (go_at_call 32; refine (Ways_any A n c xs (N : Int) _ (HX.out.below D1.out (Nat.le_refl _))).mono ?_; rw [HE.out, HVD.out]; rintro e w2 ⟨rfl, b2⟩; have D2 := hide b2; clear b2)
          | (go_at_call 33; refine (rWays_any A n c xs (N : Int) _ ((HX.out.below D1.out (Nat.le_refl _)).below D2.out (Nat.le_refl _))).mono ?_; rw [HE.out, HVD.out]; rintro e w3 ⟨rfl, b3⟩; have D3 := hide b3; clear b3)
          | (go_at_call 27; refine (Can_any A n c xs (N : Int) _ (((HX.out.below D1.out (Nat.le_refl _)).below D2.out (Nat.le_refl _)).below D3.out (Nat.le_refl _))).mono ?_; rw [HC.out, HA.out]; rintro e w4 ⟨rfl, b4⟩; have D4 := hide b4; clear b4)
          | (go_at_call 20; refine (sane_any _).mono ?_; rintro e w5 ⟨rfl, b5⟩; have D5 := hide b5; clear b5))
        go_ret
        exact ⟨ret_bool (by first | (simp; done) | (simp; omega)), (le_call (le_call (le_call (le_call D1.out D2.out) D3.out) D4.out) D5.out)⟩
    · have HE := hide he
      have hne : (errY xs v0 != 0) = true := by simpa using he
      clear he
      go_enter Try.func6, Try.ntmps6
      go_wp2_with (first
        | (go_at_call 19; refine (Long1_any A n c w hm9).mono ?_; rintro e w1 ⟨rfl, b1⟩; have D1 := hide b1; clear b1; rw [HLn.out])
        | (go_at_call 32; refine (Ways_any A n c xs v0 _ (HX.out.below D1.out (Nat.le_refl _))).mono ?_; rintro e w2 ⟨rfl, b2⟩; have D2 := hide b2; clear b2)
        | (go_at_call 33; refine (rWays_any A n c xs v0 _ ((HX.out.below D1.out (Nat.le_refl _)).below D2.out (Nat.le_refl _))).mono ?_; rintro e w3 ⟨rfl, b3⟩; have D3 := hide b3; clear b3)
        | (go_at_call 27; refine (Can_any A n c xs v0 _ (((HX.out.below D1.out (Nat.le_refl _)).below D2.out (Nat.le_refl _)).below D3.out (Nat.le_refl _))).mono ?_; rintro e w4 ⟨rfl, b4⟩; have D4 := hide b4; clear b4)
        | (go_at_call 20; refine (sane_any _).mono ?_; rintro e w5 ⟨rfl, b5⟩; have D5 := hide b5; clear b5))
      go_ret
      exact ⟨ret_bool (by first | (simp; done) | (simp; omega)), (le_call (le_call (le_call (le_call D1.out D2.out) D3.out) D4.out) D5.out)⟩
end Go.Proofs.Ytlhlcchimammlaa
