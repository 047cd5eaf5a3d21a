/- ChargeWeights: the walk. -/
import Derived.Test.YtlhlcchimammlaaSane
namespace Go.Proofs.Ytlhlcchimammlaa
open Go.RowKit Go.Shelf

set_option maxRecDepth 100000 in
set_option maxHeartbeats 4000000 in
theorem ChargeWeights_walk (A : Option Addr) (n c : Nat) (xs : List Int) (A' : Option Addr) (n' c' : Nat) (ys : List Int) (w : World) (h : R E1 w A n c xs) (h' : R E1 w A' n' c' ys) :
    Calls Try.prog 3 #[.slice A n c, .slice A' n' c'] w fun e w' => e = .returned (.bool true) ∧ Below w.heap.size w w' := by
  have HX := hide h
  have HY := hide h'
  have HL := hide h.length
  have HL' := hide h'.length
  have hm9 := h.le
  have hm9' := h'.le
  by_cases hn : 50 < n ∨ 50 < n'
  · have HLn := hide (show (decide (50 < n) || decide (50 < n')) = true from by simpa using hn)
    clear h h'
    go_enter Try.func3, Try.ntmps3
    go_wp2_with (first
      | (go_at_call 19; refine (Long2_any A n c A' n' c' w hm9 hm9').mono ?_; rintro e w1 ⟨rfl, b1⟩; have D1 := hide b1; clear b1; rw [HLn.out])
      | (go_at_call 20; refine (sane_any _).mono ?_; rintro e w2 ⟨rfl, b2⟩; have D2 := hide b2; clear b2))
    go_ret
    exact ⟨rfl, (le_call D1.out D2.out)⟩
  · have HLn := hide (show (decide (50 < n) || decide (50 < n')) = false from by simpa using hn)
    clear h h'
    go_enter Try.func3, Try.ntmps3
    go_wp2_with (first
      | (go_at_call 19; refine (Long2_any A n c A' n' c' w hm9 hm9').mono ?_; rintro e w1 ⟨rfl, b1⟩; have D1 := hide b1; clear b1; rw [HLn.out])
      | (go_at_call 21; refine (Measure_any A n c xs _ (HX.out.below D1.out (Nat.le_refl _))).mono ?_; rintro e w2 ⟨rfl, q2, hw2⟩; have D2 := hide (show Below w1.heap.size w1 w2 from by rw [hw2]; exact below_drewN (Below.refl _ _) q2); clear hw2)
      | (go_at_call 22; refine (rMeasure_any A n c xs _ ((HX.out.below D1.out (Nat.le_refl _)).below D2.out (Nat.le_refl _))).mono ?_; rintro e w3 ⟨rfl, q3, hw3⟩; have D3 := hide (show Below w2.heap.size w2 w3 from by rw [hw3]; exact below_drewN (Below.refl _ _) q3); clear hw3)
      | (go_at_call 23; refine (CheckCounts_any A n c xs A' n' c' ys _ (((HX.out.below D1.out (Nat.le_refl _)).below D2.out (Nat.le_refl _)).below D3.out (Nat.le_refl _)) (((HY.out.below D1.out (Nat.le_refl _)).below D2.out (Nat.le_refl _)).below D3.out (Nat.le_refl _))).mono ?_; rintro e w4 ⟨rfl, q4, hw4⟩; have D4 := hide (show Below w3.heap.size w3 w4 from by rw [hw4]; exact below_drewN (Below.refl _ _) q4); clear hw4)
      | (go_at_call 24; refine (rCheckCounts_any A n c xs A' n' c' ys _ ((((HX.out.below D1.out (Nat.le_refl _)).below D2.out (Nat.le_refl _)).below D3.out (Nat.le_refl _)).below D4.out (Nat.le_refl _)) ((((HY.out.below D1.out (Nat.le_refl _)).below D2.out (Nat.le_refl _)).below D3.out (Nat.le_refl _)).below D4.out (Nat.le_refl _))).mono ?_; rintro e w5 ⟨rfl, q5, hw5⟩; have D5 := hide (show Below w4.heap.size w4 w5 from by rw [hw5]; exact below_drewN (Below.refl _ _) q5); clear hw5)
      | (go_at_call 25; refine (Validate_any A n c xs _ (((((HX.out.below D1.out (Nat.le_refl _)).below D2.out (Nat.le_refl _)).below D3.out (Nat.le_refl _)).below D4.out (Nat.le_refl _)).below D5.out (Nat.le_refl _))).mono ?_; rintro e w' ⟨rfl, rfl⟩)
      | (go_at_call 26; refine (rValidate_any A n c xs _ (((((HX.out.below D1.out (Nat.le_refl _)).below D2.out (Nat.le_refl _)).below D3.out (Nat.le_refl _)).below D4.out (Nat.le_refl _)).below D5.out (Nat.le_refl _))).mono ?_; rintro e w6 ⟨rfl, q6, hw6⟩; have D6 := hide (show Below w5.heap.size w5 w6 from by rw [hw6]; exact below_drewN (Below.refl _ _) q6); clear hw6)
      | (go_at_call 20; refine (sane_any _).mono ?_; rintro e w7 ⟨rfl, b7⟩; have D7 := hide b7; clear b7))
    go_ret
    exact ⟨ret_bool (by simp), (le_call (le_call (le_call (le_call (le_call (le_call D1.out D2.out) D3.out) D4.out) D5.out) D6.out) D7.out)⟩
end Go.Proofs.Ytlhlcchimammlaa
