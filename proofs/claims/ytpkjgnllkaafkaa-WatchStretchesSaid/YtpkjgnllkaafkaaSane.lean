/- The chapter's first examples come out, and the small functions of the statements. -/
import Derived.Test.YtpkjgnllkaafkaaWalkP
namespace Go.Proofs.Ytpkjgnllkaafkaa
open Go.RowKit

def threeL : Ls := [(0, 4, 3), (2, 6, 5), (4, 8, 3)]
theorem err_three : errV threeL = 0 := by decide +kernel
theorem peak_three : peak threeL = (2, 2) := by decide +kernel
theorem ros_three : rosV threeL [0, 1, 0] = 2 ∧ rosE threeL [0, 1, 0] = 0 := by decide +kernel
theorem best_three : best (payI threeL) (setsTo threeL 3) = 6 := by decide +kernel
theorem earn_three {I : List Int} (h : errV threeL = 0 → ∃ L, Ord kt threeL L ∧ Chosen threeL L I) : payI threeL I = 6 := by
  obtain ⟨L, h1, h2⟩ := h err_three
  rw [← earns_best (errV_ok.1 err_three).2 h1 h2]
  exact best_three
def ThreePost (w : World) (e : Ending) (w' : World) : Prop := ∃ A : Option Addr, e = .returned (.slice A 3 3) ∧ R E3 w' A 3 3 threeL ∧ Below w.heap.size w w'
theorem three_any (w : World) : Calls Try.prog 57 #[] w (ThreePost w) := by
  have ho := Own.lit (E := E3) (e := 57) w threeL (Nat.le_refl _) (by decide)
  have HO := hide ho.row
  clear ho
  go_enter Try.func57, Try.ntmps57
  go_wp2_with fail
  go_ret
  exact ⟨_, rfl, HO.out, (Below.refl _ _).alloc (Nat.le_refl _) _⟩
set_option maxHeartbeats 1000000 in
theorem sane_any (w : World) : Calls Try.prog 20 #[] w fun e w' => e = .returned (.bool true) ∧ Below w.heap.size w w' := by
  go_enter Try.func20, Try.ntmps20
  go_wp2_with fail
  refine (three_any _).mono ?_
  rintro e w1 ⟨A1, rfl, r1, b1⟩
  have R1 := hide r1
  have B1 := hide b1
  clear r1 b1
  go_wp2_with fail
  refine (Peak_any _ _ _ threeL _ R1.out (by omega)).mono ?_
  rintro e w2 ⟨rfl, b2⟩
  rw [peak_three, err_three]
  have B2 := hide (B1.out.trans (b2.mono B1.out.size))
  clear b2
  go_wp2_with fail
  refine (three_any _).mono ?_
  rintro e w3 ⟨A3, rfl, r3, b3⟩
  have R3 := hide r3
  have B3 := hide (B2.out.trans (b3.mono B2.out.size))
  clear r3 b3
  go_wp2_with fail
  have ho := Own.lit (E := E1) (e := 3) w3 [0, 1, 0] (Nat.le_refl _) (by decide)
  have B4 := hide ((Below.refl w3.heap.size w3).alloc (Nat.le_refl _) (.cells #[.int .i64 0, .int .i64 1, .int .i64 0] 3))
  have HO := hide ho.row
  clear ho
  refine (CheckRoster_any _ _ _ threeL _ _ _ [0, 1, 0] _ (R3.out.below B4.out (Nat.le_refl _)) (by omega) HO.out (by simp)).mono ?_
  rintro e w5 ⟨rfl, b5⟩
  rw [ros_three.1, ros_three.2]
  have B5 := hide (B3.out.trans ((B4.out.trans (b5.mono B4.out.size)).mono B3.out.size))
  clear b5
  go_wp2_with fail
  refine (three_any _).mono ?_
  rintro e w6 ⟨A6, rfl, r6, b6⟩
  have R6 := hide r6
  have B6 := hide (B5.out.trans (b6.mono B5.out.size))
  clear r6 b6
  go_wp2_with fail
  refine (Earn_any _ _ _ threeL _ R6.out (by omega)).mono ?_
  rintro e w7 ⟨A7, n7, c7, I, rfl, h7, _, o7, b7⟩
  rw [earn_three h7, err_three]
  have B7 := hide (B6.out.trans (b7.mono B6.out.size))
  clear h7 o7 b7
  go_wp2_with fail
  go_ret
  exact ⟨rfl, B7.out⟩
end Go.Proofs.Ytpkjgnllkaafkaa
