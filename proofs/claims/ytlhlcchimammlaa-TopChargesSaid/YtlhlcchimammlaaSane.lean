/- The chapter's examples. -/
import Derived.Test.YtlhlcchimammlaaSaneM
import Derived.Test.YtlhlcchimammlaaLift
namespace Go.Proofs.Ytlhlcchimammlaa
open Go.RowKit Go.Shelf

set_option maxRecDepth 100000 in
set_option maxHeartbeats 4000000 in
theorem sane_any (w : World) : Calls Try.prog 20 #[] w fun e w' => e = .returned (.bool true) ∧ Below w.heap.size w w' := by
  have HG := hide gaps35
  have HGE := hide gapE35
  have HR := hide rsd46
  have HRE := hide rsdE46
  have HF := hide few134
  have HC := hide can134
  have HE := hide err134
  go_enter Try.func20, Try.ntmps20
  go_wp2_with (first
    | (go_at_call 37; refine (Gaps_any _ 2 2 [3, 5] _ (lit_row w [3, 5] (by decide))).mono ?_; rw [HG.out, HGE.out]; rintro e w1 ⟨A1, n1, c1, rfl, o1, b1⟩; obtain rfl : n1 = 4 := o1.len.symm; have D1 := hide (le_call ((Below.refl _ w).alloc (Nat.le_refl _) _) b1); have HR1 := hide o1.row; clear o1 b1)
    | (go_at_call 42; refine (Residues_any _ 2 2 [4, 6] _ (lit_row w1 [4, 6] (by decide))).mono ?_; rw [HR.out, HRE.out]; rintro e w2 ⟨A2, n2, c2, rfl, o2, b2⟩; obtain rfl : n2 = 4 := o2.len.symm; have D2 := hide (le_call ((Below.refl _ w1).alloc (Nat.le_refl _) _) b2); have HR2 := hide o2.row; clear o2 b2)
    | (go_at_call 28; refine (Fewest_any _ 3 3 [1, 3, 4] 6 _ (lit_row w2 [1, 3, 4] (by decide))).mono ?_; rw [HF.out, HC.out, HE.out]; rintro e w3 ⟨rfl, b3⟩; have D3 := hide (le_call ((Below.refl _ w2).alloc (Nat.le_refl _) _) b3); clear b3)
    | (go_at_call_of 36 (Value.slice A1 4 c1); refine (SameInts_any A1 4 c1 _ 4 4 [1, 2, 4, 7] [1, 2, 4, 7] _ (((HR1.out.below D2.out (Nat.le_refl _)).below D3.out (Nat.le_refl _)).below ((Below.refl _ w3).alloc (Nat.le_refl _) _) (Nat.le_refl _)) (lit_row w3 [1, 2, 4, 7] (by decide)) (by omega) (by omega)).mono ?_; rintro e w4 ⟨rfl, q4, hw4⟩; have D4 := hide (show Below w3.heap.size w3 w4 from by rw [hw4]; exact below_drewN ((Below.refl _ w3).alloc (Nat.le_refl _) _) q4); clear hw4; rw [show (([1, 2, 4, 7] : List Int) == [1, 2, 4, 7]) = true from by decide])
    | (go_at_call_of 36 (Value.slice A2 4 c2); refine (SameInts_any A2 4 c2 _ 4 4 [0, -1, 6, -1] [0, -1, 6, -1] _ (((HR2.out.below D3.out (Nat.le_refl _)).below D4.out (Nat.le_refl _)).below ((Below.refl _ w4).alloc (Nat.le_refl _) _) (Nat.le_refl _)) (lit_row w4 [0, -1, 6, -1] (by decide)) (by omega) (by omega)).mono ?_; rintro e w5 ⟨rfl, q5, hw5⟩; have D5 := hide (show Below w4.heap.size w4 w5 from by rw [hw5]; exact below_drewN ((Below.refl _ w4).alloc (Nat.le_refl _) _) q5); clear hw5; rw [show (([0, -1, 6, -1] : List Int) == [0, -1, 6, -1]) = true from by decide]))
  go_ret
  exact ⟨rfl, le_call (le_call (le_call (le_call D1.out D2.out) D3.out) D4.out) D5.out⟩
end Go.Proofs.Ytlhlcchimammlaa
