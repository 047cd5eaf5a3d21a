/- The walk of WatchShifts. -/
import Derived.Test.YtpijfnimmcgchaaLift
namespace Go.Proofs.Ytpijfnimmcgchaa
open Go.RowKit

set_option maxHeartbeats 1000000 in
theorem WatchShifts_walk (A : Option Addr) (n c : Nat) (xs : Ls) (i j : Int) (w : World) (h : R E3 w A n c xs) (_ : (Lit.int .i64 i).wf = true) (_ : (Lit.int .i64 j).wf = true) :
    Calls Try.prog 3 #[.slice A n c, .int .i64 i, .int .i64 j] w fun e w' => e = .returned (.bool true) ∧ Below w.heap.size w w' := by
  have HX := hide h
  clear h
  by_cases hn : 50 < n
  · have hb : decide (50 < n) = true := by simpa using hn
    have HB := hide hb
    clear hb
    go_enter Try.func3, Try.ntmps3
    go_wp2_with fail
    refine (Long0_any _ _ _ _ _ HB.out).mono ?_
    rintro e w' ⟨rfl, rfl⟩
    go_wp2_with fail
    refine (sane_any _).mono ?_
    rintro e w1 ⟨rfl, b1⟩
    go_wp2_with fail
    go_ret
    exact ⟨rfl, b1⟩
  · have hb : decide (50 < n) = false := by simpa using hn
    have HB := hide hb
    have hn2 : n ≤ 1000 := by omega
    clear hb
    go_enter Try.func3, Try.ntmps3
    go_wp2_with fail
    refine (Long0_any _ _ _ _ _ HB.out).mono ?_
    rintro e w' ⟨rfl, rfl⟩
    go_wp2_with fail
    refine (Overlap_any _ _ _ xs _ _ _ HX.out hn2).mono ?_
    rintro e w1 ⟨rfl, b1⟩
    have B1 := hide b1
    clear b1
    go_wp2_with fail
    refine (rOverlap_any _ _ _ xs _ _ _ (HX.out.below B1.out (Nat.le_refl _)) hn2).mono ?_
    rintro e w2 ⟨rfl, b2⟩
    have B2 := hide (B1.out.trans (b2.mono B1.out.size))
    clear b2
    go_wp2_with fail
    refine (Validate_any _ _ _ xs _ (HX.out.below B2.out (Nat.le_refl _)) hn2).mono ?_
    rintro e w3 ⟨rfl, b3⟩
    have B3 := hide (B2.out.trans (b3.mono B2.out.size))
    clear b3
    go_wp2_with fail
    refine (rValidate_any _ _ _ xs _ (HX.out.below B3.out (Nat.le_refl _)) hn2).mono ?_
    rintro e w4 ⟨rfl, b4⟩
    have B4 := hide (B3.out.trans (b4.mono B3.out.size))
    clear b4
    go_wp2_with fail
    refine (sane_any _).mono ?_
    rintro e w5 ⟨rfl, b5⟩
    have B5 := hide (B4.out.trans (b5.mono B4.out.size))
    clear b5
    go_wp2_with fail
    go_ret
    exact ⟨rfl, B5.out⟩
end Go.Proofs.Ytpijfnimmcgchaa
