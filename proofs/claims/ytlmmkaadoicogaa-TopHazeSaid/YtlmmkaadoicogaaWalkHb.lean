/- The walk of HazeBest. -/
import Derived.Test.YtlmmkaadoicogaaWalkMd
namespace Go.Proofs.Ytlmmkaadoicogaa
open Go.RowKit

set_option maxHeartbeats 4000000 in
theorem HazeBest_walk (A : Option Addr) (n c : Nat) (xs : Rd) (w : World) (h : Row w A n c xs) :
    Calls Try.prog 4 #[.slice A n c] w fun e w' => e = .returned (.bool true) ∧ Below w.heap.size w w' := by
  have HR := hide h
  by_cases hn : 100 < n
  · clear h
    go_enter Try.func4, Try.ntmps4
    go_wp2_with (first | (go_at_call 18; refine (Long_yes _ _ _ _ hn).mono ?_; rintro e w' ⟨rfl, rfl⟩) | (go_at_call 19; refine (known_any _).mono ?_; rintro e w1 ⟨rfl, hb⟩))
    go_ret
    exact ⟨rfl, hb⟩
  have hn' : n ≤ 100 := by omega
  clear h hn
  have eself : (errH xs == errH xs) = true := by simp
  go_enter Try.func4, Try.ntmps4
  go_wp2_with fail
  refine (Long_no _ _ _ _ hn').mono ?_
  rintro e w' ⟨rfl, rfl⟩
  go_wp2_with fail
  refine (Best_any _ _ _ xs _ HR.out (by omega)).mono ?_
  rintro e w1 ⟨A1, m1, c1, rfl, o1, b1⟩
  have B1 := hide b1
  have R1 := hide o1.row
  clear b1 o1
  go_wp2_with fail
  refine (rBest_any _ _ _ xs _ (HR.out.below B1.out (Nat.le_refl _)) (by omega)).mono ?_
  rintro e w2 ⟨A2, m2, c2, rfl, o2, b2⟩
  have B2 := hide (B1.out.trans (b2.mono B1.out.size))
  have S1 := hide (R1.out.below b2 (Nat.le_refl _))
  have S2 := hide o2.row
  clear b2 o2
  generalize (if errH xs = 0 then best xs else []) = lb at *
  obtain ⟨p, q, hpq⟩ : ∃ p q, misOr xs = (p, q) := ⟨_, _, rfl⟩
  have HMO := hide hpq
  clear hpq
  go_wp2_with fail
  refine (Misfit_any _ _ _ xs _ (HR.out.below B2.out (Nat.le_refl _)) (by omega)).mono ?_
  rw [HMO.out]
  rintro e w3 ⟨rfl, b3⟩
  simp only
  have B3 := hide ((B2.out.trans (b3.mono B2.out.size)).alloc (B2.out.trans (b3.mono B2.out.size)).size (.cells #[.int .i64 p, .int .i64 q] 26))
  have X3 := hide (Bk.born w3 26 #[.int .i64 p, .int .i64 q])
  have T1 := hide (S1.out.below (b3.alloc b3.size (.cells #[.int .i64 p, .int .i64 q] 26)) (Nat.le_refl _))
  have T2 := hide (S2.out.below (b3.alloc b3.size (.cells #[.int .i64 p, .int .i64 q] 26)) (Nat.le_refl _))
  clear b3
  go_wp2_with fail
  refine (rMisfit_any _ _ _ xs _ (HR.out.below B3.out (Nat.le_refl _)) (by omega)).mono ?_
  rw [HMO.out]
  rintro e w4 ⟨rfl, b4⟩
  simp only
  have B4 := hide ((B3.out.trans (b4.mono B3.out.size)).alloc (B3.out.trans (b4.mono B3.out.size)).size (.cells #[.int .i64 p, .int .i64 q] 26))
  have Y3 := hide ((X3.out.keep b4 X3.out.in_).more (.cells #[.int .i64 p, .int .i64 q] 26))
  have X4 := hide (Bk.born w4 26 #[.int .i64 p, .int .i64 q])
  have U1 := hide (T1.out.below (b4.alloc b4.size (.cells #[.int .i64 p, .int .i64 q] 26)) (Nat.le_refl _))
  have U2 := hide (T2.out.below (b4.alloc b4.size (.cells #[.int .i64 p, .int .i64 q] 26)) (Nat.le_refl _))
  clear b4
  go_wp2_with fail
  refine (SameRats_any _ _ _ lb _ _ _ lb _ U1.out U2.out).mono ?_
  rw [eqL_self]
  rintro e w5 ⟨rfl, mm, rfl⟩
  have Y3d := hide (Y3.out.draws mm)
  have X4d := hide (X4.out.draws mm)
  have B5 := hide (below_drewN B4.out mm)
  obtain ⟨x0, x1, _, _, _⟩ := Y3.out.two
  obtain ⟨y0, y1, _, _, _⟩ := X4.out.two
  go_wp2_with fail
  refine (known_any _).mono ?_
  rintro e wz ⟨rfl, bz⟩
  go_wp2_with fail
  go_ret
  exact ⟨rfl, B5.out.trans (bz.mono B5.out.size)⟩

end Go.Proofs.Ytlmmkaadoicogaa
