/- The chapter's examples. -/
import Derived.Test.YtkjnhdkbojcojaaWalkN
import Derived.Test.YtkjnhdkbojcojaaWalkH
import Derived.Test.YtkjnhdkbojcojaaWalkE
import Derived.Test.YtkjnhdkbojcojaaWalkD
namespace Go.Proofs.Ytkjnhdkbojcojaa
open Go.RowKit Go.Shelf
attribute [local go_sem] Oper.semAt_some

def boxA : Bx := ([(1, 0), (1, 0)], [0, 1])
def boxK : Bx := ([(1, 2), (1, 2), (1, 2)], [0, 1, 1])
theorem exA : runF boxA [0, 1, 0] = [0, 1, 0, 1] ∧ errW boxA [0, 1, 0] = 0 ∧ cntF boxA 3 1 = 4 ∧ errT boxA 3 1 = 0 ∧ syncF boxA = some [0] ∧ errX boxA = 0 ∧ kindsF boxK = [0, 1, 1] ∧ errX boxK = 0 := by decide +kernel
theorem box_lit (w : World) (b : Bx) (h : b.1.length ≤ maxLen) (h' : b.2.length ≤ maxLen) :
    BxR ((w.alloc (.cells (EN.cells b.1).toArray 59)).alloc (.cells (E1.cells b.2).toArray 3)) (some ⟨w.heap.size, 0, none⟩) b.1.length b.1.length (some ⟨w.heap.size + 1, 0, none⟩) b.2.length b.2.length b := by
  have h1 := (Own.lit (E := EN) (B := w.heap.size) (e := 59) w b.1 (Nat.le_refl _) h).row
  have h2 := lit_row (w.alloc (.cells (EN.cells b.1).toArray 59)) b.2 h'
  rw [show (w.alloc (.cells (EN.cells b.1).toArray 59)).heap.size = w.heap.size + 1 from by simp] at h2
  exact ⟨h1.below (le_two (Below.refl _ _) _) (Nat.le_refl _), h2⟩
set_option maxRecDepth 100000 in
set_option maxHeartbeats 4000000 in
theorem first_any (w : World) : Calls Try.prog 58 #[] w fun e w' => ∃ A A', e = .returned (bV A 2 2 A' 2 2) ∧ BxR w' A 2 2 A' 2 2 boxA ∧ Below w.heap.size w w' := by
  go_enter Try.func58, Try.ntmps58
  go_wp2_with fail
  have h1 := box_lit ((w.alloc (.cells #[.slice (some ⟨w.heap.size + 1, 0, none⟩) 2 2, .slice (some ⟨w.heap.size + 1 + 1, 0, none⟩) 2 2] 25))) boxA (by simp [boxA, maxLen]) (by simp [boxA, maxLen])
  rw [show (((w.alloc (.cells #[.slice (some ⟨w.heap.size + 1, 0, none⟩) 2 2, .slice (some ⟨w.heap.size + 1 + 1, 0, none⟩) 2 2] 25)))).heap.size = w.heap.size + 1 from by simp] at h1
  refine bodyPost_ret (v := bV (some ⟨w.heap.size + 1, 0, none⟩) 2 2 (some ⟨w.heap.size + 1 + 1, 0, none⟩) 2 2) (by simp [results, Try.results58, go_sem]) rfl ?_
  exact ⟨_, _, rfl, h1, le_two (le_two (le_two (Below.refl _ _) _) _) _⟩
set_option maxRecDepth 100000 in
set_option maxHeartbeats 8000000 in
theorem sane_any (w : World) : Calls Try.prog 20 #[] w fun e w' => e = .returned (.bool true) ∧ Below w.heap.size w w' := by
  have HA1 := hide exA.1
  have HA2 := hide exA.2.1
  have HA3 := hide exA.2.2.1
  have HA4 := hide exA.2.2.2.1
  have HA5 := hide exA.2.2.2.2.1
  have HA6 := hide exA.2.2.2.2.2.1
  have HA7 := hide exA.2.2.2.2.2.2.1
  have HA8 := hide exA.2.2.2.2.2.2.2
  have q1 : (([0, 1, 0, 1] : List Int) == [0, 1, 0, 1]) = true := by decide
  have q2 : (([0] : List Int) == [0]) = true := by decide
  have q3 : (([0, 1, 1] : List Int) == [0, 1, 1]) = true := by decide
  have Q1 := hide q1
  have Q2 := hide q2
  have Q3 := hide q3
  clear q1 q2 q3
  go_enter Try.func20, Try.ntmps20
  go_wp2_with (first
    | (have hgd := S2; clear hgd; go_at_call 27; refine (SameInts_any A7 3 c7 _ 3 3 [0, 1, 1] [0, 1, 1] _ (((O7.out.row.below S1.out (Nat.le_refl _)).below S2.out (Nat.le_refl _)).below (le_two (Below.refl _ _) _) (Nat.le_refl _)) (lit_row _ [0, 1, 1] (by simp [maxLen])) (by omega) (by omega)).mono ?_; rintro e w10 ⟨rfl, y3, hw10⟩; rw [Q3.out]; have S3 := hide (show Below w9.heap.size w9 w10 from (by rw [hw10]; exact below_drewN (le_two (Below.refl _ _) _) _)); clear hw10)
    | (have hgd := S1; clear hgd; go_at_call 27; refine (SameInts_any A6 1 c6 _ 1 1 [0] [0] _ (((O6.out.row.below B67.out (Nat.le_refl _)).below S1.out (Nat.le_refl _)).below (le_two (Below.refl _ _) _) (Nat.le_refl _)) (lit_row _ [0] (by simp [maxLen])) (by omega) (by omega)).mono ?_; rintro e w9 ⟨rfl, y2, hw9⟩; rw [Q2.out]; have S2 := hide (show Below w8.heap.size w8 w9 from (by rw [hw9]; exact below_drewN (le_two (Below.refl _ _) _) _)); clear hw9)
    | (have hgd := B7; clear hgd; go_at_call 27; refine (SameInts_any A2 4 c2 _ 4 4 [0, 1, 0, 1] [0, 1, 0, 1] _ ((O2.out.row.below B27.out (Nat.le_refl _)).below (le_two (Below.refl _ _) _) (Nat.le_refl _)) (lit_row _ [0, 1, 0, 1] (by simp [maxLen])) (by omega) (by omega)).mono ?_; rintro e w8 ⟨rfl, y1, hw8⟩; rw [Q1.out]; have S1 := hide (show Below w7.heap.size w7 w8 from (by rw [hw8]; exact below_drewN (le_two (Below.refl _ _) _) _)); clear hw8)
    | (have hgd := B6; clear hgd; go_at_call 32; refine (Kinds_any _ _ _ _ _ _ boxK _ (box_lit w6 boxK (by simp [boxK, maxLen]) (by simp [boxK, maxLen]))).mono ?_; rw [HA7.out, HA8.out]; rintro e w7 ⟨A7, n7, c7, rfl, o7, b7⟩; obtain rfl : 3 = n7 := o7.len; have B67 := hide (show Below w6.heap.size w6 w7 from le_call (le_two (le_two (Below.refl _ _) _) _) b7); have B7 := hide (le_call B6.out B67.out); have B27 := hide (le_call (le_call (le_call B23.out B34.out) (le_call B45.out B56.out)) B67.out); have O7 := hide o7; clear o7 b7)
    | (have hgd := B5; clear hgd; go_at_call 43; refine (Sync_any _ _ _ _ _ _ boxA _ R5.out).mono ?_; rw [HA5.out, HA6.out]; rintro e w6 ⟨A6, n6, c6, rfl, o6, b6⟩; obtain rfl : 1 = n6 := o6.len; have B56 := hide b6; have B6 := hide (le_call B5.out b6); have O6 := hide o6; clear o6 b6)
    | (have hgd := B4; clear hgd; go_at_call 58; refine (first_any _).mono ?_; rintro e w5 ⟨A5, A5', rfl, r5, b5⟩; have R5 := hide r5; have B45 := hide b5; have B5 := hide (le_call B4.out b5); clear r5 b5)
    | (have hgd := B3; clear hgd; go_at_call 46; refine (Count_any _ _ _ _ _ _ boxA 3 1 _ R3.out).mono ?_; rw [HA3.out, HA4.out]; rintro e w4 ⟨rfl, b4⟩; have B34 := hide b4; have B4 := hide (le_call B3.out b4); clear b4)
    | (have hgd := B2; clear hgd; go_at_call 58; refine (first_any _).mono ?_; rintro e w3 ⟨A3, A3', rfl, r3, b3⟩; have R3 := hide r3; have B23 := hide b3; have B3 := hide (le_call B2.out b3); clear r3 b3)
    | (have hgd := B1; clear hgd; go_at_call 21; refine (Run_any _ _ _ _ _ _ boxA _ _ _ [0, 1, 0] _ (R1.out.below (le_two (Below.refl _ _) _) (Nat.le_refl _)) (lit_row _ [0, 1, 0] (by simp [maxLen]))).mono ?_; rw [HA1.out, HA2.out]; rintro e w2 ⟨A2, n2, c2, rfl, o2, b2⟩; obtain rfl : 4 = n2 := o2.len; have B2 := hide (le_call (le_two B1.out _) b2); have O2 := hide o2; clear o2 b2)
    | (go_at_call 58; refine (first_any _).mono ?_; rintro e w1 ⟨A1, A1', rfl, r1, b1⟩; have R1 := hide r1; have B1 := hide b1; clear r1 b1))
  go_ret
  exact ⟨rfl, le_call (le_call (le_call B7.out S1.out) S2.out) S3.out⟩
end Go.Proofs.Ytkjnhdkbojcojaa
