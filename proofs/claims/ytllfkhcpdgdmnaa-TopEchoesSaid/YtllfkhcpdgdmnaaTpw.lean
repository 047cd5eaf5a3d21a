/- TopEchoes: the walk where the rows are too long, or are no cliffs. -/
import Derived.Test.YtllfkhcpdgdmnaaTpe
import Derived.Test.YtllfkhcpdgdmnaaFin
namespace Go.Proofs.Ytllfkhcpdgdmnaa
open Go.RowKit

theorem heV_first : heV 2 [0, 5] = [4, 6] := by
  have e : heL 2 [0, 5] = [4, 6] := by decide +kernel
  unfold heV
  rw [if_pos (by decide +kernel), e]
  exact sorted_unique (sortZ_perm _) (sortZ_sorted _) (by simp)
set_option maxRecDepth 100000 in
set_option maxHeartbeats 4000000 in
theorem TopEchoes_long (A : Option Addr) (n c : Nat) (xs : List Int) (A' : Option Addr) (n' c' : Nat) (ys : List Int) (p : Int) (w : World) (h : R E1 w A n c xs) (h' : R E1 w A' n' c' ys) (hn : 100 < n ∨ 100 < n') :
    Calls Try.prog 17 #[.slice A n c, .slice A' n' c', .int .i64 p] w fun e w' => e = .returned (.bool true) ∧ Below w.heap.size w w' := by
  have HX := hide h
  have HL := hide h.length
  have HY := hide h'
  have HL' := hide h'.length
  have hm9 := h.le
  have hm9' := h'.le
  have HHE := hide (show heE 2 [0, 5] = 0 by decide +kernel)
  have HHV := hide heV_first
  clear h h'
  have HLn := hide (show (decide (100 < n) || decide (100 < n')) = true from by simpa using hn)
  go_enter Try.func17, Try.ntmps17
  go_wp2_with (first
    | (go_at_call 46; refine (Heard_any _ 2 2 [0, 5] 2 _ (lit_row w [0, 5] (by decide)) (by omega)).mono ?_; rw [HHE.out, HHV.out]; rintro e w1 ⟨A1, n1, c1, rfl, o1, b1⟩; obtain rfl : n1 = 2 := o1.len.symm; have D1 := hide (le_call ((Below.refl _ w).alloc (Nat.le_refl _) _) b1); have HR1 := hide o1.row; clear o1 b1)
    | (go_at_call_of 26 (Value.slice A1 2 c1); refine (SameInts_any A1 2 c1 _ 2 2 [4, 6] [4, 6] _ (HR1.out.below ((Below.refl _ w1).alloc (Nat.le_refl _) _) (Nat.le_refl _)) (lit_row w1 [4, 6] (by decide)) (by omega) (by omega)).mono ?_; rintro e w2 ⟨rfl, q2, hw2⟩; have D2 := hide (show Below w1.heap.size w1 w2 from by rw [hw2]; exact below_drewN ((Below.refl _ w1).alloc (Nat.le_refl _) _) q2); clear hw2; rw [beq_self_eq_true])
    | (go_at_call 18; refine (Long2_any A n c A' n' c' w2 hm9 hm9').mono ?_; rintro e w3 ⟨rfl, b3⟩; have D3 := hide (show Below w2.heap.size w2 w3 from b3); clear b3; rw [HLn.out]))
  go_ret
  exact ⟨rfl, (le_call (le_call D1.out D2.out) D3.out)⟩
set_option maxRecDepth 100000 in
set_option maxHeartbeats 4000000 in
theorem TopEchoes_no (A : Option Addr) (n c : Nat) (xs : List Int) (A' : Option Addr) (n' c' : Nat) (ys : List Int) (p : Int) (w : World) (h : R E1 w A n c xs) (h' : R E1 w A' n' c' ys) (hn : ¬ (100 < n ∨ 100 < n')) (hc : errC xs ≠ 0) :
    Calls Try.prog 17 #[.slice A n c, .slice A' n' c', .int .i64 p] w fun e w' => e = .returned (.bool true) ∧ Below w.heap.size w w' := by
  have HX := hide h
  have HL := hide h.length
  have HY := hide h'
  have HL' := hide h'.length
  have hm9 := h.le
  have hm9' := h'.le
  have HHE := hide (show heE 2 [0, 5] = 0 by decide +kernel)
  have HHV := hide heV_first
  clear h h'
  have HLn := hide (show (decide (100 < n) || decide (100 < n')) = false from by simp; omega)
  have hne : (errC xs != 0) = true := by simpa using hc
  have HDV := hide (show delV xs = [] from if_neg hc)
  clear hc
  go_enter Try.func17, Try.ntmps17
  go_wp2_with (first
    | (go_at_call 46; refine (Heard_any _ 2 2 [0, 5] 2 _ (lit_row w [0, 5] (by decide)) (by omega)).mono ?_; rw [HHE.out, HHV.out]; rintro e w1 ⟨A1, n1, c1, rfl, o1, b1⟩; obtain rfl : n1 = 2 := o1.len.symm; have D1 := hide (le_call ((Below.refl _ w).alloc (Nat.le_refl _) _) b1); have HR1 := hide o1.row; clear o1 b1)
    | (go_at_call_of 26 (Value.slice A1 2 c1); refine (SameInts_any A1 2 c1 _ 2 2 [4, 6] [4, 6] _ (HR1.out.below ((Below.refl _ w1).alloc (Nat.le_refl _) _) (Nat.le_refl _)) (lit_row w1 [4, 6] (by decide)) (by omega) (by omega)).mono ?_; rintro e w2 ⟨rfl, q2, hw2⟩; have D2 := hide (show Below w1.heap.size w1 w2 from by rw [hw2]; exact below_drewN ((Below.refl _ w1).alloc (Nat.le_refl _) _) q2); clear hw2; rw [beq_self_eq_true])
    | (go_at_call 18; refine (Long2_any A n c A' n' c' w2 hm9 hm9').mono ?_; rintro e w3 ⟨rfl, b3⟩; have D3 := hide (show Below w2.heap.size w2 w3 from b3); clear b3; rw [HLn.out])
    | (go_at_call 20; refine (Delays_any A n c xs _ (((HX.out.below D1.out (Nat.le_refl _)).below D2.out (Nat.le_refl _)).below D3.out (Nat.le_refl _)) (by omega)).mono ?_; rintro e w4 ⟨A4, n4, c4, rfl, o4, b4⟩; have D4 := hide b4; have O4 := hide o4; have HN4 := hide o4.len; clear o4 b4)
    | (go_at_call 24; refine (Validate_any A n c xs _ ((((HX.out.below D1.out (Nat.le_refl _)).below D2.out (Nat.le_refl _)).below D3.out (Nat.le_refl _)).below D4.out (Nat.le_refl _)) (by omega)).mono ?_; rintro e w5 ⟨rfl, b5⟩; have D5 := hide b5; clear b5))
  obtain rfl : n4 = 0 := by rw [← HN4.out, HDV.out]; rfl
  go_ret
  exact ⟨ret_bool (by simp), (le_call (le_call (le_call (le_call D1.out D2.out) D3.out) D4.out) D5.out)⟩
end Go.Proofs.Ytllfkhcpdgdmnaa
