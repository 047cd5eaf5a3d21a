/- EchoSums: the walk. -/
import Derived.Test.YtllfkhcpdgdmnaaWkRows
namespace Go.Proofs.Ytllfkhcpdgdmnaa
open Go.RowKit

theorem cmb_len (f : Int → Int → Int) (xs ys : List Int) : (cmb f xs ys).length = xs.length * ys.length := by
  unfold cmb
  have h : ∀ k, (cmbTo f xs ys k).length = k * ys.length := by
    intro k
    induction k with
    | zero => simp [cmbTo]
    | succ k ih => rw [cmbTo_succ, List.length_append, ih, List.length_map, Nat.add_mul]; omega
  exact h _
theorem cmbV_len (f : Int → Int → Int) (xs ys : List Int) : (cmbV f xs ys).length ≤ 36 := by
  by_cases h : errB xs ys = 0
  · rw [cmbV_ok f h]
    obtain ⟨h1, h2⟩ := errB_ok h
    have h3 := (errC_ok.1 h1).2.1
    have h4 := (errC_ok.1 h2).2.1
    unfold madV
    split
    · rw [sortZ_len, cmb_len]
      exact Nat.le_trans (Nat.mul_le_mul h3 h4) (by decide)
    · simp
  · rw [cmbV_no f h]
    simp
theorem errC_range (xs : List Int) : errC xs = 0 ∨ errC xs = 1 ∨ errC xs = 3 := by
  unfold errC
  split
  · omega
  · split
    · omega
    · omega
theorem errM_five (l : List Int) : (errM l == 5) = twoB (sortZ l) := by
  cases h : twoB (sortZ l) with
  | true => rw [errM_two h]; rfl
  | false =>
    rw [errM_one h]
    rcases errC_range (sortZ l) with e | e | e <;> (rw [e]; rfl)
/-- Two sums are equal just where two differences are. -/
theorem errS_two (xs ys : List Int) : (errS (fun x y => x + y) xs ys == 5) = (errS (fun x y => x - y) xs ys == 5) := by
  by_cases h : errB xs ys = 0
  · rw [errS_ok _ h, errS_ok _ h, errM_five, errM_five, two_alike h]
  · rw [errS_no _ h, errS_no _ h]
set_option maxRecDepth 100000 in
set_option maxHeartbeats 4000000 in
theorem EchoSums_walk (A : Option Addr) (n c : Nat) (xs : List Int) (A' : Option Addr) (n' c' : Nat) (ys : List Int) (w : World) (h : R E1 w A n c xs) (h' : R E1 w A' n' c' ys) :
    Calls Try.prog 12 #[.slice A n c, .slice A' n' c'] w fun e w' => e = .returned (.bool true) ∧ Below w.heap.size w w' := by
  have HX := hide h
  have HY := hide h'
  have hm9 := h.le
  have hm9' := h'.le
  have HCP := hide (cmbV_len (fun x y => x + y) xs ys)
  have HCM := hide (cmbV_len (fun x y => x - y) xs ys)
  have HT := hide (errS_two xs ys)
  clear h h'
  by_cases hn : 100 < n ∨ 100 < n'
  · have HLn := hide (show (decide (100 < n) || decide (100 < n')) = true from by simpa using hn)
    go_enter Try.func12, Try.ntmps12
    go_wp2_with (first
      | (go_at_call 18; refine (Long2_any A n c A' n' c' w hm9 hm9').mono ?_; rintro e w1 ⟨rfl, b1⟩; have D1 := hide b1; clear b1; rw [HLn.out])
      | (go_at_call 19; refine (sane_any _).mono ?_; rintro e w2 ⟨rfl, b2⟩; have D2 := hide b2; clear b2))
    go_ret
    exact ⟨rfl, (le_call D1.out D2.out)⟩
  · have HLn := hide (show (decide (100 < n) || decide (100 < n')) = false from by simp; omega)
    go_enter Try.func12, Try.ntmps12
    go_wp2_with (first
      | (go_at_call 18; refine (Long2_any A n c A' n' c' w (by omega) (by omega)).mono ?_; rintro e w1 ⟨rfl, b1⟩; have D1 := hide b1; clear b1; rw [HLn.out])
      | (go_at_call 48; refine (Plus_any A n c xs A' n' c' ys _ (HX.out.below D1.out (Nat.le_refl _)) (HY.out.below D1.out (Nat.le_refl _)) (by omega) (by omega)).mono ?_; rintro e w2 ⟨A2, n2, c2, rfl, o2, b2⟩; have D2 := hide b2; have O2 := hide o2; have HN2 := hide o2.len; clear o2 b2)
      | (go_at_call 49; refine (rPlus_any A n c xs A' n' c' ys _ ((HX.out.below D1.out (Nat.le_refl _)).below D2.out (Nat.le_refl _)) ((HY.out.below D1.out (Nat.le_refl _)).below D2.out (Nat.le_refl _)) (by omega) (by omega)).mono ?_; rintro e w3 ⟨A3, n3, c3, rfl, o3, b3⟩; have D3 := hide b3; have O3 := hide o3; have HN3 := hide o3.len; clear o3 b3)
      | (go_at_call 50; refine (Minus_any A n c xs A' n' c' ys _ (((HX.out.below D1.out (Nat.le_refl _)).below D2.out (Nat.le_refl _)).below D3.out (Nat.le_refl _)) (((HY.out.below D1.out (Nat.le_refl _)).below D2.out (Nat.le_refl _)).below D3.out (Nat.le_refl _)) (by omega) (by omega)).mono ?_; rintro e w4 ⟨A4, n4, c4, rfl, o4, b4⟩; have D4 := hide b4; have O4 := hide o4; have HN4 := hide o4.len; clear o4 b4)
      | (go_at_call 51; refine (rMinus_any A n c xs A' n' c' ys _ ((((HX.out.below D1.out (Nat.le_refl _)).below D2.out (Nat.le_refl _)).below D3.out (Nat.le_refl _)).below D4.out (Nat.le_refl _)) ((((HY.out.below D1.out (Nat.le_refl _)).below D2.out (Nat.le_refl _)).below D3.out (Nat.le_refl _)).below D4.out (Nat.le_refl _)) (by omega) (by omega)).mono ?_; rintro e w5 ⟨A5, n5, c5, rfl, o5, b5⟩; have D5 := hide b5; have O5 := hide o5; have HN5 := hide o5.len; clear o5 b5)
      | (go_at_call_of 26 (Value.slice A2 n2 c2); refine (SameInts_any A2 n2 c2 A3 n3 c3 (cmbV (fun x y => x + y) xs ys) (cmbV (fun x y => x + y) xs ys) _ (((O2.out.row.below D3.out (Nat.le_refl _)).below D4.out (Nat.le_refl _)).below D5.out (Nat.le_refl _)) ((O3.out.row.below D4.out (Nat.le_refl _)).below D5.out (Nat.le_refl _)) (by have h1 := HN2.out; have h2 := HCP.out; omega) (by have h1 := HN3.out; have h2 := HCP.out; omega)).mono ?_; rintro e w6 ⟨rfl, q6, hw6⟩; have D6 := hide (show Below w5.heap.size w5 w6 from by rw [hw6]; exact below_drewN (Below.refl _ _) q6); clear hw6; rw [beq_self_eq_true])
      | (go_at_call_of 26 (Value.slice A4 n4 c4); refine (SameInts_any A4 n4 c4 A5 n5 c5 (cmbV (fun x y => x - y) xs ys) (cmbV (fun x y => x - y) xs ys) _ ((O4.out.row.below D5.out (Nat.le_refl _)).below D6.out (Nat.le_refl _)) (O5.out.row.below D6.out (Nat.le_refl _)) (by have h1 := HN4.out; have h2 := HCM.out; omega) (by have h1 := HN5.out; have h2 := HCM.out; omega)).mono ?_; rintro e w7 ⟨rfl, q7, hw7⟩; have D7 := hide (show Below w6.heap.size w6 w7 from by rw [hw7]; exact below_drewN (Below.refl _ _) q7); clear hw7; rw [beq_self_eq_true])
      | (go_at_call 19; refine (sane_any _).mono ?_; rintro e w8 ⟨rfl, b8⟩; have D8 := hide b8; clear b8))
    go_ret
    exact ⟨ret_bool (by simp [HT.out]), (le_call (le_call (le_call (le_call (le_call (le_call (le_call D1.out D2.out) D3.out) D4.out) D5.out) D6.out) D7.out) D8.out)⟩
end Go.Proofs.Ytllfkhcpdgdmnaa
