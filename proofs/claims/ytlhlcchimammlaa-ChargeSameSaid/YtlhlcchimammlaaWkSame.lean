/- ChargeSame: the walk. -/
import Derived.Test.YtlhlcchimammlaaSane
import Derived.Test.YtlhlcchimammlaaWalkQ
namespace Go.Proofs.Ytlhlcchimammlaa
open Go.RowKit Go.Shelf

set_option maxRecDepth 100000 in
set_option maxHeartbeats 4000000 in
theorem ChargeSame_walk (A : Option Addr) (n c : Nat) (xs : List Int) (A' : Option Addr) (n' c' : Nat) (ys : List Int) (w : World) (h : R E1 w A n c xs) (h' : R E1 w A' n' c' ys) :
    Calls Try.prog 15 #[.slice A n c, .slice A' n' c'] w fun e w' => e = .returned (.bool true) ∧ Below w.heap.size w w' := by
  have HX := hide h
  have HY := hide h'
  have HL := hide h.length
  have HL' := hide h'.length
  have hm9 := h.le
  have hm9' := h'.le
  by_cases hn : 50 < n ∨ 50 < n'
  · have HLn := hide (show (decide (50 < n) || decide (50 < n')) = true from by simpa using hn)
    clear h h'
    go_enter Try.func15, Try.ntmps15
    go_wp2_with (first
      | (go_at_call 19; refine (Long2_any A n c A' n' c' w hm9 hm9').mono ?_; rintro e w1 ⟨rfl, b1⟩; have D1 := hide b1; clear b1; rw [HLn.out])
      | (go_at_call 20; refine (sane_any _).mono ?_; rintro e w2 ⟨rfl, b2⟩; have D2 := hide b2; clear b2))
    go_ret
    exact ⟨rfl, (le_call D1.out D2.out)⟩
  · have HLn := hide (show (decide (50 < n) || decide (50 < n')) = false from by simpa using hn)
    have HB1 := hide (redW_len xs)
    have HB2 := hide (redW_len ys)
    clear h h'
    by_cases he : errT xs ys = 0
    · have HET := hide he
      have hx : errW xs = 0 := by
        by_cases h : errW xs = 0
        · exact h
        · rw [errT_no h] at he; exact absurd he h
      have hy : errW ys = 0 := by rw [← errT_yes hx]; exact he
      have HEX := hide hx
      have HEY := hide hy
      have hS : (redW xs == redW ys) = samW xs ys := by rw [samW_ok he, redW_ok hx, redW_ok hy]; exact (sam_red (errW_vw.1 hx) (errW_vw.1 hy)).symm
      cases hs : samW xs ys with
      | true =>
        have HSA := hide hs
        have HSR := hide (hS.trans hs)
        clear hs hS hx hy he
        go_enter Try.func15, Try.ntmps15
        go_wp2_with (first
          | (go_at_call 19; refine (Long2_any A n c A' n' c' w hm9 hm9').mono ?_; rintro e w1 ⟨rfl, b1⟩; have D1 := hide b1; clear b1; rw [HLn.out])
          | (go_at_call 50; refine (Same_any A n c xs A' n' c' ys _ (HX.out.below D1.out (Nat.le_refl _)) (HY.out.below D1.out (Nat.le_refl _))).mono ?_; rw [HSA.out, HET.out]; rintro e w2 ⟨rfl, b2⟩; have D2 := hide b2; clear b2)
          | (go_at_call 51; refine (rSame_any A n c xs A' n' c' ys _ ((HX.out.below D1.out (Nat.le_refl _)).below D2.out (Nat.le_refl _)) ((HY.out.below D1.out (Nat.le_refl _)).below D2.out (Nat.le_refl _))).mono ?_; rw [HSA.out, HET.out]; rintro e w3 ⟨rfl, b3⟩; have D3 := hide b3; clear b3)
          | (go_at_call_of 48 (Value.slice A n c); refine (Reduce_any A n c xs _ (((HX.out.below D1.out (Nat.le_refl _)).below D2.out (Nat.le_refl _)).below D3.out (Nat.le_refl _))).mono ?_; rw [HEX.out]; rintro e w4 ⟨A4, n4, c4, rfl, o4, b4⟩; have D4 := hide b4; have O4 := hide o4; have HN4 := hide o4.len; clear o4 b4)
          | (go_at_call_of 48 (Value.slice A' n' c'); refine (Reduce_any A' n' c' ys _ ((((HY.out.below D1.out (Nat.le_refl _)).below D2.out (Nat.le_refl _)).below D3.out (Nat.le_refl _)).below D4.out (Nat.le_refl _))).mono ?_; rw [HEY.out]; rintro e w5 ⟨A5, n5, c5, rfl, o5, b5⟩; have D5 := hide b5; have O5 := hide o5; have HN5 := hide o5.len; clear o5 b5)
          | (go_at_call 36; refine (SameInts_any A4 n4 c4 A5 n5 c5 (redW xs) (redW ys) _ (O4.out.row.below D5.out (Nat.le_refl _)) O5.out.row (by have h1 := HN4.out; have h2 := HB1.out; have h3 := HL.out; omega) (by have h1 := HN5.out; have h2 := HB2.out; have h3 := HL'.out; omega)).mono ?_; rintro e w6 ⟨rfl, q6, hw6⟩; have D6 := hide (show Below w5.heap.size w5 w6 from by rw [hw6]; exact below_drewN (Below.refl _ _) q6); clear hw6; rw [HSR.out])
          | (go_at_call 20; refine (sane_any _).mono ?_; rintro e w7 ⟨rfl, b7⟩; have D7 := hide b7; clear b7))
        go_ret
        exact ⟨ret_bool (by simp), (le_call (le_call (le_call (le_call (le_call (le_call D1.out D2.out) D3.out) D4.out) D5.out) D6.out) D7.out)⟩
      | false =>
        have HSA := hide hs
        have HSR := hide (hS.trans hs)
        clear hs hS hx hy he
        go_enter Try.func15, Try.ntmps15
        go_wp2_with (first
          | (go_at_call 19; refine (Long2_any A n c A' n' c' w hm9 hm9').mono ?_; rintro e w1 ⟨rfl, b1⟩; have D1 := hide b1; clear b1; rw [HLn.out])
          | (go_at_call 50; refine (Same_any A n c xs A' n' c' ys _ (HX.out.below D1.out (Nat.le_refl _)) (HY.out.below D1.out (Nat.le_refl _))).mono ?_; rw [HSA.out, HET.out]; rintro e w2 ⟨rfl, b2⟩; have D2 := hide b2; clear b2)
          | (go_at_call 51; refine (rSame_any A n c xs A' n' c' ys _ ((HX.out.below D1.out (Nat.le_refl _)).below D2.out (Nat.le_refl _)) ((HY.out.below D1.out (Nat.le_refl _)).below D2.out (Nat.le_refl _))).mono ?_; rw [HSA.out, HET.out]; rintro e w3 ⟨rfl, b3⟩; have D3 := hide b3; clear b3)
          | (go_at_call_of 48 (Value.slice A n c); refine (Reduce_any A n c xs _ (((HX.out.below D1.out (Nat.le_refl _)).below D2.out (Nat.le_refl _)).below D3.out (Nat.le_refl _))).mono ?_; rw [HEX.out]; rintro e w4 ⟨A4, n4, c4, rfl, o4, b4⟩; have D4 := hide b4; have O4 := hide o4; have HN4 := hide o4.len; clear o4 b4)
          | (go_at_call_of 48 (Value.slice A' n' c'); refine (Reduce_any A' n' c' ys _ ((((HY.out.below D1.out (Nat.le_refl _)).below D2.out (Nat.le_refl _)).below D3.out (Nat.le_refl _)).below D4.out (Nat.le_refl _))).mono ?_; rw [HEY.out]; rintro e w5 ⟨A5, n5, c5, rfl, o5, b5⟩; have D5 := hide b5; have O5 := hide o5; have HN5 := hide o5.len; clear o5 b5)
          | (go_at_call 36; refine (SameInts_any A4 n4 c4 A5 n5 c5 (redW xs) (redW ys) _ (O4.out.row.below D5.out (Nat.le_refl _)) O5.out.row (by have h1 := HN4.out; have h2 := HB1.out; have h3 := HL.out; omega) (by have h1 := HN5.out; have h2 := HB2.out; have h3 := HL'.out; omega)).mono ?_; rintro e w6 ⟨rfl, q6, hw6⟩; have D6 := hide (show Below w5.heap.size w5 w6 from by rw [hw6]; exact below_drewN (Below.refl _ _) q6); clear hw6; rw [HSR.out])
          | (go_at_call 20; refine (sane_any _).mono ?_; rintro e w7 ⟨rfl, b7⟩; have D7 := hide b7; clear b7))
        go_ret
        exact ⟨ret_bool (by simp), (le_call (le_call (le_call (le_call (le_call (le_call D1.out D2.out) D3.out) D4.out) D5.out) D6.out) D7.out)⟩
    · have hne : (errT xs ys != 0) = true := by simpa using he
      clear he
      go_enter Try.func15, Try.ntmps15
      go_wp2_with (first
        | (go_at_call 19; refine (Long2_any A n c A' n' c' w hm9 hm9').mono ?_; rintro e w1 ⟨rfl, b1⟩; have D1 := hide b1; clear b1; rw [HLn.out])
        | (go_at_call 50; refine (Same_any A n c xs A' n' c' ys _ (HX.out.below D1.out (Nat.le_refl _)) (HY.out.below D1.out (Nat.le_refl _))).mono ?_; rintro e w2 ⟨rfl, b2⟩; have D2 := hide b2; clear b2)
        | (go_at_call 51; refine (rSame_any A n c xs A' n' c' ys _ ((HX.out.below D1.out (Nat.le_refl _)).below D2.out (Nat.le_refl _)) ((HY.out.below D1.out (Nat.le_refl _)).below D2.out (Nat.le_refl _))).mono ?_; rintro e w3 ⟨rfl, b3⟩; have D3 := hide b3; clear b3)
        | (go_at_call 20; refine (sane_any _).mono ?_; rintro e w4 ⟨rfl, b4⟩; have D4 := hide b4; clear b4))
      go_ret
      exact ⟨ret_bool (by simp), (le_call (le_call (le_call D1.out D2.out) D3.out) D4.out)⟩
end Go.Proofs.Ytlhlcchimammlaa
