/- ChargeNeedless: the walk. -/
import Derived.Test.YtlhlcchimammlaaSane
import Derived.Test.YtlhlcchimammlaaWalkQ
namespace Go.Proofs.Ytlhlcchimammlaa
open Go.RowKit Go.Shelf

set_option maxRecDepth 100000 in
set_option maxHeartbeats 4000000 in
theorem ChargeNeedless_walk (A : Option Addr) (n c : Nat) (xs : List Int)  (w : World) (h : R E1 w A n c xs) :
    Calls Try.prog 14 #[.slice A n c] w fun e w' => e = .returned (.bool true) ∧ Below w.heap.size w w' := by
  have HX := hide h
  have HL := hide h.length
  have hm9 := h.le
  by_cases hn : 50 < n
  · have HLn := hide (show decide (50 < n) = true from by simpa using hn)
    clear h
    go_enter Try.func14, Try.ntmps14
    go_wp2_with (first
      | (go_at_call 19; refine (Long1_any A n c w hm9).mono ?_; rintro e w1 ⟨rfl, b1⟩; have D1 := hide b1; clear b1; rw [HLn.out])
      | (go_at_call 20; refine (sane_any _).mono ?_; rintro e w2 ⟨rfl, b2⟩; have D2 := hide b2; clear b2))
    go_ret
    exact ⟨rfl, (le_call D1.out D2.out)⟩
  · have HLn := hide (show decide (50 < n) = false from by simpa using hn)
    have HB1 := hide (nedV_len xs)
    have HB2 := hide (redW_len xs)
    by_cases he : errW xs = 0
    · have HEW := hide he
      have hV := errW_vw.1 he
      have hR := redW_ok he
      have hER : errW (redW xs) = 0 := by rw [hR]; exact errW_vw.2 (red_vw hV)
      have HER := hide hER
      have HNN := hide (show nedV (redW xs) = [] from by rw [nedV_ok hER, hR]; exact red_ndl hV)
      have hT : errT xs (redW xs) = 0 := (errT_yes he).trans hER
      have HET := hide hT
      have HSM := hide (show samW xs (redW xs) = true from by rw [samW_ok hT, hR]; exact sam_redV hV)
      clear he h hV hR hER hT
      go_enter Try.func14, Try.ntmps14
      go_wp2_with (first
        | (go_at_call 19; refine (Long1_any A n c w hm9).mono ?_; rintro e w1 ⟨rfl, b1⟩; have D1 := hide b1; clear b1; rw [HLn.out])
        | (go_at_call_of 46 (Value.slice A n c); refine (Needless_any A n c xs _ (HX.out.below D1.out (Nat.le_refl _))).mono ?_; rw [HEW.out]; rintro e w2 ⟨A2, n2, c2, rfl, o2, b2⟩; have D2 := hide b2; have O2 := hide o2; have HN2 := hide o2.len; clear o2 b2)
        | (go_at_call 47; refine (rNeedless_any A n c xs _ ((HX.out.below D1.out (Nat.le_refl _)).below D2.out (Nat.le_refl _))).mono ?_; rw [HEW.out]; rintro e w3 ⟨A3, n3, c3, rfl, o3, b3⟩; have D3 := hide b3; have O3 := hide o3; have HN3 := hide o3.len; clear o3 b3)
        | (go_at_call 48; refine (Reduce_any A n c xs _ (((HX.out.below D1.out (Nat.le_refl _)).below D2.out (Nat.le_refl _)).below D3.out (Nat.le_refl _))).mono ?_; rw [HEW.out]; rintro e w4 ⟨A4, n4, c4, rfl, o4, b4⟩; have D4 := hide b4; have O4 := hide o4; have HN4 := hide o4.len; clear o4 b4)
        | (go_at_call 49; refine (rReduce_any A n c xs _ ((((HX.out.below D1.out (Nat.le_refl _)).below D2.out (Nat.le_refl _)).below D3.out (Nat.le_refl _)).below D4.out (Nat.le_refl _))).mono ?_; rw [HEW.out]; rintro e w5 ⟨A5, n5, c5, rfl, o5, b5⟩; have D5 := hide b5; have O5 := hide o5; have HN5 := hide o5.len; clear o5 b5)
        | (go_at_call_of 36 (Value.slice A2 n2 c2); refine (SameInts_any A2 n2 c2 A3 n3 c3 (nedV xs) (nedV xs) _ (((O2.out.row.below D3.out (Nat.le_refl _)).below D4.out (Nat.le_refl _)).below D5.out (Nat.le_refl _)) ((O3.out.row.below D4.out (Nat.le_refl _)).below D5.out (Nat.le_refl _)) (by have h1 := HN2.out; have h2 := HB1.out; have h3 := HL.out; omega) (by have h1 := HN3.out; have h2 := HB1.out; have h3 := HL.out; omega)).mono ?_; rintro e w6 ⟨rfl, q6, hw6⟩; have D6 := hide (show Below w5.heap.size w5 w6 from by rw [hw6]; exact below_drewN (Below.refl _ _) q6); clear hw6; rw [beq_self_eq_true])
        | (go_at_call_of 36 (Value.slice A4 n4 c4); refine (SameInts_any A4 n4 c4 A5 n5 c5 (redW xs) (redW xs) _ ((O4.out.row.below D5.out (Nat.le_refl _)).below D6.out (Nat.le_refl _)) (O5.out.row.below D6.out (Nat.le_refl _)) (by have h1 := HN4.out; have h2 := HB2.out; have h3 := HL.out; omega) (by have h1 := HN5.out; have h2 := HB2.out; have h3 := HL.out; omega)).mono ?_; rintro e w7 ⟨rfl, q7, hw7⟩; have D7 := hide (show Below w6.heap.size w6 w7 from by rw [hw7]; exact below_drewN (Below.refl _ _) q7); clear hw7; rw [beq_self_eq_true])
        | (go_at_call 50; refine (Same_any A n c xs A4 n4 c4 (redW xs) _ (((((((HX.out.below D1.out (Nat.le_refl _)).below D2.out (Nat.le_refl _)).below D3.out (Nat.le_refl _)).below D4.out (Nat.le_refl _)).below D5.out (Nat.le_refl _)).below D6.out (Nat.le_refl _)).below D7.out (Nat.le_refl _)) (((O4.out.row.below D5.out (Nat.le_refl _)).below D6.out (Nat.le_refl _)).below D7.out (Nat.le_refl _))).mono ?_; rw [HSM.out, HET.out]; rintro e w8 ⟨rfl, b8⟩; have D8 := hide b8; clear b8)
        | (go_at_call_of 46 (Value.slice A4 n4 c4); refine (Needless_any A4 n4 c4 (redW xs) _ ((((O4.out.row.below D5.out (Nat.le_refl _)).below D6.out (Nat.le_refl _)).below D7.out (Nat.le_refl _)).below D8.out (Nat.le_refl _))).mono ?_; rw [HER.out, HNN.out]; rintro e w9 ⟨A9, n9, c9, rfl, o9, b9⟩; have D9 := hide b9; have O9 := hide o9; have HN9 := hide o9.len; clear o9 b9; obtain rfl : n9 = 0 := HN9.out.symm)
        | (go_at_call 20; refine (sane_any _).mono ?_; rintro e w10 ⟨rfl, b10⟩; have D10 := hide b10; clear b10))
      go_ret
      exact ⟨ret_bool (by simp), (le_call (le_call (le_call (le_call (le_call (le_call (le_call (le_call (le_call D1.out D2.out) D3.out) D4.out) D5.out) D6.out) D7.out) D8.out) D9.out) D10.out)⟩
    · have hne : (errW xs != 0) = true := by simpa using he
      clear he h
      go_enter Try.func14, Try.ntmps14
      go_wp2_with (first
        | (go_at_call 19; refine (Long1_any A n c w hm9).mono ?_; rintro e w1 ⟨rfl, b1⟩; have D1 := hide b1; clear b1; rw [HLn.out])
        | (go_at_call_of 46 (Value.slice A n c); refine (Needless_any A n c xs _ (HX.out.below D1.out (Nat.le_refl _))).mono ?_; rintro e w2 ⟨A2, n2, c2, rfl, o2, b2⟩; have D2 := hide b2; have O2 := hide o2; have HN2 := hide o2.len; clear o2 b2)
        | (go_at_call 47; refine (rNeedless_any A n c xs _ ((HX.out.below D1.out (Nat.le_refl _)).below D2.out (Nat.le_refl _))).mono ?_; rintro e w3 ⟨A3, n3, c3, rfl, o3, b3⟩; have D3 := hide b3; have O3 := hide o3; have HN3 := hide o3.len; clear o3 b3)
        | (go_at_call 48; refine (Reduce_any A n c xs _ (((HX.out.below D1.out (Nat.le_refl _)).below D2.out (Nat.le_refl _)).below D3.out (Nat.le_refl _))).mono ?_; rintro e w4 ⟨A4, n4, c4, rfl, o4, b4⟩; have D4 := hide b4; have O4 := hide o4; have HN4 := hide o4.len; clear o4 b4)
        | (go_at_call 49; refine (rReduce_any A n c xs _ ((((HX.out.below D1.out (Nat.le_refl _)).below D2.out (Nat.le_refl _)).below D3.out (Nat.le_refl _)).below D4.out (Nat.le_refl _))).mono ?_; rintro e w5 ⟨A5, n5, c5, rfl, o5, b5⟩; have D5 := hide b5; have O5 := hide o5; have HN5 := hide o5.len; clear o5 b5)
        | (go_at_call_of 36 (Value.slice A2 n2 c2); refine (SameInts_any A2 n2 c2 A3 n3 c3 (nedV xs) (nedV xs) _ (((O2.out.row.below D3.out (Nat.le_refl _)).below D4.out (Nat.le_refl _)).below D5.out (Nat.le_refl _)) ((O3.out.row.below D4.out (Nat.le_refl _)).below D5.out (Nat.le_refl _)) (by have h1 := HN2.out; have h2 := HB1.out; have h3 := HL.out; omega) (by have h1 := HN3.out; have h2 := HB1.out; have h3 := HL.out; omega)).mono ?_; rintro e w6 ⟨rfl, q6, hw6⟩; have D6 := hide (show Below w5.heap.size w5 w6 from by rw [hw6]; exact below_drewN (Below.refl _ _) q6); clear hw6; rw [beq_self_eq_true])
        | (go_at_call_of 36 (Value.slice A4 n4 c4); refine (SameInts_any A4 n4 c4 A5 n5 c5 (redW xs) (redW xs) _ ((O4.out.row.below D5.out (Nat.le_refl _)).below D6.out (Nat.le_refl _)) (O5.out.row.below D6.out (Nat.le_refl _)) (by have h1 := HN4.out; have h2 := HB2.out; have h3 := HL.out; omega) (by have h1 := HN5.out; have h2 := HB2.out; have h3 := HL.out; omega)).mono ?_; rintro e w7 ⟨rfl, q7, hw7⟩; have D7 := hide (show Below w6.heap.size w6 w7 from by rw [hw7]; exact below_drewN (Below.refl _ _) q7); clear hw7; rw [beq_self_eq_true])
        | (go_at_call 20; refine (sane_any _).mono ?_; rintro e w8 ⟨rfl, b8⟩; have D8 := hide b8; clear b8))
      go_ret
      exact ⟨ret_bool (by simp), (le_call (le_call (le_call (le_call (le_call (le_call (le_call D1.out D2.out) D3.out) D4.out) D5.out) D6.out) D7.out) D8.out)⟩
end Go.Proofs.Ytlhlcchimammlaa
