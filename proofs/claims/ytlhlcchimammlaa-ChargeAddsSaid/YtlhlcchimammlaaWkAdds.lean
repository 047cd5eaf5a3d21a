/- ChargeAdds: the walk. -/
import Derived.Test.YtlhlcchimammlaaSane
namespace Go.Proofs.Ytlhlcchimammlaa
open Go.RowKit Go.Shelf

set_option maxRecDepth 100000 in
set_option maxHeartbeats 4000000 in
theorem ChargeAdds_walk (A : Option Addr) (n c : Nat) (xs : List Int) (v0 : Int) (v1 : Int) (w : World) (h : R E1 w A n c xs) (hw0 : (Lit.int .i64 v0).wf = true) (hw1 : (Lit.int .i64 v1).wf = true) :
    Calls Try.prog 8 #[.slice A n c, .int .i64 v0, .int .i64 v1] w fun e w' => e = .returned (.bool true) ∧ Below w.heap.size w w' := by
  have HX := hide h
  have HL := hide h.length
  have hm9 := h.le
  by_cases hn : 50 < n
  · have HLn := hide (show decide (50 < n) = true from by simpa using hn)
    clear h
    go_enter Try.func8, Try.ntmps8
    go_wp2_with (first
      | (go_at_call 19; refine (Long1_any A n c w hm9).mono ?_; rintro e w1 ⟨rfl, b1⟩; have D1 := hide b1; clear b1; rw [HLn.out])
      | (go_at_call 20; refine (sane_any _).mono ?_; rintro e w2 ⟨rfl, b2⟩; have D2 := hide b2; clear b2))
    go_ret
    exact ⟨rfl, (le_call D1.out D2.out)⟩
  · have HLn := hide (show decide (50 < n) = false from by simpa using hn)
    clear h
    by_cases ha : errA xs v0 = 0
    · have HEA := hide ha
      have hEV := errW_vw.2 (errA_ok.1 ha).1
      have hCA := canV_ok ha
      obtain ⟨a, rfl, ha2, hw⟩ := errA_am ha
      rw [Int.toNat_natCast] at hCA
      by_cases hb : errA xs v1 = 0
      · have HEB := hide hb
        have hCB := canV_ok hb
        obtain ⟨b, rfl, hb2, _⟩ := errA_am hb
        rw [Int.toNat_natCast] at hCB
        cases hca : mu xs a with
        | false =>
          have HCA := hide (hCA.trans hca)
          have HCB := hide hCB
          have HEB := hide (show errA xs (b : Int) = 0 from hb)
          clear hca hCA hCB ha hb hw hEV
          go_enter Try.func8, Try.ntmps8
          go_wp2_with (first
            | (go_at_call 19; refine (Long1_any A n c w hm9).mono ?_; rintro e w1 ⟨rfl, b1⟩; have D1 := hide b1; clear b1; rw [HLn.out])
            | (go_at_call_of 27 (Value.int .i64 (a : Int)); refine (Can_any A n c xs (a : Int) _ (HX.out.below D1.out (Nat.le_refl _))).mono ?_; rw [HCA.out, HEA.out]; rintro e w2 ⟨rfl, b2⟩; have D2 := hide b2; clear b2)
            | (go_at_call_of 27 (Value.int .i64 (b : Int)); refine (Can_any A n c xs (b : Int) _ ((HX.out.below D1.out (Nat.le_refl _)).below D2.out (Nat.le_refl _))).mono ?_; rw [HCB.out, HEB.out]; rintro e w3 ⟨rfl, b3⟩; have D3 := hide b3; clear b3)
            | (go_at_call 20; refine (sane_any _).mono ?_; rintro e w4 ⟨rfl, b4⟩; have D4 := hide b4; clear b4))
          go_ret
          exact ⟨ret_bool (by simp), (le_call (le_call (le_call D1.out D2.out) D3.out) D4.out)⟩
        | true =>
          have HCA := hide (hCA.trans hca)
          cases hcb : mu xs b with
          | false =>
            have HCB := hide (hCB.trans hcb)
            clear hca hcb hCA hCB ha hb hw hEV
            go_enter Try.func8, Try.ntmps8
            go_wp2_with (first
              | (go_at_call 19; refine (Long1_any A n c w hm9).mono ?_; rintro e w1 ⟨rfl, b1⟩; have D1 := hide b1; clear b1; rw [HLn.out])
              | (go_at_call_of 27 (Value.int .i64 (a : Int)); refine (Can_any A n c xs (a : Int) _ (HX.out.below D1.out (Nat.le_refl _))).mono ?_; rw [HCA.out, HEA.out]; rintro e w2 ⟨rfl, b2⟩; have D2 := hide b2; clear b2)
              | (go_at_call_of 27 (Value.int .i64 (b : Int)); refine (Can_any A n c xs (b : Int) _ ((HX.out.below D1.out (Nat.le_refl _)).below D2.out (Nat.le_refl _))).mono ?_; rw [HCB.out, HEB.out]; rintro e w3 ⟨rfl, b3⟩; have D3 := hide b3; clear b3)
              | (go_at_call 20; refine (sane_any _).mono ?_; rintro e w4 ⟨rfl, b4⟩; have D4 := hide b4; clear b4))
            go_ret
            exact ⟨ret_bool (by simp), (le_call (le_call (le_call D1.out D2.out) D3.out) D4.out)⟩
          | true =>
            have HCB := hide (hCB.trans hcb)
            have hsum : mu xs (a + b) = true := by
              obtain ⟨c1, h1⟩ := (mu_iff hw).1 hca
              obtain ⟨c2, h2⟩ := (mu_iff hw).1 hcb
              exact (mu_iff hw).2 ⟨_, h1.plus h2⟩
            by_cases hbig : a + b ≤ 2000
            · have hS := errA_fine (n := ((a : Int) + (b : Int))) hEV (by omega)
              have HES := hide hS
              have HCS := hide (show canV xs ((a : Int) + (b : Int)) = true from by rw [canV_ok hS, show ((a : Int) + (b : Int)).toNat = a + b by omega]; exact hsum)
              clear hca hcb hCA hCB ha hb hw hEV hS hsum
              go_enter Try.func8, Try.ntmps8
              go_wp2_with (first
                | (go_at_call 19; refine (Long1_any A n c w hm9).mono ?_; rintro e w1 ⟨rfl, b1⟩; have D1 := hide b1; clear b1; rw [HLn.out])
                | (go_at_call_of 27 (Value.int .i64 (a : Int)); refine (Can_any A n c xs (a : Int) _ (HX.out.below D1.out (Nat.le_refl _))).mono ?_; rw [HCA.out, HEA.out]; rintro e w2 ⟨rfl, b2⟩; have D2 := hide b2; clear b2)
                | (go_at_call_of 27 (Value.int .i64 (b : Int)); refine (Can_any A n c xs (b : Int) _ ((HX.out.below D1.out (Nat.le_refl _)).below D2.out (Nat.le_refl _))).mono ?_; rw [HCB.out, HEB.out]; rintro e w3 ⟨rfl, b3⟩; have D3 := hide b3; clear b3)
                | (go_at_call_of 27 (Value.int .i64 ((a : Int) + (b : Int))); refine (Can_any A n c xs ((a : Int) + (b : Int)) _ (((HX.out.below D1.out (Nat.le_refl _)).below D2.out (Nat.le_refl _)).below D3.out (Nat.le_refl _))).mono ?_; rw [HCS.out, HES.out]; rintro e w4 ⟨rfl, b4⟩; have D4 := hide b4; clear b4)
                | (go_at_call 20; refine (sane_any _).mono ?_; rintro e w5 ⟨rfl, b5⟩; have D5 := hide b5; clear b5))
              go_ret
              exact ⟨ret_bool (by simp), (le_call (le_call (le_call (le_call D1.out D2.out) D3.out) D4.out) D5.out)⟩
            · have hS := errA_arg (n := ((a : Int) + (b : Int))) hEV (by omega)
              have HES := hide hS
              have HCS := hide (show canV xs ((a : Int) + (b : Int)) = false from canV_no (by rw [hS]; decide))
              have hbig2 : (2000 : Int) < (a : Int) + (b : Int) := by omega
              clear hca hcb hCA hCB ha hb hw hEV hS hsum hbig
              go_enter Try.func8, Try.ntmps8
              go_wp2_with (first
                | (go_at_call 19; refine (Long1_any A n c w hm9).mono ?_; rintro e w1 ⟨rfl, b1⟩; have D1 := hide b1; clear b1; rw [HLn.out])
                | (go_at_call_of 27 (Value.int .i64 (a : Int)); refine (Can_any A n c xs (a : Int) _ (HX.out.below D1.out (Nat.le_refl _))).mono ?_; rw [HCA.out, HEA.out]; rintro e w2 ⟨rfl, b2⟩; have D2 := hide b2; clear b2)
                | (go_at_call_of 27 (Value.int .i64 (b : Int)); refine (Can_any A n c xs (b : Int) _ ((HX.out.below D1.out (Nat.le_refl _)).below D2.out (Nat.le_refl _))).mono ?_; rw [HCB.out, HEB.out]; rintro e w3 ⟨rfl, b3⟩; have D3 := hide b3; clear b3)
                | (go_at_call_of 27 (Value.int .i64 ((a : Int) + (b : Int))); refine (Can_any A n c xs ((a : Int) + (b : Int)) _ (((HX.out.below D1.out (Nat.le_refl _)).below D2.out (Nat.le_refl _)).below D3.out (Nat.le_refl _))).mono ?_; rw [HCS.out, HES.out]; rintro e w4 ⟨rfl, b4⟩; have D4 := hide b4; clear b4)
                | (go_at_call 20; refine (sane_any _).mono ?_; rintro e w5 ⟨rfl, b5⟩; have D5 := hide b5; clear b5))
              go_ret
              exact ⟨ret_bool (by simp), (le_call (le_call (le_call (le_call D1.out D2.out) D3.out) D4.out) D5.out)⟩
      · have HCA := hide hCA
        have HCB := hide (canV_no hb)
        have hne : (errA xs v1 != 0) = true := by simpa using hb
        have hne2 : ¬ errA xs v1 = 0 := hb
        clear hCA ha hb hw hEV
        go_enter Try.func8, Try.ntmps8
        go_wp2_with (first
          | (go_at_call 19; refine (Long1_any A n c w hm9).mono ?_; rintro e w1 ⟨rfl, b1⟩; have D1 := hide b1; clear b1; rw [HLn.out])
          | (go_at_call_of 27 (Value.int .i64 (a : Int)); refine (Can_any A n c xs (a : Int) _ (HX.out.below D1.out (Nat.le_refl _))).mono ?_; rw [HCA.out, HEA.out]; rintro e w2 ⟨rfl, b2⟩; have D2 := hide b2; clear b2)
          | (go_at_call_of 27 (Value.int .i64 v1); refine (Can_any A n c xs v1 _ ((HX.out.below D1.out (Nat.le_refl _)).below D2.out (Nat.le_refl _))).mono ?_; rw [HCB.out]; rintro e w3 ⟨rfl, b3⟩; have D3 := hide b3; clear b3)
          | (go_at_call 20; refine (sane_any _).mono ?_; rintro e w4 ⟨rfl, b4⟩; have D4 := hide b4; clear b4))
        go_ret
        exact ⟨ret_bool (by simp), (le_call (le_call (le_call D1.out D2.out) D3.out) D4.out)⟩
    · have HCA := hide (canV_no ha)
      have hne : (errA xs v0 != 0) = true := by simpa using ha
      have HCB := hide (rfl : canV xs v1 = canV xs v1)
      clear ha
      go_enter Try.func8, Try.ntmps8
      go_wp2_with (first
        | (go_at_call 19; refine (Long1_any A n c w hm9).mono ?_; rintro e w1 ⟨rfl, b1⟩; have D1 := hide b1; clear b1; rw [HLn.out])
        | (go_at_call_of 27 (Value.int .i64 v0); refine (Can_any A n c xs v0 _ (HX.out.below D1.out (Nat.le_refl _))).mono ?_; rw [HCA.out]; rintro e w2 ⟨rfl, b2⟩; have D2 := hide b2; clear b2)
        | (go_at_call_of 27 (Value.int .i64 v1); refine (Can_any A n c xs v1 _ ((HX.out.below D1.out (Nat.le_refl _)).below D2.out (Nat.le_refl _))).mono ?_; rintro e w3 ⟨rfl, b3⟩; have D3 := hide b3; clear b3)
        | (go_at_call 20; refine (sane_any _).mono ?_; rintro e w4 ⟨rfl, b4⟩; have D4 := hide b4; clear b4))
      go_ret
      exact ⟨ret_bool (by simp), (le_call (le_call (le_call D1.out D2.out) D3.out) D4.out)⟩
end Go.Proofs.Ytlhlcchimammlaa
