/- ChargeAbove: the walk. -/
import Derived.Test.YtlhlcchimammlaaSane
namespace Go.Proofs.Ytlhlcchimammlaa
open Go.RowKit Go.Shelf

set_option maxRecDepth 100000 in
set_option maxHeartbeats 4000000 in
theorem ChargeAbove_walk (A : Option Addr) (n c : Nat) (xs : List Int) (v0 : Int) (w : World) (h : R E1 w A n c xs) (hw0 : (Lit.int .i64 v0).wf = true) :
    Calls Try.prog 10 #[.slice A n c, .int .i64 v0] w fun e w' => e = .returned (.bool true) ∧ Below w.heap.size w w' := by
  have HX := hide h
  have HL := hide h.length
  have hm9 := h.le
  by_cases hn : 50 < n
  · have HLn := hide (show decide (50 < n) = true from by simpa using hn)
    clear h
    go_enter Try.func10, Try.ntmps10
    go_wp2_with (first
      | (go_at_call 19; refine (Long1_any A n c w hm9).mono ?_; rintro e w1 ⟨rfl, b1⟩; have D1 := hide b1; clear b1; rw [HLn.out])
      | (go_at_call 20; refine (sane_any _).mono ?_; rintro e w2 ⟨rfl, b2⟩; have D2 := hide b2; clear b2))
    go_ret
    exact ⟨rfl, (le_call D1.out D2.out)⟩
  · have HLn := hide (show decide (50 < n) = false from by simpa using hn)
    clear h
    by_cases he : errG xs = 0
    · have HEG := hide he
      obtain ⟨hV, hg1⟩ := errG_ok.1 he
      by_cases ha : errA xs v0 = 0
      · have hCA := canV_ok ha
        have HEA0 := hide ha
        obtain ⟨k, rfl, hk2, hw⟩ := errA_am ha
        have HEA : Hid (errA xs (k : Int) = 0) := HEA0
        rw [Int.toNat_natCast] at hCA
        have HTG := hide (topG_ok he)
        have hga := gap_any hV hg1 k
        rw [← gapsV_ok he] at hga
        have hab := above_top (n := k) hV hg1
        clear ha
        cases hmu : mu xs k with
        | true =>
          have HCA := hide (hCA.trans hmu)
          have HHS := hide (show hasB (gapsV xs) (k : Int) = false from by unfold hasB; rw [hga, hmu]; rfl)
          clear hga hCA hmu hab he hV hg1 hw
          generalize topV xs = T at *
          by_cases hle : (k : Int) ≤ T
          · go_enter Try.func10, Try.ntmps10
            go_wp2_with (first
              | (go_at_call 19; refine (Long1_any A n c w hm9).mono ?_; rintro e w1 ⟨rfl, b1⟩; have D1 := hide b1; clear b1; rw [HLn.out])
              | (go_at_call 37; refine (Gaps_any A n c xs _ (HX.out.below D1.out (Nat.le_refl _))).mono ?_; rw [HEG.out]; rintro e w2 ⟨A2, n2, c2, rfl, o2, b2⟩; have D2 := hide b2; have O2 := hide o2; have HN2 := hide o2.len; clear o2 b2)
              | (go_at_call 39; refine (Greatest_any A n c xs _ ((HX.out.below D1.out (Nat.le_refl _)).below D2.out (Nat.le_refl _))).mono ?_; rw [HEG.out, HTG.out]; rintro e w3 ⟨rfl, b3⟩; have D3 := hide b3; clear b3)
              | (go_at_call 27; refine (Can_any A n c xs (k : Int) _ (((HX.out.below D1.out (Nat.le_refl _)).below D2.out (Nat.le_refl _)).below D3.out (Nat.le_refl _))).mono ?_; rw [HEA.out, HCA.out]; rintro e w4 ⟨rfl, b4⟩; have D4 := hide b4; clear b4)
              | (go_at_call 41; refine (Has_any A2 n2 c2 (gapsV xs) (k : Int) _ ((O2.out.row.below D3.out (Nat.le_refl _)).below D4.out (Nat.le_refl _))).mono ?_; rw [HHS.out]; rintro e w' ⟨rfl, rfl⟩)
              | (go_at_call 20; refine (sane_any _).mono ?_; rintro e w5 ⟨rfl, b5⟩; have D5 := hide b5; clear b5))
            go_ret
            exact ⟨ret_bool (by simp), (le_call (le_call (le_call (le_call D1.out D2.out) D3.out) D4.out) D5.out)⟩
          · have hle' : T < (k : Int) := by omega
            have hled : decide ((k : Int) ≤ T) = false := by simpa using hle
            go_enter Try.func10, Try.ntmps10
            go_wp2_with (first
              | (go_at_call 19; refine (Long1_any A n c w hm9).mono ?_; rintro e w1 ⟨rfl, b1⟩; have D1 := hide b1; clear b1; rw [HLn.out])
              | (go_at_call 37; refine (Gaps_any A n c xs _ (HX.out.below D1.out (Nat.le_refl _))).mono ?_; rw [HEG.out]; rintro e w2 ⟨A2, n2, c2, rfl, o2, b2⟩; have D2 := hide b2; have O2 := hide o2; have HN2 := hide o2.len; clear o2 b2)
              | (go_at_call 39; refine (Greatest_any A n c xs _ ((HX.out.below D1.out (Nat.le_refl _)).below D2.out (Nat.le_refl _))).mono ?_; rw [HEG.out, HTG.out]; rintro e w3 ⟨rfl, b3⟩; have D3 := hide b3; clear b3)
              | (go_at_call 27; refine (Can_any A n c xs (k : Int) _ (((HX.out.below D1.out (Nat.le_refl _)).below D2.out (Nat.le_refl _)).below D3.out (Nat.le_refl _))).mono ?_; rw [HEA.out, HCA.out]; rintro e w4 ⟨rfl, b4⟩; have D4 := hide b4; clear b4)
              | (go_at_call 41; refine (Has_any A2 n2 c2 (gapsV xs) (k : Int) _ ((O2.out.row.below D3.out (Nat.le_refl _)).below D4.out (Nat.le_refl _))).mono ?_; rw [HHS.out]; rintro e w' ⟨rfl, rfl⟩)
              | (go_at_call 20; refine (sane_any _).mono ?_; rintro e w5 ⟨rfl, b5⟩; have D5 := hide b5; clear b5))
            go_ret
            exact ⟨ret_bool (by simp), (le_call (le_call (le_call (le_call D1.out D2.out) D3.out) D4.out) D5.out)⟩
        | false =>
          have HCA := hide (hCA.trans hmu)
          have HHS := hide (show hasB (gapsV xs) (k : Int) = true from by unfold hasB; rw [hga, hmu]; rfl)
          have hle : (k : Int) ≤ topV xs := by
            rcases Int.lt_or_le (topV xs) (k : Int) with h | h
            · rw [hab h] at hmu; cases hmu
            · exact h
          clear hga hCA hmu hab he hV hg1 hw
          generalize topV xs = T at *
          go_enter Try.func10, Try.ntmps10
          go_wp2_with (first
            | (go_at_call 19; refine (Long1_any A n c w hm9).mono ?_; rintro e w1 ⟨rfl, b1⟩; have D1 := hide b1; clear b1; rw [HLn.out])
            | (go_at_call 37; refine (Gaps_any A n c xs _ (HX.out.below D1.out (Nat.le_refl _))).mono ?_; rw [HEG.out]; rintro e w2 ⟨A2, n2, c2, rfl, o2, b2⟩; have D2 := hide b2; have O2 := hide o2; have HN2 := hide o2.len; clear o2 b2)
            | (go_at_call 39; refine (Greatest_any A n c xs _ ((HX.out.below D1.out (Nat.le_refl _)).below D2.out (Nat.le_refl _))).mono ?_; rw [HEG.out, HTG.out]; rintro e w3 ⟨rfl, b3⟩; have D3 := hide b3; clear b3)
            | (go_at_call 27; refine (Can_any A n c xs (k : Int) _ (((HX.out.below D1.out (Nat.le_refl _)).below D2.out (Nat.le_refl _)).below D3.out (Nat.le_refl _))).mono ?_; rw [HEA.out, HCA.out]; rintro e w4 ⟨rfl, b4⟩; have D4 := hide b4; clear b4)
            | (go_at_call 41; refine (Has_any A2 n2 c2 (gapsV xs) (k : Int) _ ((O2.out.row.below D3.out (Nat.le_refl _)).below D4.out (Nat.le_refl _))).mono ?_; rw [HHS.out]; rintro e w' ⟨rfl, rfl⟩)
            | (go_at_call 20; refine (sane_any _).mono ?_; rintro e w5 ⟨rfl, b5⟩; have D5 := hide b5; clear b5))
          go_ret
          exact ⟨ret_bool (by simp), (le_call (le_call (le_call (le_call D1.out D2.out) D3.out) D4.out) D5.out)⟩
      · have hne : (errA xs v0 != 0) = true := by simpa using ha
        have hne2 : ¬ errA xs v0 = 0 := ha
        clear ha he
        go_enter Try.func10, Try.ntmps10
        go_wp2_with (first
          | (go_at_call 19; refine (Long1_any A n c w hm9).mono ?_; rintro e w1 ⟨rfl, b1⟩; have D1 := hide b1; clear b1; rw [HLn.out])
          | (go_at_call 37; refine (Gaps_any A n c xs _ (HX.out.below D1.out (Nat.le_refl _))).mono ?_; rw [HEG.out]; rintro e w2 ⟨A2, n2, c2, rfl, o2, b2⟩; have D2 := hide b2; have O2 := hide o2; have HN2 := hide o2.len; clear o2 b2)
          | (go_at_call 39; refine (Greatest_any A n c xs _ ((HX.out.below D1.out (Nat.le_refl _)).below D2.out (Nat.le_refl _))).mono ?_; rw [HEG.out]; rintro e w3 ⟨rfl, b3⟩; have D3 := hide b3; clear b3)
          | (go_at_call 27; refine (Can_any A n c xs v0 _ (((HX.out.below D1.out (Nat.le_refl _)).below D2.out (Nat.le_refl _)).below D3.out (Nat.le_refl _))).mono ?_; rintro e w4 ⟨rfl, b4⟩; have D4 := hide b4; clear b4)
          | (go_at_call 20; refine (sane_any _).mono ?_; rintro e w5 ⟨rfl, b5⟩; have D5 := hide b5; clear b5))
        go_ret
        exact ⟨ret_bool (by simp), (le_call (le_call (le_call (le_call D1.out D2.out) D3.out) D4.out) D5.out)⟩
    · have hne : (errG xs != 0) = true := by simpa using he
      clear he
      go_enter Try.func10, Try.ntmps10
      go_wp2_with (first
        | (go_at_call 19; refine (Long1_any A n c w hm9).mono ?_; rintro e w1 ⟨rfl, b1⟩; have D1 := hide b1; clear b1; rw [HLn.out])
        | (go_at_call 37; refine (Gaps_any A n c xs _ (HX.out.below D1.out (Nat.le_refl _))).mono ?_; rintro e w2 ⟨A2, n2, c2, rfl, o2, b2⟩; have D2 := hide b2; have O2 := hide o2; have HN2 := hide o2.len; clear o2 b2)
        | (go_at_call 39; refine (Greatest_any A n c xs _ ((HX.out.below D1.out (Nat.le_refl _)).below D2.out (Nat.le_refl _))).mono ?_; rintro e w3 ⟨rfl, b3⟩; have D3 := hide b3; clear b3)
        | (go_at_call 27; refine (Can_any A n c xs v0 _ (((HX.out.below D1.out (Nat.le_refl _)).below D2.out (Nat.le_refl _)).below D3.out (Nat.le_refl _))).mono ?_; rintro e w4 ⟨rfl, b4⟩; have D4 := hide b4; clear b4)
        | (go_at_call 20; refine (sane_any _).mono ?_; rintro e w5 ⟨rfl, b5⟩; have D5 := hide b5; clear b5))
      go_ret
      exact ⟨ret_bool (by simp), (le_call (le_call (le_call (le_call D1.out D2.out) D3.out) D4.out) D5.out)⟩
end Go.Proofs.Ytlhlcchimammlaa
