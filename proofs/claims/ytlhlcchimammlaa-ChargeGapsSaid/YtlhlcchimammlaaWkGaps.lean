/- ChargeGaps: the walk. -/
import Derived.Test.YtlhlcchimammlaaSane
namespace Go.Proofs.Ytlhlcchimammlaa
open Go.RowKit Go.Shelf

theorem mul900 {a b : Int} (ha : 1 ≤ a ∧ a ≤ 30) (hb : 1 ≤ b ∧ b ≤ 30) : 1 ≤ a * b ∧ a * b ≤ 900 := by
  have h1 := Int.mul_le_mul ha.2 hb.2 (by omega) (by omega)
  have h2 := Int.mul_le_mul ha.1 hb.1 (by omega) (by omega)
  omega
set_option maxRecDepth 100000 in
set_option maxHeartbeats 4000000 in
theorem ChargeGaps_walk (A : Option Addr) (n c : Nat) (xs : List Int)  (w : World) (h : R E1 w A n c xs) :
    Calls Try.prog 9 #[.slice A n c] w fun e w' => e = .returned (.bool true) ∧ Below w.heap.size w w' := by
  have HX := hide h
  have HL := hide h.length
  have hm9 := h.le
  by_cases hn : 50 < n
  · have HLn := hide (show decide (50 < n) = true from by simpa using hn)
    clear h
    go_enter Try.func9, Try.ntmps9
    go_wp2_with (first
      | (go_at_call 19; refine (Long1_any A n c w hm9).mono ?_; rintro e w1 ⟨rfl, b1⟩; have D1 := hide b1; clear b1; rw [HLn.out])
      | (go_at_call 20; refine (sane_any _).mono ?_; rintro e w2 ⟨rfl, b2⟩; have D2 := hide b2; clear b2))
    go_ret
    exact ⟨rfl, (le_call D1.out D2.out)⟩
  · have HLn := hide (show decide (50 < n) = false from by simpa using hn)
    have HGL := hide (gapsV_len xs)
    by_cases he : errG xs = 0
    · have HEG := hide he
      by_cases h2 : n = 2
      · subst h2
        obtain ⟨hV, hg1⟩ := errG_ok.1 he
        have hT := topG_ok he
        have hGV := gapsV_ok he
        obtain ⟨a, b, rfl⟩ : ∃ a b, xs = [a, b] := by
          have := h.length
          match xs, this with
          | [a, b], _ => exact ⟨a, b, rfl⟩
        have ha := hV.wt a (by simp)
        have hb := hV.wt b (by simp)
        have HTG := hide (show topG [a, b] = a * b - a - b from by rw [hT]; exact two_top ha.1 hb.1 ha.2 hb.2 hg1)
        have hG2 := two_gaps ha.1 hb.1 ha.2 hb.2 hg1
        rw [← hGV] at hG2
        have HG2 := hide hG2
        have hm := mul900 ha hb
        have hp := mul900 (a := a) (b := b) ha hb
        obtain ⟨bb, off, hr⟩ := h
        obtain rfl := hr.at_ (by omega)
        have HRR := hide hr
        clear he hT hGV hG2 hV hg1 hr
        go_enter Try.func9, Try.ntmps9
        go_wp2_with (first
          | (go_at_call 19; refine (Long1_any _ 2 c w hm9).mono ?_; rintro e w1 ⟨rfl, b1⟩; have D1 := hide b1; clear b1; rw [HLn.out])
          | (go_at_call 37; refine (Gaps_any _ 2 c [a, b] _ (HX.out.below D1.out (Nat.le_refl _))).mono ?_; rw [HEG.out]; rintro e w2 ⟨A2, n2, c2, rfl, o2, b2⟩; have D2 := hide b2; have O2 := hide o2; have HN2 := hide o2.len; clear o2 b2)
          | (go_at_call 38; refine (rGaps_any _ 2 c [a, b] _ ((HX.out.below D1.out (Nat.le_refl _)).below D2.out (Nat.le_refl _))).mono ?_; rw [HEG.out]; rintro e w3 ⟨A3, n3, c3, rfl, o3, b3⟩; have D3 := hide b3; have O3 := hide o3; have HN3 := hide o3.len; clear o3 b3)
          | (go_at_call 39; refine (Greatest_any _ 2 c [a, b] _ (((HX.out.below D1.out (Nat.le_refl _)).below D2.out (Nat.le_refl _)).below D3.out (Nat.le_refl _))).mono ?_; rw [HEG.out, HTG.out]; rintro e w4 ⟨rfl, b4⟩; have D4 := hide b4; clear b4)
          | (go_at_call 40; refine (rGreatest_any _ 2 c [a, b] _ ((((HX.out.below D1.out (Nat.le_refl _)).below D2.out (Nat.le_refl _)).below D3.out (Nat.le_refl _)).below D4.out (Nat.le_refl _))).mono ?_; rw [HEG.out, HTG.out]; rintro e w5 ⟨rfl, b5⟩; have D5 := hide b5; clear b5)
          | (go_at_call 36; refine (SameInts_any A2 n2 c2 A3 n3 c3 (gapsV [a, b]) (gapsV [a, b]) _ (((O2.out.row.below D3.out (Nat.le_refl _)).below D4.out (Nat.le_refl _)).below D5.out (Nat.le_refl _)) ((O3.out.row.below D4.out (Nat.le_refl _)).below D5.out (Nat.le_refl _)) (by have h1 := HN2.out; have h2 := HGL.out; omega) (by have h1 := HN3.out; have h2 := HGL.out; omega)).mono ?_; rintro e w6 ⟨rfl, q6, hw6⟩; have D6 := hide (show Below w5.heap.size w5 w6 from by rw [hw6]; exact below_drewN (Below.refl _ _) q6); clear hw6; rw [beq_self_eq_true]))
        have HT := hide ((le_call (le_call (le_call (le_call (le_call D1.out D2.out) D3.out) D4.out) D5.out) D6.out))
        have hq : (2 : Int) * (n2 : Int) = (a - 1) * (b - 1) := by rw [← HG2.out, HN2.out]
        have a0 : w6.cell? ⟨bb, off, none⟩ = some (.int .i64 a) := c1 (k := 0) (HRR.out.below HT.out (Nat.le_refl _)) (by omega)
        have a1 : w6.cell? ⟨bb, off + 1, none⟩ = some (.int .i64 b) := c1 (k := 1) (HRR.out.below HT.out (Nat.le_refl _)) (by omega)
        have d0 : World.cell? { heap := w6.heap, tape := w6.tape, drawn := w6.drawn + 1, os := w6.os, output := w6.output } ⟨bb, off, none⟩ = some (.int .i64 a) := a0
        have d1 : World.cell? { heap := w6.heap, tape := w6.tape, drawn := w6.drawn + 1, os := w6.os, output := w6.output } ⟨bb, off + 1, none⟩ = some (.int .i64 b) := a1
        have n2b : n2 ≤ 901 := by have h1 := HN2.out; have h2 := HGL.out; omega
        have hmp : 0 ≤ (a - 1) * (b - 1) ∧ (a - 1) * (b - 1) ≤ 1802 := by rw [← hq]; omega
        have v1 : IntKind.i64.wrap (a * b) = a * b := IntWalk.i64_in _ (by omega)
        have v2 : IntKind.i64.wrap (a * b - a) = a * b - a := IntWalk.i64_in _ (by omega)
        have v3 : IntKind.i64.wrap (a * b - a - b) = a * b - a - b := IntWalk.i64_in _ (by omega)
        have v4 : IntKind.i64.wrap (2 * (n2 : Int)) = 2 * (n2 : Int) := IntWalk.i64_in _ (by omega)
        have v5 : IntKind.i64.wrap (a - 1) = a - 1 := IntWalk.i64_in _ (by omega)
        have v6 : IntKind.i64.wrap (b - 1) = b - 1 := IntWalk.i64_in _ (by omega)
        have v7 : IntKind.i64.wrap ((a - 1) * (b - 1)) = (a - 1) * (b - 1) := IntWalk.i64_in _ (by omega)
        have v8 : (a * b - a - b == a * b - a - b) = true := by simp
        have v9 : (2 * (n2 : Int) == (a - 1) * (b - 1)) = true := by rw [hq]; simp
        clear hq hmp hm hp
        go_still_tail 33, (by kernel_rfl)
        clear d0 d1
        change wpList _ _ _ _ _ w6.drew
        have D6d := hide ((Below.refl w6.heap.size w6).drew)
        clear a0 a1 v1 v2 v3 v4 v5 v6 v7 v8 v9
        generalize w6.drew = w6d at D6d ⊢
        go_wp2_with (go_at_call 20; refine (sane_any _).mono ?_; rintro e w7 ⟨rfl, b7⟩; have D7 := hide b7; clear b7)
        go_ret
        exact ⟨ret_bool (by simp), le_call (le_call HT.out D6d.out) D7.out⟩
      · have hne : ((n : Int) != 2) = true := by simp; omega
        clear he h
        go_enter Try.func9, Try.ntmps9
        go_wp2_with (first
          | (go_at_call 19; refine (Long1_any A n c w hm9).mono ?_; rintro e w1 ⟨rfl, b1⟩; have D1 := hide b1; clear b1; rw [HLn.out])
          | (go_at_call 37; refine (Gaps_any A n c xs _ (HX.out.below D1.out (Nat.le_refl _))).mono ?_; rw [HEG.out]; rintro e w2 ⟨A2, n2, c2, rfl, o2, b2⟩; have D2 := hide b2; have O2 := hide o2; have HN2 := hide o2.len; clear o2 b2)
          | (go_at_call 38; refine (rGaps_any A n c xs _ ((HX.out.below D1.out (Nat.le_refl _)).below D2.out (Nat.le_refl _))).mono ?_; rw [HEG.out]; rintro e w3 ⟨A3, n3, c3, rfl, o3, b3⟩; have D3 := hide b3; have O3 := hide o3; have HN3 := hide o3.len; clear o3 b3)
          | (go_at_call 39; refine (Greatest_any A n c xs _ (((HX.out.below D1.out (Nat.le_refl _)).below D2.out (Nat.le_refl _)).below D3.out (Nat.le_refl _))).mono ?_; rw [HEG.out]; rintro e w4 ⟨rfl, b4⟩; have D4 := hide b4; clear b4)
          | (go_at_call 40; refine (rGreatest_any A n c xs _ ((((HX.out.below D1.out (Nat.le_refl _)).below D2.out (Nat.le_refl _)).below D3.out (Nat.le_refl _)).below D4.out (Nat.le_refl _))).mono ?_; rw [HEG.out]; rintro e w5 ⟨rfl, b5⟩; have D5 := hide b5; clear b5)
          | (go_at_call 36; refine (SameInts_any A2 n2 c2 A3 n3 c3 (gapsV xs) (gapsV xs) _ (((O2.out.row.below D3.out (Nat.le_refl _)).below D4.out (Nat.le_refl _)).below D5.out (Nat.le_refl _)) ((O3.out.row.below D4.out (Nat.le_refl _)).below D5.out (Nat.le_refl _)) (by have h1 := HN2.out; have h2 := HGL.out; omega) (by have h1 := HN3.out; have h2 := HGL.out; omega)).mono ?_; rintro e w6 ⟨rfl, q6, hw6⟩; have D6 := hide (show Below w5.heap.size w5 w6 from by rw [hw6]; exact below_drewN (Below.refl _ _) q6); clear hw6; rw [beq_self_eq_true])
          | (go_at_call 20; refine (sane_any _).mono ?_; rintro e w7 ⟨rfl, b7⟩; have D7 := hide b7; clear b7))
        go_ret
        exact ⟨ret_bool (by simp), (le_call (le_call (le_call (le_call (le_call (le_call D1.out D2.out) D3.out) D4.out) D5.out) D6.out) D7.out)⟩
    · have hne : (errG xs != 0) = true := by simpa using he
      clear he h
      go_enter Try.func9, Try.ntmps9
      go_wp2_with (first
        | (go_at_call 19; refine (Long1_any A n c w hm9).mono ?_; rintro e w1 ⟨rfl, b1⟩; have D1 := hide b1; clear b1; rw [HLn.out])
        | (go_at_call 37; refine (Gaps_any A n c xs _ (HX.out.below D1.out (Nat.le_refl _))).mono ?_; rintro e w2 ⟨A2, n2, c2, rfl, o2, b2⟩; have D2 := hide b2; have O2 := hide o2; have HN2 := hide o2.len; clear o2 b2)
        | (go_at_call 38; refine (rGaps_any A n c xs _ ((HX.out.below D1.out (Nat.le_refl _)).below D2.out (Nat.le_refl _))).mono ?_; rintro e w3 ⟨A3, n3, c3, rfl, o3, b3⟩; have D3 := hide b3; have O3 := hide o3; have HN3 := hide o3.len; clear o3 b3)
        | (go_at_call 39; refine (Greatest_any A n c xs _ (((HX.out.below D1.out (Nat.le_refl _)).below D2.out (Nat.le_refl _)).below D3.out (Nat.le_refl _))).mono ?_; rintro e w4 ⟨rfl, b4⟩; have D4 := hide b4; clear b4)
        | (go_at_call 40; refine (rGreatest_any A n c xs _ ((((HX.out.below D1.out (Nat.le_refl _)).below D2.out (Nat.le_refl _)).below D3.out (Nat.le_refl _)).below D4.out (Nat.le_refl _))).mono ?_; rintro e w5 ⟨rfl, b5⟩; have D5 := hide b5; clear b5)
        | (go_at_call 36; refine (SameInts_any A2 n2 c2 A3 n3 c3 (gapsV xs) (gapsV xs) _ (((O2.out.row.below D3.out (Nat.le_refl _)).below D4.out (Nat.le_refl _)).below D5.out (Nat.le_refl _)) ((O3.out.row.below D4.out (Nat.le_refl _)).below D5.out (Nat.le_refl _)) (by have h1 := HN2.out; have h2 := HGL.out; omega) (by have h1 := HN3.out; have h2 := HGL.out; omega)).mono ?_; rintro e w6 ⟨rfl, q6, hw6⟩; have D6 := hide (show Below w5.heap.size w5 w6 from by rw [hw6]; exact below_drewN (Below.refl _ _) q6); clear hw6; rw [beq_self_eq_true])
        | (go_at_call 20; refine (sane_any _).mono ?_; rintro e w7 ⟨rfl, b7⟩; have D7 := hide b7; clear b7))
      go_ret
      exact ⟨ret_bool (by simp), (le_call (le_call (le_call (le_call (le_call (le_call D1.out D2.out) D3.out) D4.out) D5.out) D6.out) D7.out)⟩
end Go.Proofs.Ytlhlcchimammlaa
