/- ChargeEven: the walk. -/
import Derived.Test.YtlhlcchimammlaaSane
import Derived.Test.YtlhlcchimammlaaWalkQ
namespace Go.Proofs.Ytlhlcchimammlaa
open Go.RowKit Go.Shelf

theorem even_two {a b : Int} (ha : 1 ≤ a) (hb : 1 ≤ b) (ha30 : a ≤ 30) (hb30 : b ≤ 30) (hg : gcdL [a, b] = 1) : evB [a, b] (topV [a, b]) = true := by
  rw [two_top ha hb ha30 hb30 hg]
  unfold evB
  rw [List.all_eq_true]
  intro x hx
  have hx := List.mem_range.1 hx
  rw [two_flip ha hb ha30 hb30 hg (n := x) (m := (a * b - a - b).toNat - x) (by omega)]
  simp
set_option maxRecDepth 100000 in
set_option maxHeartbeats 4000000 in
theorem ChargeEven_walk (A : Option Addr) (n c : Nat) (xs : List Int)  (w : World) (h : R E1 w A n c xs) :
    Calls Try.prog 13 #[.slice A n c] w fun e w' => e = .returned (.bool true) ∧ Below w.heap.size w w' := by
  have HX := hide h
  have HL := hide h.length
  have hm9 := h.le
  by_cases hn : 50 < n
  · have HLn := hide (show decide (50 < n) = true from by simpa using hn)
    clear h
    go_enter Try.func13, Try.ntmps13
    go_wp2_with (first
      | (go_at_call 19; refine (Long1_any A n c w hm9).mono ?_; rintro e w1 ⟨rfl, b1⟩; have D1 := hide b1; clear b1; rw [HLn.out])
      | (go_at_call 20; refine (sane_any _).mono ?_; rintro e w2 ⟨rfl, b2⟩; have D2 := hide b2; clear b2))
    go_ret
    exact ⟨rfl, (le_call D1.out D2.out)⟩
  · have HLn := hide (show decide (50 < n) = false from by simpa using hn)
    by_cases he : errG xs = 0
    · have HEG := hide he
      by_cases h2 : n = 2
      · have HEV := hide (show eveV xs = true from by
          obtain ⟨hV, hg1⟩ := errG_ok.1 he
          rw [eveV_ok he]
          have hl := h.length
          rw [h2] at hl
          match xs, hl, hV, hg1 with
          | [a, b], _, hV, hg1 =>
            have ha := hV.wt a (by simp)
            have hb := hV.wt b (by simp)
            exact even_two ha.1 hb.1 ha.2 hb.2 hg1)
        subst h2
        clear he h
        go_enter Try.func13, Try.ntmps13
        go_wp2_with (first
          | (go_at_call 19; refine (Long1_any A 2 c w hm9).mono ?_; rintro e w1 ⟨rfl, b1⟩; have D1 := hide b1; clear b1; rw [HLn.out])
          | (go_at_call 44; refine (IsEven_any A 2 c xs _ (HX.out.below D1.out (Nat.le_refl _))).mono ?_; rw [HEG.out, HEV.out]; rintro e w2 ⟨rfl, b2⟩; have D2 := hide b2; clear b2)
          | (go_at_call 45; refine (rIsEven_any A 2 c xs _ ((HX.out.below D1.out (Nat.le_refl _)).below D2.out (Nat.le_refl _))).mono ?_; rw [HEG.out, HEV.out]; rintro e w3 ⟨rfl, b3⟩; have D3 := hide b3; clear b3)
          | (go_at_call 20; refine (sane_any _).mono ?_; rintro e w4 ⟨rfl, b4⟩; have D4 := hide b4; clear b4))
        go_ret
        exact ⟨ret_bool (by simp), (le_call (le_call (le_call D1.out D2.out) D3.out) D4.out)⟩
      · have hne : ((n : Int) != 2) = true := by simp; omega
        clear he h
        go_enter Try.func13, Try.ntmps13
        go_wp2_with (first
          | (go_at_call 19; refine (Long1_any A n c w hm9).mono ?_; rintro e w1 ⟨rfl, b1⟩; have D1 := hide b1; clear b1; rw [HLn.out])
          | (go_at_call 44; refine (IsEven_any A n c xs _ (HX.out.below D1.out (Nat.le_refl _))).mono ?_; rw [HEG.out]; rintro e w2 ⟨rfl, b2⟩; have D2 := hide b2; clear b2)
          | (go_at_call 45; refine (rIsEven_any A n c xs _ ((HX.out.below D1.out (Nat.le_refl _)).below D2.out (Nat.le_refl _))).mono ?_; rw [HEG.out]; rintro e w3 ⟨rfl, b3⟩; have D3 := hide b3; clear b3)
          | (go_at_call 20; refine (sane_any _).mono ?_; rintro e w4 ⟨rfl, b4⟩; have D4 := hide b4; clear b4))
        go_ret
        exact ⟨ret_bool (by simp), (le_call (le_call (le_call D1.out D2.out) D3.out) D4.out)⟩
    · have hne : (errG xs != 0) = true := by simpa using he
      clear he h
      go_enter Try.func13, Try.ntmps13
      go_wp2_with (first
        | (go_at_call 19; refine (Long1_any A n c w hm9).mono ?_; rintro e w1 ⟨rfl, b1⟩; have D1 := hide b1; clear b1; rw [HLn.out])
        | (go_at_call 44; refine (IsEven_any A n c xs _ (HX.out.below D1.out (Nat.le_refl _))).mono ?_; rintro e w2 ⟨rfl, b2⟩; have D2 := hide b2; clear b2)
        | (go_at_call 45; refine (rIsEven_any A n c xs _ ((HX.out.below D1.out (Nat.le_refl _)).below D2.out (Nat.le_refl _))).mono ?_; rintro e w3 ⟨rfl, b3⟩; have D3 := hide b3; clear b3)
        | (go_at_call 20; refine (sane_any _).mono ?_; rintro e w4 ⟨rfl, b4⟩; have D4 := hide b4; clear b4))
      go_ret
      exact ⟨ret_bool (by simp), (le_call (le_call (le_call D1.out D2.out) D3.out) D4.out)⟩
end Go.Proofs.Ytlhlcchimammlaa
