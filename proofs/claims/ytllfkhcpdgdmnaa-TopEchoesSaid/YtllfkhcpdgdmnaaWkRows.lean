/- EchoRows: the walk. -/
import Derived.Test.YtllfkhcpdgdmnaaLift
namespace Go.Proofs.Ytllfkhcpdgdmnaa
open Go.RowKit

theorem delV_len (xs : List Int) : (delV xs).length ≤ 36 := by
  by_cases h : errC xs = 0
  · rw [delV_ok h, sortZ_len]
    exact dif_len (errC_ok.1 h).2.1
  · rw [delV_no h]
    simp
theorem R.le {α : Type} {E : Enc α} {w : World} {A : Option Addr} {n c : Nat} {xs : List α} (h : R E w A n c xs) : n ≤ 9223372036854775807 := by
  obtain ⟨b, off, hr⟩ := h
  exact Nat.le_trans hr.cap hr.max
set_option maxRecDepth 100000 in
set_option maxHeartbeats 4000000 in
theorem EchoRows_walk (A : Option Addr) (n c : Nat) (xs : List Int) (w : World) (h : R E1 w A n c xs) :
    Calls Try.prog 3 #[.slice A n c] w fun e w' => e = .returned (.bool true) ∧ Below w.heap.size w w' := by
  have HX := hide h
  have hm9 := h.le
  clear h
  by_cases hn : 100 < n
  · have HLn := hide (show decide (100 < n) = true from by simpa using hn)
    go_enter Try.func3, Try.ntmps3
    go_wp2_with (first
      | (go_at_call 18; refine (Long1_any A n c w hm9).mono ?_; rintro e w1 ⟨rfl, b1⟩; have D1 := hide b1; clear b1; rw [HLn.out])
      | (go_at_call 19; refine (sane_any _).mono ?_; rintro e w2 ⟨rfl, b2⟩; have D2 := hide b2; clear b2))
    go_ret
    exact ⟨rfl, (le_call D1.out D2.out)⟩
  · have HLn := hide (show decide (100 < n) = false from by simpa using hn)
    go_enter Try.func3, Try.ntmps3
    go_wp2_with (first
      | (go_at_call 18; refine (Long1_any A n c w (by omega)).mono ?_; rintro e w1 ⟨rfl, b1⟩; have D1 := hide b1; clear b1; rw [HLn.out])
      | (go_at_call 20; refine (Delays_any A n c xs _ (HX.out.below D1.out (Nat.le_refl _)) (by omega)).mono ?_; rintro e w2 ⟨A2, n2, c2, rfl, o2, b2⟩; have D2 := hide b2; have O2 := hide o2; have HN2 := hide o2.len; clear o2 b2)
      | (go_at_call 21; refine (rDelays_any A n c xs _ ((HX.out.below D1.out (Nat.le_refl _)).below D2.out (Nat.le_refl _)) (by omega)).mono ?_; rintro e w3 ⟨A3, n3, c3, rfl, o3, b3⟩; have D3 := hide b3; have O3 := hide o3; have HN3 := hide o3.len; clear o3 b3)
      | (go_at_call 22; refine (IsRuler_any A n c xs _ (((HX.out.below D1.out (Nat.le_refl _)).below D2.out (Nat.le_refl _)).below D3.out (Nat.le_refl _)) (by omega)).mono ?_; rintro e w4 ⟨rfl, b4⟩; have D4 := hide b4; clear b4)
      | (go_at_call 23; refine (rIsRuler_any A n c xs _ ((((HX.out.below D1.out (Nat.le_refl _)).below D2.out (Nat.le_refl _)).below D3.out (Nat.le_refl _)).below D4.out (Nat.le_refl _)) (by omega)).mono ?_; rintro e w5 ⟨rfl, b5⟩; have D5 := hide b5; clear b5)
      | (go_at_call 24; refine (Validate_any A n c xs _ (((((HX.out.below D1.out (Nat.le_refl _)).below D2.out (Nat.le_refl _)).below D3.out (Nat.le_refl _)).below D4.out (Nat.le_refl _)).below D5.out (Nat.le_refl _)) (by omega)).mono ?_; rintro e w6 ⟨rfl, b6⟩; have D6 := hide b6; clear b6)
      | (go_at_call 25; refine (rValidate_any A n c xs _ ((((((HX.out.below D1.out (Nat.le_refl _)).below D2.out (Nat.le_refl _)).below D3.out (Nat.le_refl _)).below D4.out (Nat.le_refl _)).below D5.out (Nat.le_refl _)).below D6.out (Nat.le_refl _)) (by omega)).mono ?_; rintro e w7 ⟨rfl, b7⟩; have D7 := hide b7; clear b7)
      | (go_at_call 26; refine (SameInts_any A2 n2 c2 A3 n3 c3 (delV xs) (delV xs) _ (((((O2.out.row.below D3.out (Nat.le_refl _)).below D4.out (Nat.le_refl _)).below D5.out (Nat.le_refl _)).below D6.out (Nat.le_refl _)).below D7.out (Nat.le_refl _)) ((((O3.out.row.below D4.out (Nat.le_refl _)).below D5.out (Nat.le_refl _)).below D6.out (Nat.le_refl _)).below D7.out (Nat.le_refl _)) (by have h1 := HN2.out; have h2 := delV_len xs; omega) (by have h1 := HN3.out; have h2 := delV_len xs; omega)).mono ?_; rintro e w8 ⟨rfl, q8, hw8⟩; have D8 := hide (show Below w7.heap.size w7 w8 from by rw [hw8]; exact below_drewN (Below.refl _ _) q8); clear hw8; rw [beq_self_eq_true])
      | (go_at_call 19; refine (sane_any _).mono ?_; rintro e w9 ⟨rfl, b9⟩; have D9 := hide b9; clear b9))
    go_ret
    exact ⟨ret_bool (by simp), (le_call (le_call (le_call (le_call (le_call (le_call (le_call (le_call D1.out D2.out) D3.out) D4.out) D5.out) D6.out) D7.out) D8.out) D9.out)⟩
end Go.Proofs.Ytllfkhcpdgdmnaa
