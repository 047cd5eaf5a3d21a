/- LogPairs: the walk. -/
import Derived.Test.YtndfdminjegldaaKnown
import Derived.Test.YtndfdminjegldaaWalkT
import Derived.Deep.RegionHeld3
namespace Go.Proofs.Ytndfdminjegldaa
open Go.RowKit Go.Shelf
attribute [local go_sem] Oper.semAt_some

set_option maxRecDepth 100000 in
set_option maxHeartbeats 8000000 in
theorem LogPairs_walk (A : Option Addr) (n c : Nat) (xs : List Int) (A' : Option Addr) (n' c' : Nat) (ys : List Int) (o i h : Int) (Ap : Option Addr) (np cp : Nat) (ps : List Pr) (w : World) (hx : R E1 w A n c xs) (hy : R E1 w A' n' c' ys) (hp : R EP w Ap np cp ps) :
    Calls Try.prog 3 #[tV A n c A' n' c' o i h, .slice Ap np cp] w fun e w' => e = .returned (.bool true) ∧ Below w.heap.size w w' := by
  have D0 := hide ((Below.refl w.heap.size w).alloc (Nat.le_refl _) (.cells #[.slice A n c, .slice A' n' c', .int .i64 o, .int .i64 i, .int .i64 h] 26))
  have HBK := hide (Bk.born w 26 #[.slice A n c, .slice A' n' c', .int .i64 o, .int .i64 i, .int .i64 h])
  have HX := hide (hx.below D0.out (Nat.le_refl _))
  have HY := hide (hy.below D0.out (Nat.le_refl _))
  have hbz : w.heap.size < (w.alloc (.cells #[.slice A n c, .slice A' n' c', .int .i64 o, .int .i64 i, .int .i64 h] 26)).heap.size := by simp
  have hle := hx.le
  have hle' := hy.le
  have HP := hide (hp.below D0.out (Nat.le_refl _))
  have hlp : np ≤ 9223372036854775807 := hp.le
  clear hx hy hp
  cases hlg : (decide (100 < n) || decide (100 < n')) with
  | true =>
    have HLG := hide hlg
    clear hlg
    go_enter Try.func3, Try.ntmps3
    go_wp2_with (first
      | (have hgd := D1; clear hgd; go_at_call 19; refine (known_any _).mono ?_; rintro e2 w2 ⟨rfl, b2⟩; have D2 := hide b2; clear b2; obtain ⟨f20, f21, f22, f23, f24⟩ := two_cells HBK.out (show Below _ _ w2 from (le_call D1.out D2.out)) hbz)
      | (have hgd := D0; clear hgd; go_at_call 18; refine (Long_any A n c A' n' c' o i h _ hle hle').mono ?_; rintro e1 w1 ⟨rfl, b1⟩; rw [HLG.out]; have D1 := hide b1; clear b1; obtain ⟨f10, f11, f12, f13, f14⟩ := two_cells HBK.out (show Below _ _ w1 from D1.out) hbz))
    go_ret
    exact ⟨ret_bool (by simp), (le_call (le_call D0.out D1.out) D2.out)⟩
  | false =>
    have HLG := hide hlg
    clear hlg
    by_cases hnp : 100 < np
    · have hnp2 : (100 : Int) < (np : Int) := by omega
      go_enter Try.func3, Try.ntmps3
      go_wp2_with (first
        | (have hgd := D1; clear hgd; go_at_call 19; refine (known_any _).mono ?_; rintro e2 w2 ⟨rfl, b2⟩; have D2 := hide b2; clear b2; obtain ⟨f20, f21, f22, f23, f24⟩ := two_cells HBK.out (show Below _ _ w2 from (le_call D1.out D2.out)) hbz)
        | (have hgd := D0; clear hgd; go_at_call 18; refine (Long_any A n c A' n' c' o i h _ hle hle').mono ?_; rintro e1 w1 ⟨rfl, b1⟩; rw [HLG.out]; have D1 := hide b1; clear b1; obtain ⟨f10, f11, f12, f13, f14⟩ := two_cells HBK.out (show Below _ _ w1 from D1.out) hbz))
      go_ret
      exact ⟨ret_bool (by simp), (le_call (le_call D0.out D1.out) D2.out)⟩
    · have hnp2 : (np : Int) ≤ 100 := by omega
      go_enter Try.func3, Try.ntmps3
      go_wp2_with (first
        | (have hgd := D2; clear hgd; go_at_call 21; refine (rCheckPairs_any A n c xs A' n' c' ys o i h Ap np cp ps _ ((HX.out.below D1.out (Nat.le_refl _)).below D2.out (Nat.le_refl _)) ((HY.out.below D1.out (Nat.le_refl _)).below D2.out (Nat.le_refl _)) ((HP.out.below D1.out (Nat.le_refl _)).below D2.out (Nat.le_refl _))).mono ?_; rintro e3 w3 ⟨rfl, b3⟩; have D3 := hide b3; clear b3; obtain ⟨f30, f31, f32, f33, f34⟩ := two_cells HBK.out (show Below _ _ w3 from (le_call (le_call D1.out D2.out) D3.out)) hbz)
        | (have hgd := D1; clear hgd; go_at_call 20; refine (CheckPairs_any A n c xs A' n' c' ys o i h Ap np cp ps _ (HX.out.below D1.out (Nat.le_refl _)) (HY.out.below D1.out (Nat.le_refl _)) (HP.out.below D1.out (Nat.le_refl _))).mono ?_; rintro e2 w2 ⟨rfl, b2⟩; have D2 := hide b2; clear b2; obtain ⟨f20, f21, f22, f23, f24⟩ := two_cells HBK.out (show Below _ _ w2 from (le_call D1.out D2.out)) hbz)
        | (have hgd := D0; clear hgd; go_at_call 18; refine (Long_any A n c A' n' c' o i h _ hle hle').mono ?_; rintro e1 w1 ⟨rfl, b1⟩; rw [HLG.out]; have D1 := hide b1; clear b1; obtain ⟨f10, f11, f12, f13, f14⟩ := two_cells HBK.out (show Below _ _ w1 from D1.out) hbz))
      have HB3 := hide (show Below _ _ w3 from (le_call (le_call D1.out D2.out) D3.out))
      have HX3 := hide (show R E1 w3.drew A n c xs from (((HX.out.below D1.out (Nat.le_refl _)).below D2.out (Nat.le_refl _)).below D3.out (Nat.le_refl _)).drewN 1)
      have HBK3 := hide (HBK.out.keep HB3.out hbz)
      have hz3 : w.heap.size < w3.drew.heap.size := Nat.lt_of_lt_of_le hbz HB3.out.size
      have TW := hide (le_call (le_call (le_call D0.out D1.out) D2.out) D3.out)
      go_region_held3 (fun w' => w'.cell? ⟨w.heap.size, 0, none⟩ = some (.slice A n c) ∧ w'.cell? ⟨w.heap.size, 1, none⟩ = some (.slice A' n' c') ∧ w'.cell? ⟨w.heap.size, 2, none⟩ = some (.int .i64 o) ∧ w'.cell? ⟨w.heap.size, 3, none⟩ = some (.int .i64 i) ∧ w'.cell? ⟨w.heap.size, 4, none⟩ = some (.int .i64 h))
        (first
          | exact two_cells HBK3.out D6.out hz3
          | exact two_cells HBK3.out D5.out hz3
          | exact two_cells HBK3.out D4.out hz3
          | go_keep)
        (first
          | (go_at_call 22; refine (Validate_any A n c xs w3.drew HX3.out).mono ?_; rintro e4 w4 ⟨rfl, rfl⟩)
          | (go_at_call 23; refine (rValidate_any A n c xs w3.drew HX3.out).mono ?_; rintro e4 w4 ⟨rfl, rfl⟩)
          | (go_at_call 24; refine (ValidateCosts_any o i h _).mono ?_; rintro e4 w4 ⟨rfl, b4⟩; have D4 := hide (show Below w3.heap.size w3 w4 from below_undrew b4); clear b4)
          | (go_at_call 25; refine (rValidateCosts_any o i h w4).mono ?_; rintro e5 w5 ⟨rfl, b5⟩; have D5 := hide (show Below w3.heap.size w3 w5 from le_call D4.out b5); clear b5)
          | (go_at_call 19; refine (known_any w5).mono ?_; rintro e6 w6 ⟨rfl, b6⟩; have D6 := hide (show Below w3.heap.size w3 w6 from le_call D5.out b6); clear b6))
      all_goals
        go_wp2_with fail
        go_ret
        exact ⟨ret_bool (by simp), le_call TW.out D6.out⟩
end Go.Proofs.Ytndfdminjegldaa
