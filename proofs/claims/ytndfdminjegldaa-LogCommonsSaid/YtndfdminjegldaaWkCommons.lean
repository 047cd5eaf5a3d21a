/- LogCommons: the walk. -/
import Derived.Test.YtndfdminjegldaaKnown
import Derived.Test.YtndfdminjegldaaWalkM
namespace Go.Proofs.Ytndfdminjegldaa
open Go.RowKit Go.Shelf
attribute [local go_sem] Oper.semAt_some

set_option maxRecDepth 100000 in
set_option maxHeartbeats 8000000 in
theorem LogCommons_walk (A : Option Addr) (n c : Nat) (xs : List Int) (A' : Option Addr) (n' c' : Nat) (ys : List Int) (o i h : Int) (A2 : Option Addr) (n2 c2 : Nat) (zs : List Int) (w : World) (hx : R E1 w A n c xs) (hy : R E1 w A' n' c' ys) (hz : R E1 w A2 n2 c2 zs) :
    Calls Try.prog 10 #[tV A n c A' n' c' o i h, .slice A2 n2 c2] w fun e w' => e = .returned (.bool true) ∧ Below w.heap.size w w' := by
  have D0 := hide ((Below.refl w.heap.size w).alloc (Nat.le_refl _) (.cells #[.slice A n c, .slice A' n' c', .int .i64 o, .int .i64 i, .int .i64 h] 26))
  have HBK := hide (Bk.born w 26 #[.slice A n c, .slice A' n' c', .int .i64 o, .int .i64 i, .int .i64 h])
  have HX := hide (hx.below D0.out (Nat.le_refl _))
  have HY := hide (hy.below D0.out (Nat.le_refl _))
  have hbz : w.heap.size < (w.alloc (.cells #[.slice A n c, .slice A' n' c', .int .i64 o, .int .i64 i, .int .i64 h] 26)).heap.size := by simp
  have hle := hx.le
  have hle' := hy.le
  have HZ := hide (hz.below D0.out (Nat.le_refl _))
  have hle2 := hz.le
  have HLZ2 := hide hz.length
  clear hx hy hz
  cases hlg : (decide (100 < n) || decide (100 < n')) with
  | true =>
    have HLG := hide hlg
    clear hlg
    go_enter Try.func10, Try.ntmps10
    go_wp2_with (first
      | (have hgd := D1; clear hgd; go_at_call 19; refine (known_any _).mono ?_; rintro e2 w2 ⟨rfl, b2⟩; have D2 := hide b2; clear b2; obtain ⟨f20, f21, f22, f23, f24⟩ := two_cells HBK.out (show Below _ _ w2 from (le_call D1.out D2.out)) hbz)
      | (have hgd := D0; clear hgd; go_at_call 18; refine (Long_any A n c A' n' c' o i h _ hle hle').mono ?_; rintro e1 w1 ⟨rfl, b1⟩; rw [HLG.out]; have D1 := hide b1; clear b1; obtain ⟨f10, f11, f12, f13, f14⟩ := two_cells HBK.out (show Below _ _ w1 from D1.out) hbz))
    go_ret
    exact ⟨ret_bool (by simp), (le_call (le_call D0.out D1.out) D2.out)⟩
  | false =>
    have HLG := hide hlg
    clear hlg
    cases hlz : decide (100 < n2) with
    | true =>
      have HLZ := hide hlz
      clear hlz
      go_enter Try.func10, Try.ntmps10
      go_wp2_with (first
        | (have hgd := D1; clear hgd; go_at_call 19; refine (known_any _).mono ?_; rintro e2 w2 ⟨rfl, b2⟩; have D2 := hide b2; clear b2; obtain ⟨f20, f21, f22, f23, f24⟩ := two_cells HBK.out (show Below _ _ w2 from (le_call D1.out D2.out)) hbz)
        | (go_at_call 32; refine (large_any A2 n2 c2 _ hle2).mono ?_; rw [HLZ.out]; rintro e w' ⟨rfl, rfl⟩)
        | (have hgd := D0; clear hgd; go_at_call 18; refine (Long_any A n c A' n' c' o i h _ hle hle').mono ?_; rintro e1 w1 ⟨rfl, b1⟩; rw [HLG.out]; have D1 := hide b1; clear b1; obtain ⟨f10, f11, f12, f13, f14⟩ := two_cells HBK.out (show Below _ _ w1 from D1.out) hbz))
      go_ret
      exact ⟨ret_bool (by simp), (le_call (le_call D0.out D1.out) D2.out)⟩
    | false =>
      have HLZ := hide hlz
      clear hlz
      by_cases he : errP xs ys zs = 0
      · have HE := hide he
        obtain ⟨h1, h2⟩ := errP_ok he
        have HB := hide h1
        have HV := hide (comV_ok h1)
        rw [HLZ2.out] at h2
        have h3 : (n2 : Int) ≤ (cmn xs ys : Int) := by omega
        clear he h1 h2
        generalize cmn xs ys = k at *
        go_enter Try.func10, Try.ntmps10
        go_wp2_with (first
          | (have hgd := D3; clear hgd; go_at_call 19; refine (known_any _).mono ?_; rintro e4 w4 ⟨rfl, b4⟩; have D4 := hide b4; clear b4; obtain ⟨f40, f41, f42, f43, f44⟩ := two_cells HBK.out (show Below _ _ w4 from (le_call (le_call (le_call D1.out D2.out) D3.out) D4.out)) hbz)
          | (have hgd := D2; clear hgd; go_at_call 37; refine (Common_any A n c xs A' n' c' ys _ ((HX.out.below D1.out (Nat.le_refl _)).below D2.out (Nat.le_refl _)) ((HY.out.below D1.out (Nat.le_refl _)).below D2.out (Nat.le_refl _))).mono ?_; rintro e3 w3 ⟨rfl, b3⟩; rw [HV.out, HB.out]; have D3 := hide b3; clear b3; obtain ⟨f30, f31, f32, f33, f34⟩ := two_cells HBK.out (show Below _ _ w3 from (le_call (le_call D1.out D2.out) D3.out)) hbz)
          | (have hgd := D1; clear hgd; go_at_call 42; refine (rCheckCommon_any A n c xs A' n' c' ys A2 n2 c2 zs _ (HX.out.below D1.out (Nat.le_refl _)) (HY.out.below D1.out (Nat.le_refl _)) (HZ.out.below D1.out (Nat.le_refl _))).mono ?_; rw [HE.out]; rintro e2 w2 ⟨rfl, q2, hw2⟩; have D2 := hide (show Below w1.heap.size w1 w2 from by rw [hw2]; exact below_drewN (Below.refl _ _) q2); clear hw2; obtain ⟨f20, f21, f22, f23, f24⟩ := two_cells HBK.out (show Below _ _ w2 from (le_call D1.out D2.out)) hbz)
          | (have hgd := D1; clear hgd; go_at_call 41; refine (CheckCommon_any A n c xs A' n' c' ys A2 n2 c2 zs _ (HX.out.below D1.out (Nat.le_refl _)) (HY.out.below D1.out (Nat.le_refl _)) (HZ.out.below D1.out (Nat.le_refl _))).mono ?_; rw [HE.out]; rintro e w' ⟨rfl, rfl⟩)
          | (go_at_call 32; refine (large_any A2 n2 c2 _ hle2).mono ?_; rw [HLZ.out]; rintro e w' ⟨rfl, rfl⟩)
          | (have hgd := D0; clear hgd; go_at_call 18; refine (Long_any A n c A' n' c' o i h _ hle hle').mono ?_; rintro e1 w1 ⟨rfl, b1⟩; rw [HLG.out]; have D1 := hide b1; clear b1; obtain ⟨f10, f11, f12, f13, f14⟩ := two_cells HBK.out (show Below _ _ w1 from D1.out) hbz))
        go_ret
        exact ⟨ret_bool (by simp), (le_call (le_call (le_call (le_call D0.out D1.out) D2.out) D3.out) D4.out)⟩
      · have heb : (errP xs ys zs != 0) = true := by simpa using he
        clear he
        go_enter Try.func10, Try.ntmps10
        go_wp2_with (first
          | (have hgd := D3; clear hgd; go_at_call 19; refine (known_any _).mono ?_; rintro e4 w4 ⟨rfl, b4⟩; have D4 := hide b4; clear b4; obtain ⟨f40, f41, f42, f43, f44⟩ := two_cells HBK.out (show Below _ _ w4 from (le_call (le_call (le_call D1.out D2.out) D3.out) D4.out)) hbz)
          | (have hgd := D2; clear hgd; go_at_call 37; refine (Common_any A n c xs A' n' c' ys _ ((HX.out.below D1.out (Nat.le_refl _)).below D2.out (Nat.le_refl _)) ((HY.out.below D1.out (Nat.le_refl _)).below D2.out (Nat.le_refl _))).mono ?_; rintro e3 w3 ⟨rfl, b3⟩; have D3 := hide b3; clear b3; obtain ⟨f30, f31, f32, f33, f34⟩ := two_cells HBK.out (show Below _ _ w3 from (le_call (le_call D1.out D2.out) D3.out)) hbz)
          | (have hgd := D1; clear hgd; go_at_call 42; refine (rCheckCommon_any A n c xs A' n' c' ys A2 n2 c2 zs _ (HX.out.below D1.out (Nat.le_refl _)) (HY.out.below D1.out (Nat.le_refl _)) (HZ.out.below D1.out (Nat.le_refl _))).mono ?_; rintro e2 w2 ⟨rfl, q2, hw2⟩; have D2 := hide (show Below w1.heap.size w1 w2 from by rw [hw2]; exact below_drewN (Below.refl _ _) q2); clear hw2; obtain ⟨f20, f21, f22, f23, f24⟩ := two_cells HBK.out (show Below _ _ w2 from (le_call D1.out D2.out)) hbz)
          | (have hgd := D1; clear hgd; go_at_call 41; refine (CheckCommon_any A n c xs A' n' c' ys A2 n2 c2 zs _ (HX.out.below D1.out (Nat.le_refl _)) (HY.out.below D1.out (Nat.le_refl _)) (HZ.out.below D1.out (Nat.le_refl _))).mono ?_; rintro e w' ⟨rfl, rfl⟩)
          | (go_at_call 32; refine (large_any A2 n2 c2 _ hle2).mono ?_; rw [HLZ.out]; rintro e w' ⟨rfl, rfl⟩)
          | (have hgd := D0; clear hgd; go_at_call 18; refine (Long_any A n c A' n' c' o i h _ hle hle').mono ?_; rintro e1 w1 ⟨rfl, b1⟩; rw [HLG.out]; have D1 := hide b1; clear b1; obtain ⟨f10, f11, f12, f13, f14⟩ := two_cells HBK.out (show Below _ _ w1 from D1.out) hbz))
        go_ret
        exact ⟨ret_bool (by simp), (le_call (le_call (le_call (le_call D0.out D1.out) D2.out) D3.out) D4.out)⟩
end Go.Proofs.Ytndfdminjegldaa
