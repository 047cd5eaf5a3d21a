/- LogRenames: the walk. -/
import Derived.Test.YtndfdminjegldaaKnown
import Derived.Test.YtndfdminjegldaaWalkN
namespace Go.Proofs.Ytndfdminjegldaa
open Go.RowKit Go.Shelf
attribute [local go_sem] Oper.semAt_some

theorem renV_le (l tt : List Int) : (renV l tt).length ≤ 10 := by
  by_cases h : renE l tt = 0
  · exact (errL_ok.1 (ren_err h)).1
  · rw [renV_no h]; simp
set_option maxRecDepth 100000 in
set_option maxHeartbeats 8000000 in
theorem LogRenames_walk (A : Option Addr) (n c : Nat) (xs : List Int) (A' : Option Addr) (n' c' : Nat) (ys : List Int) (o i h : Int) (Aq : Option Addr) (nq cq : Nat) (zs : List Int) (w : World) (hx : R E1 w A n c xs) (hy : R E1 w A' n' c' ys) (hz : R E1 w Aq nq cq zs) :
    Calls Try.prog 15 #[tV A n c A' n' c' o i h, .slice Aq nq cq] w fun e w' => e = .returned (.bool true) ∧ Below w.heap.size w w' := by
  have D0 := hide ((Below.refl w.heap.size w).alloc (Nat.le_refl _) (.cells #[.slice A n c, .slice A' n' c', .int .i64 o, .int .i64 i, .int .i64 h] 26))
  have HBK := hide (Bk.born w 26 #[.slice A n c, .slice A' n' c', .int .i64 o, .int .i64 i, .int .i64 h])
  have HX := hide (hx.below D0.out (Nat.le_refl _))
  have HY := hide (hy.below D0.out (Nat.le_refl _))
  have hbz : w.heap.size < (w.alloc (.cells #[.slice A n c, .slice A' n' c', .int .i64 o, .int .i64 i, .int .i64 h] 26)).heap.size := by simp
  have hle := hx.le
  have hle' := hy.le
  have HZ := hide (hz.below D0.out (Nat.le_refl _))
  have hle2 := hz.le
  clear hx hy hz
  cases hlg : (decide (100 < n) || decide (100 < n')) with
  | true =>
    have HLG := hide hlg
    clear hlg
    go_enter Try.func15, Try.ntmps15
    go_wp2_with (first
      | (have hgd := D1; clear hgd; go_at_call 19; refine (known_any _).mono ?_; rintro e2 w2 ⟨rfl, b2⟩; have D2 := hide b2; clear b2; obtain ⟨f20, f21, f22, f23, f24⟩ := two_cells HBK.out (show Below _ _ w2 from (le_call D1.out D2.out)) hbz)
      | (have hgd := D0; clear hgd; go_at_call 18; refine (Long_any A n c A' n' c' o i h _ hle hle').mono ?_; rintro e1 w1 ⟨rfl, b1⟩; rw [HLG.out]; have D1 := hide b1; clear b1; obtain ⟨f10, f11, f12, f13, f14⟩ := two_cells HBK.out (show Below _ _ w1 from D1.out) hbz))
    go_ret
    exact ⟨ret_bool (by simp), (le_call (le_call D0.out D1.out) D2.out)⟩
  | false =>
    have HLG := hide hlg
    clear hlg
    cases hlz : decide (100 < nq) with
    | true =>
      have HLZ := hide hlz
      clear hlz
      go_enter Try.func15, Try.ntmps15
      go_wp2_with (first
        | (have hgd := D1; clear hgd; go_at_call 19; refine (known_any _).mono ?_; rintro e2 w2 ⟨rfl, b2⟩; have D2 := hide b2; clear b2; obtain ⟨f20, f21, f22, f23, f24⟩ := two_cells HBK.out (show Below _ _ w2 from (le_call D1.out D2.out)) hbz)
        | (go_at_call 32; refine (large_any Aq nq cq _ hle2).mono ?_; rw [HLZ.out]; rintro e w' ⟨rfl, rfl⟩)
        | (have hgd := D0; clear hgd; go_at_call 18; refine (Long_any A n c A' n' c' o i h _ hle hle').mono ?_; rintro e1 w1 ⟨rfl, b1⟩; rw [HLG.out]; have D1 := hide b1; clear b1; obtain ⟨f10, f11, f12, f13, f14⟩ := two_cells HBK.out (show Below _ _ w1 from D1.out) hbz))
      go_ret
      exact ⟨ret_bool (by simp), (le_call (le_call D0.out D1.out) D2.out)⟩
    | false =>
      have HLZ := hide hlz
      have HLZ3 := hide (show nq ≤ 100 from by simpa using hlz)
      have HTL := hide (renV_le xs zs)
      clear hlz
      by_cases ha : renE xs zs = 0
      · have HA := hide ha
        by_cases hb : renE ys zs = 0
        · have HB := hide hb
          have HEQ := hide (show errD (renV xs zs) (renV ys zs) ⟨o, i, h⟩ = errD xs ys ⟨o, i, h⟩ from by
            have e1 : errB (renV xs zs) (renV ys zs) = 0 := errB_ok.2 ⟨ren_err ha, ren_err hb⟩
            have e2 : errB xs ys = 0 := errB_ok.2 ⟨(renE_ok ha).1, (renE_ok hb).1⟩
            rw [errD_yes e1, errD_yes e2])
          have HVQ := hide (show distV (renV xs zs) (renV ys zs) ⟨o, i, h⟩ = distV xs ys ⟨o, i, h⟩ from by
            unfold distV
            rw [HEQ.out, ren_dist _ ha hb])
          clear ha hb
          go_enter Try.func15, Try.ntmps15
          go_wp2_with (first
            | (have hgd := D7; clear hgd; go_at_call 19; refine (known_any _).mono ?_; rintro e8 w8 ⟨rfl, b8⟩; have D8 := hide b8; clear b8; obtain ⟨f80, f81, f82, f83, f84⟩ := two_cells HBK.out (show Below _ _ w8 from (le_call (le_call (le_call (le_call (le_call (le_call (le_call D1.out D2.out) D3.out) D4.out) D5.out) D6.out) D7.out) D8.out)) hbz)
            | (have hgd := D6; clear hgd; go_at_call 26; refine (Distance_any A2 n2 c2 (renV xs zs) A5 n5 c5 (renV ys zs) o i h _ ((((O2.out.below D3.out (Nat.le_refl _)).below D4.out (Nat.le_refl _)).below D5.out (Nat.le_refl _)).below D6.out (Nat.le_refl _)) (O5.out.below D6.out (Nat.le_refl _))).mono ?_; rintro e7 w7 ⟨rfl, b7⟩; rw [HVQ.out, HEQ.out]; have D7 := hide b7; clear b7; obtain ⟨f70, f71, f72, f73, f74⟩ := two_cells HBK.out (show Below _ _ w7 from (le_call (le_call (le_call (le_call (le_call (le_call D1.out D2.out) D3.out) D4.out) D5.out) D6.out) D7.out)) hbz)
            | (have hgd := D5; clear hgd; go_at_call 26; refine (Distance_any A n c xs A' n' c' ys o i h _ (((((HX.out.below D1.out (Nat.le_refl _)).below D2.out (Nat.le_refl _)).below D3.out (Nat.le_refl _)).below D4.out (Nat.le_refl _)).below D5.out (Nat.le_refl _)) (((((HY.out.below D1.out (Nat.le_refl _)).below D2.out (Nat.le_refl _)).below D3.out (Nat.le_refl _)).below D4.out (Nat.le_refl _)).below D5.out (Nat.le_refl _))).mono ?_; rintro e6 w6 ⟨rfl, b6⟩; have D6 := hide b6; clear b6; obtain ⟨f60, f61, f62, f63, f64⟩ := two_cells HBK.out (show Below _ _ w6 from (le_call (le_call (le_call (le_call (le_call D1.out D2.out) D3.out) D4.out) D5.out) D6.out)) hbz)
            | (have hgd := D4; clear hgd; go_at_call 51; refine (Rename_any A' n' c' ys Aq nq cq zs _ ((((HY.out.below D1.out (Nat.le_refl _)).below D2.out (Nat.le_refl _)).below D3.out (Nat.le_refl _)).below D4.out (Nat.le_refl _)) ((((HZ.out.below D1.out (Nat.le_refl _)).below D2.out (Nat.le_refl _)).below D3.out (Nat.le_refl _)).below D4.out (Nat.le_refl _)) (by have := HLZ3.out; omega)).mono ?_; rintro e5 w5 ⟨A5, n5, c5, rfl, o5, b5⟩; rw [HB.out]; have O5 := hide o5.row; have HN5 := hide o5.len; clear o5; have D5 := hide b5; clear b5; obtain ⟨f50, f51, f52, f53, f54⟩ := two_cells HBK.out (show Below _ _ w5 from (le_call (le_call (le_call (le_call D1.out D2.out) D3.out) D4.out) D5.out)) hbz)
            | (have hgd := D3; clear hgd; go_at_call 29; refine (SameInts_any A2 n2 c2 A3 n3 c3 (renV xs zs) (renV xs zs) _ (O2.out.below D3.out (Nat.le_refl _)) O3.out (by have h1 := HN2.out; have h2 := HTL.out; omega) (by have h1 := HN3.out; have h2 := HTL.out; omega)).mono ?_; rintro e4 w4 ⟨rfl, q4, hw4⟩; have D4 := hide (show Below w3.heap.size w3 w4 from by rw [hw4]; exact below_drewN (Below.refl _ _) q4); clear hw4; rw [beq_self_eq_true]; obtain ⟨f40, f41, f42, f43, f44⟩ := two_cells HBK.out (show Below _ _ w4 from (le_call (le_call (le_call D1.out D2.out) D3.out) D4.out)) hbz)
            | (have hgd := D2; clear hgd; go_at_call 52; refine (rRename_any A n c xs Aq nq cq zs _ ((HX.out.below D1.out (Nat.le_refl _)).below D2.out (Nat.le_refl _)) ((HZ.out.below D1.out (Nat.le_refl _)).below D2.out (Nat.le_refl _)) (by have := HLZ3.out; omega)).mono ?_; rintro e3 w3 ⟨A3, n3, c3, rfl, o3, b3⟩; rw [HA.out]; have O3 := hide o3.row; have HN3 := hide o3.len; clear o3; have D3 := hide b3; clear b3; obtain ⟨f30, f31, f32, f33, f34⟩ := two_cells HBK.out (show Below _ _ w3 from (le_call (le_call D1.out D2.out) D3.out)) hbz)
            | (have hgd := D1; clear hgd; go_at_call 51; refine (Rename_any A n c xs Aq nq cq zs _ (HX.out.below D1.out (Nat.le_refl _)) (HZ.out.below D1.out (Nat.le_refl _)) (by have := HLZ3.out; omega)).mono ?_; rintro e2 w2 ⟨A2, n2, c2, rfl, o2, b2⟩; rw [HA.out]; have O2 := hide o2.row; have HN2 := hide o2.len; clear o2; have D2 := hide b2; clear b2; obtain ⟨f20, f21, f22, f23, f24⟩ := two_cells HBK.out (show Below _ _ w2 from (le_call D1.out D2.out)) hbz)
            | (go_at_call 32; refine (large_any Aq nq cq _ hle2).mono ?_; rw [HLZ.out]; rintro e w' ⟨rfl, rfl⟩)
            | (have hgd := D0; clear hgd; go_at_call 18; refine (Long_any A n c A' n' c' o i h _ hle hle').mono ?_; rintro e1 w1 ⟨rfl, b1⟩; rw [HLG.out]; have D1 := hide b1; clear b1; obtain ⟨f10, f11, f12, f13, f14⟩ := two_cells HBK.out (show Below _ _ w1 from D1.out) hbz))
          go_ret
          exact ⟨ret_bool (by simp), (le_call (le_call (le_call (le_call (le_call (le_call (le_call (le_call D0.out D1.out) D2.out) D3.out) D4.out) D5.out) D6.out) D7.out) D8.out)⟩
        · have hbb : (renE ys zs != 0) = true := by simpa using hb
          clear ha hb
          go_enter Try.func15, Try.ntmps15
          go_wp2_with (first
            | (have hgd := D7; clear hgd; go_at_call 19; refine (known_any _).mono ?_; rintro e8 w8 ⟨rfl, b8⟩; have D8 := hide b8; clear b8; obtain ⟨f80, f81, f82, f83, f84⟩ := two_cells HBK.out (show Below _ _ w8 from (le_call (le_call (le_call (le_call (le_call (le_call (le_call D1.out D2.out) D3.out) D4.out) D5.out) D6.out) D7.out) D8.out)) hbz)
            | (have hgd := D6; clear hgd; go_at_call 26; refine (Distance_any A2 n2 c2 (renV xs zs) A5 n5 c5 (renV ys zs) o i h _ ((((O2.out.below D3.out (Nat.le_refl _)).below D4.out (Nat.le_refl _)).below D5.out (Nat.le_refl _)).below D6.out (Nat.le_refl _)) (O5.out.below D6.out (Nat.le_refl _))).mono ?_; rintro e7 w7 ⟨rfl, b7⟩; have D7 := hide b7; clear b7; obtain ⟨f70, f71, f72, f73, f74⟩ := two_cells HBK.out (show Below _ _ w7 from (le_call (le_call (le_call (le_call (le_call (le_call D1.out D2.out) D3.out) D4.out) D5.out) D6.out) D7.out)) hbz)
            | (have hgd := D5; clear hgd; go_at_call 26; refine (Distance_any A n c xs A' n' c' ys o i h _ (((((HX.out.below D1.out (Nat.le_refl _)).below D2.out (Nat.le_refl _)).below D3.out (Nat.le_refl _)).below D4.out (Nat.le_refl _)).below D5.out (Nat.le_refl _)) (((((HY.out.below D1.out (Nat.le_refl _)).below D2.out (Nat.le_refl _)).below D3.out (Nat.le_refl _)).below D4.out (Nat.le_refl _)).below D5.out (Nat.le_refl _))).mono ?_; rintro e6 w6 ⟨rfl, b6⟩; have D6 := hide b6; clear b6; obtain ⟨f60, f61, f62, f63, f64⟩ := two_cells HBK.out (show Below _ _ w6 from (le_call (le_call (le_call (le_call (le_call D1.out D2.out) D3.out) D4.out) D5.out) D6.out)) hbz)
            | (have hgd := D4; clear hgd; go_at_call 51; refine (Rename_any A' n' c' ys Aq nq cq zs _ ((((HY.out.below D1.out (Nat.le_refl _)).below D2.out (Nat.le_refl _)).below D3.out (Nat.le_refl _)).below D4.out (Nat.le_refl _)) ((((HZ.out.below D1.out (Nat.le_refl _)).below D2.out (Nat.le_refl _)).below D3.out (Nat.le_refl _)).below D4.out (Nat.le_refl _)) (by have := HLZ3.out; omega)).mono ?_; rintro e5 w5 ⟨A5, n5, c5, rfl, o5, b5⟩; have O5 := hide o5.row; have HN5 := hide o5.len; clear o5; have D5 := hide b5; clear b5; obtain ⟨f50, f51, f52, f53, f54⟩ := two_cells HBK.out (show Below _ _ w5 from (le_call (le_call (le_call (le_call D1.out D2.out) D3.out) D4.out) D5.out)) hbz)
            | (have hgd := D3; clear hgd; go_at_call 29; refine (SameInts_any A2 n2 c2 A3 n3 c3 (renV xs zs) (renV xs zs) _ (O2.out.below D3.out (Nat.le_refl _)) O3.out (by have h1 := HN2.out; have h2 := HTL.out; omega) (by have h1 := HN3.out; have h2 := HTL.out; omega)).mono ?_; rintro e4 w4 ⟨rfl, q4, hw4⟩; have D4 := hide (show Below w3.heap.size w3 w4 from by rw [hw4]; exact below_drewN (Below.refl _ _) q4); clear hw4; rw [beq_self_eq_true]; obtain ⟨f40, f41, f42, f43, f44⟩ := two_cells HBK.out (show Below _ _ w4 from (le_call (le_call (le_call D1.out D2.out) D3.out) D4.out)) hbz)
            | (have hgd := D2; clear hgd; go_at_call 52; refine (rRename_any A n c xs Aq nq cq zs _ ((HX.out.below D1.out (Nat.le_refl _)).below D2.out (Nat.le_refl _)) ((HZ.out.below D1.out (Nat.le_refl _)).below D2.out (Nat.le_refl _)) (by have := HLZ3.out; omega)).mono ?_; rintro e3 w3 ⟨A3, n3, c3, rfl, o3, b3⟩; rw [HA.out]; have O3 := hide o3.row; have HN3 := hide o3.len; clear o3; have D3 := hide b3; clear b3; obtain ⟨f30, f31, f32, f33, f34⟩ := two_cells HBK.out (show Below _ _ w3 from (le_call (le_call D1.out D2.out) D3.out)) hbz)
            | (have hgd := D1; clear hgd; go_at_call 51; refine (Rename_any A n c xs Aq nq cq zs _ (HX.out.below D1.out (Nat.le_refl _)) (HZ.out.below D1.out (Nat.le_refl _)) (by have := HLZ3.out; omega)).mono ?_; rintro e2 w2 ⟨A2, n2, c2, rfl, o2, b2⟩; rw [HA.out]; have O2 := hide o2.row; have HN2 := hide o2.len; clear o2; have D2 := hide b2; clear b2; obtain ⟨f20, f21, f22, f23, f24⟩ := two_cells HBK.out (show Below _ _ w2 from (le_call D1.out D2.out)) hbz)
            | (go_at_call 32; refine (large_any Aq nq cq _ hle2).mono ?_; rw [HLZ.out]; rintro e w' ⟨rfl, rfl⟩)
            | (have hgd := D0; clear hgd; go_at_call 18; refine (Long_any A n c A' n' c' o i h _ hle hle').mono ?_; rintro e1 w1 ⟨rfl, b1⟩; rw [HLG.out]; have D1 := hide b1; clear b1; obtain ⟨f10, f11, f12, f13, f14⟩ := two_cells HBK.out (show Below _ _ w1 from D1.out) hbz))
          go_ret
          exact ⟨ret_bool (by simp), (le_call (le_call (le_call (le_call (le_call (le_call (le_call (le_call D0.out D1.out) D2.out) D3.out) D4.out) D5.out) D6.out) D7.out) D8.out)⟩
      · have hab : (renE xs zs != 0) = true := by simpa using ha
        clear ha
        go_enter Try.func15, Try.ntmps15
        go_wp2_with (first
          | (have hgd := D7; clear hgd; go_at_call 19; refine (known_any _).mono ?_; rintro e8 w8 ⟨rfl, b8⟩; have D8 := hide b8; clear b8; obtain ⟨f80, f81, f82, f83, f84⟩ := two_cells HBK.out (show Below _ _ w8 from (le_call (le_call (le_call (le_call (le_call (le_call (le_call D1.out D2.out) D3.out) D4.out) D5.out) D6.out) D7.out) D8.out)) hbz)
          | (have hgd := D6; clear hgd; go_at_call 26; refine (Distance_any A2 n2 c2 (renV xs zs) A5 n5 c5 (renV ys zs) o i h _ ((((O2.out.below D3.out (Nat.le_refl _)).below D4.out (Nat.le_refl _)).below D5.out (Nat.le_refl _)).below D6.out (Nat.le_refl _)) (O5.out.below D6.out (Nat.le_refl _))).mono ?_; rintro e7 w7 ⟨rfl, b7⟩; have D7 := hide b7; clear b7; obtain ⟨f70, f71, f72, f73, f74⟩ := two_cells HBK.out (show Below _ _ w7 from (le_call (le_call (le_call (le_call (le_call (le_call D1.out D2.out) D3.out) D4.out) D5.out) D6.out) D7.out)) hbz)
          | (have hgd := D5; clear hgd; go_at_call 26; refine (Distance_any A n c xs A' n' c' ys o i h _ (((((HX.out.below D1.out (Nat.le_refl _)).below D2.out (Nat.le_refl _)).below D3.out (Nat.le_refl _)).below D4.out (Nat.le_refl _)).below D5.out (Nat.le_refl _)) (((((HY.out.below D1.out (Nat.le_refl _)).below D2.out (Nat.le_refl _)).below D3.out (Nat.le_refl _)).below D4.out (Nat.le_refl _)).below D5.out (Nat.le_refl _))).mono ?_; rintro e6 w6 ⟨rfl, b6⟩; have D6 := hide b6; clear b6; obtain ⟨f60, f61, f62, f63, f64⟩ := two_cells HBK.out (show Below _ _ w6 from (le_call (le_call (le_call (le_call (le_call D1.out D2.out) D3.out) D4.out) D5.out) D6.out)) hbz)
          | (have hgd := D4; clear hgd; go_at_call 51; refine (Rename_any A' n' c' ys Aq nq cq zs _ ((((HY.out.below D1.out (Nat.le_refl _)).below D2.out (Nat.le_refl _)).below D3.out (Nat.le_refl _)).below D4.out (Nat.le_refl _)) ((((HZ.out.below D1.out (Nat.le_refl _)).below D2.out (Nat.le_refl _)).below D3.out (Nat.le_refl _)).below D4.out (Nat.le_refl _)) (by have := HLZ3.out; omega)).mono ?_; rintro e5 w5 ⟨A5, n5, c5, rfl, o5, b5⟩; have O5 := hide o5.row; have HN5 := hide o5.len; clear o5; have D5 := hide b5; clear b5; obtain ⟨f50, f51, f52, f53, f54⟩ := two_cells HBK.out (show Below _ _ w5 from (le_call (le_call (le_call (le_call D1.out D2.out) D3.out) D4.out) D5.out)) hbz)
          | (have hgd := D3; clear hgd; go_at_call 29; refine (SameInts_any A2 n2 c2 A3 n3 c3 (renV xs zs) (renV xs zs) _ (O2.out.below D3.out (Nat.le_refl _)) O3.out (by have h1 := HN2.out; have h2 := HTL.out; omega) (by have h1 := HN3.out; have h2 := HTL.out; omega)).mono ?_; rintro e4 w4 ⟨rfl, q4, hw4⟩; have D4 := hide (show Below w3.heap.size w3 w4 from by rw [hw4]; exact below_drewN (Below.refl _ _) q4); clear hw4; rw [beq_self_eq_true]; obtain ⟨f40, f41, f42, f43, f44⟩ := two_cells HBK.out (show Below _ _ w4 from (le_call (le_call (le_call D1.out D2.out) D3.out) D4.out)) hbz)
          | (have hgd := D2; clear hgd; go_at_call 52; refine (rRename_any A n c xs Aq nq cq zs _ ((HX.out.below D1.out (Nat.le_refl _)).below D2.out (Nat.le_refl _)) ((HZ.out.below D1.out (Nat.le_refl _)).below D2.out (Nat.le_refl _)) (by have := HLZ3.out; omega)).mono ?_; rintro e3 w3 ⟨A3, n3, c3, rfl, o3, b3⟩; have O3 := hide o3.row; have HN3 := hide o3.len; clear o3; have D3 := hide b3; clear b3; obtain ⟨f30, f31, f32, f33, f34⟩ := two_cells HBK.out (show Below _ _ w3 from (le_call (le_call D1.out D2.out) D3.out)) hbz)
          | (have hgd := D1; clear hgd; go_at_call 51; refine (Rename_any A n c xs Aq nq cq zs _ (HX.out.below D1.out (Nat.le_refl _)) (HZ.out.below D1.out (Nat.le_refl _)) (by have := HLZ3.out; omega)).mono ?_; rintro e2 w2 ⟨A2, n2, c2, rfl, o2, b2⟩; have O2 := hide o2.row; have HN2 := hide o2.len; clear o2; have D2 := hide b2; clear b2; obtain ⟨f20, f21, f22, f23, f24⟩ := two_cells HBK.out (show Below _ _ w2 from (le_call D1.out D2.out)) hbz)
          | (go_at_call 32; refine (large_any Aq nq cq _ hle2).mono ?_; rw [HLZ.out]; rintro e w' ⟨rfl, rfl⟩)
          | (have hgd := D0; clear hgd; go_at_call 18; refine (Long_any A n c A' n' c' o i h _ hle hle').mono ?_; rintro e1 w1 ⟨rfl, b1⟩; rw [HLG.out]; have D1 := hide b1; clear b1; obtain ⟨f10, f11, f12, f13, f14⟩ := two_cells HBK.out (show Below _ _ w1 from D1.out) hbz))
        go_ret
        exact ⟨ret_bool (by simp), (le_call (le_call (le_call (le_call (le_call (le_call (le_call (le_call D0.out D1.out) D2.out) D3.out) D4.out) D5.out) D6.out) D7.out) D8.out)⟩
end Go.Proofs.Ytndfdminjegldaa
