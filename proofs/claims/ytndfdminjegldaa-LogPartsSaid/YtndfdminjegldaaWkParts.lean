/- LogParts: the walk. -/
import Derived.Test.YtndfdminjegldaaKnown
import Derived.Test.YtndfdminjegldaaWalkPc
namespace Go.Proofs.Ytndfdminjegldaa
open Go.RowKit Go.Shelf
attribute [local go_sem] Oper.semAt_some

set_option maxRecDepth 100000 in
set_option maxHeartbeats 8000000 in
theorem LogParts_walk (A : Option Addr) (n c : Nat) (xs : List Int) (A' : Option Addr) (n' c' : Nat) (ys : List Int) (o i h : Int) (w : World) (hx : R E1 w A n c xs) (hy : R E1 w A' n' c' ys) :
    Calls Try.prog 9 #[tV A n c A' n' c' o i h] w fun e w' => e = .returned (.bool true) ∧ Below w.heap.size w w' := by
  have D0 := hide ((Below.refl w.heap.size w).alloc (Nat.le_refl _) (.cells #[.slice A n c, .slice A' n' c', .int .i64 o, .int .i64 i, .int .i64 h] 26))
  have HBK := hide (Bk.born w 26 #[.slice A n c, .slice A' n' c', .int .i64 o, .int .i64 i, .int .i64 h])
  have HX := hide (hx.below D0.out (Nat.le_refl _))
  have HY := hide (hy.below D0.out (Nat.le_refl _))
  have hbz : w.heap.size < (w.alloc (.cells #[.slice A n c, .slice A' n' c', .int .i64 o, .int .i64 i, .int .i64 h] 26)).heap.size := by simp
  have hle := hx.le
  have hle' := hy.le
  have HLX := hide hx.length
  have HLY := hide hy.length
  clear hx hy
  cases hlg : (decide (100 < n) || decide (100 < n')) with
  | true =>
    have HLG := hide hlg
    clear hlg
    go_enter Try.func9, Try.ntmps9
    go_wp2_with (first
      | (have hgd := D1; clear hgd; go_at_call 19; refine (known_any _).mono ?_; rintro e2 w2 ⟨rfl, b2⟩; have D2 := hide b2; clear b2; obtain ⟨f20, f21, f22, f23, f24⟩ := two_cells HBK.out (show Below _ _ w2 from (le_call D1.out D2.out)) hbz)
      | (have hgd := D0; clear hgd; go_at_call 18; refine (Long_any A n c A' n' c' o i h _ hle hle').mono ?_; rintro e1 w1 ⟨rfl, b1⟩; rw [HLG.out]; have D1 := hide b1; clear b1; obtain ⟨f10, f11, f12, f13, f14⟩ := two_cells HBK.out (show Below _ _ w1 from D1.out) hbz))
    go_ret
    exact ⟨ret_bool (by simp), (le_call (le_call D0.out D1.out) D2.out)⟩
  | false =>
    have HLG := hide hlg
    have HTL := hide (par_len10 xs ys)
    clear hlg
    by_cases he : errB xs ys = 0
    · have HE := hide he
      have HCV := hide (comV_ok he)
      have HPE := hide (par_errP he)
      have hck := cmn_le xs ys
      rw [HLX.out, HLY.out] at hck
      obtain ⟨q1, q2⟩ := errB_ok.1 he
      have hn10 : n ≤ 10 := by rw [← HLX.out]; exact (errL_ok.1 q1).1
      have hn10' : n' ≤ 10 := by rw [← HLY.out]; exact (errL_ok.1 q2).1
      have hed : errD xs ys ⟨1, 1, 2⟩ = 0 := errD_ok.2 ⟨q1, q2, C112_ok⟩
      have HED := hide hed
      have HDV := hide (show distV xs ys ⟨1, 1, 2⟩ = (n : Int) + (n' : Int) - 2 * (cmn xs ys : Int) from by
        rw [distV_ok hed, ← HLX.out, ← HLY.out]
        exact (cmn_spec xs ys).2.2)
      clear he q1 q2 hed
      generalize cmn xs ys = k at *
      have wa : IntKind.i64.wrap ((n : Int) + (n' : Int)) = (n : Int) + (n' : Int) := IntWalk.i64_in _ (by omega)
      have wb : IntKind.i64.wrap (2 * (k : Int)) = 2 * (k : Int) := IntWalk.i64_in _ (by omega)
      have wc : IntKind.i64.wrap ((n : Int) + (n' : Int) - 2 * (k : Int)) = (n : Int) + (n' : Int) - 2 * (k : Int) := IntWalk.i64_in _ (by omega)
      go_enter Try.func9, Try.ntmps9
      go_wp2_with (first
        | (have hgd := D8; clear hgd; go_at_call 19; refine (known_any _).mono ?_; rintro e9 w9 ⟨rfl, b9⟩; have D9 := hide b9; clear b9; obtain ⟨f90, f91, f92, f93, f94⟩ := two_cells HBK.out (show Below _ _ w9 from (le_call (le_call (le_call (le_call (le_call (le_call (le_call (le_call D1.out D2.out) D3.out) D4.out) D5.out) D6.out) D7.out) D8.out) D9.out)) hbz)
        | (have hgd := D7; clear hgd; go_at_call 41; refine (CheckCommon_any A n c xs A' n' c' ys A4 n4 c4 (parV xs ys) _ (((((((HX.out.below D1.out (Nat.le_refl _)).below D2.out (Nat.le_refl _)).below D3.out (Nat.le_refl _)).below D4.out (Nat.le_refl _)).below D5.out (Nat.le_refl _)).below D6.out (Nat.le_refl _)).below D7.out (Nat.le_refl _)) (((((((HY.out.below D1.out (Nat.le_refl _)).below D2.out (Nat.le_refl _)).below D3.out (Nat.le_refl _)).below D4.out (Nat.le_refl _)).below D5.out (Nat.le_refl _)).below D6.out (Nat.le_refl _)).below D7.out (Nat.le_refl _)) (((O4.out.below D5.out (Nat.le_refl _)).below D6.out (Nat.le_refl _)).below D7.out (Nat.le_refl _))).mono ?_; rw [HPE.out]; rintro e8 w8 ⟨rfl, rfl⟩; have D8 := hide (Below.refl w7.heap.size w7); obtain ⟨f80, f81, f82, f83, f84⟩ := two_cells HBK.out (show Below _ _ w7 from (le_call (le_call (le_call (le_call (le_call (le_call D1.out D2.out) D3.out) D4.out) D5.out) D6.out) D7.out)) hbz)
        | (have hgd := D6; clear hgd; go_at_call 26; refine (Distance_any A n c xs A' n' c' ys 1 1 2 _ ((((((HX.out.below D1.out (Nat.le_refl _)).below D2.out (Nat.le_refl _)).below D3.out (Nat.le_refl _)).below D4.out (Nat.le_refl _)).below D5.out (Nat.le_refl _)).below D6.out (Nat.le_refl _)) ((((((HY.out.below D1.out (Nat.le_refl _)).below D2.out (Nat.le_refl _)).below D3.out (Nat.le_refl _)).below D4.out (Nat.le_refl _)).below D5.out (Nat.le_refl _)).below D6.out (Nat.le_refl _))).mono ?_; rintro e7 w7 ⟨rfl, b7⟩; rw [HDV.out, HED.out]; have D7 := hide b7; clear b7; obtain ⟨f70, f71, f72, f73, f74⟩ := two_cells HBK.out (show Below _ _ w7 from (le_call (le_call (le_call (le_call (le_call (le_call D1.out D2.out) D3.out) D4.out) D5.out) D6.out) D7.out)) hbz)
        | (have hgd := D5; clear hgd; go_at_call 29; refine (SameInts_any A4 n4 c4 A5 n5 c5 (parV xs ys) (parV xs ys) _ (O4.out.below D5.out (Nat.le_refl _)) O5.out (by have h1 := HN4.out; have h2 := HTL.out; omega) (by have h1 := HN5.out; have h2 := HTL.out; omega)).mono ?_; rintro e6 w6 ⟨rfl, q6, hw6⟩; have D6 := hide (show Below w5.heap.size w5 w6 from by rw [hw6]; exact below_drewN (Below.refl _ _) q6); clear hw6; rw [beq_self_eq_true]; obtain ⟨f60, f61, f62, f63, f64⟩ := two_cells HBK.out (show Below _ _ w6 from (le_call (le_call (le_call (le_call (le_call D1.out D2.out) D3.out) D4.out) D5.out) D6.out)) hbz)
        | (have hgd := D4; clear hgd; go_at_call 40; refine (rPart_any A n c xs A' n' c' ys _ ((((HX.out.below D1.out (Nat.le_refl _)).below D2.out (Nat.le_refl _)).below D3.out (Nat.le_refl _)).below D4.out (Nat.le_refl _)) ((((HY.out.below D1.out (Nat.le_refl _)).below D2.out (Nat.le_refl _)).below D3.out (Nat.le_refl _)).below D4.out (Nat.le_refl _))).mono ?_; rintro e5 w5 ⟨A5, n5, c5, rfl, o5, b5⟩; rw [HE.out]; have O5 := hide o5.row; have HN5 := hide o5.len; clear o5; have D5 := hide b5; clear b5; obtain ⟨f50, f51, f52, f53, f54⟩ := two_cells HBK.out (show Below _ _ w5 from (le_call (le_call (le_call (le_call D1.out D2.out) D3.out) D4.out) D5.out)) hbz)
        | (have hgd := D3; clear hgd; go_at_call 39; refine (Part_any A n c xs A' n' c' ys _ (((HX.out.below D1.out (Nat.le_refl _)).below D2.out (Nat.le_refl _)).below D3.out (Nat.le_refl _)) (((HY.out.below D1.out (Nat.le_refl _)).below D2.out (Nat.le_refl _)).below D3.out (Nat.le_refl _))).mono ?_; rintro e4 w4 ⟨A4, n4, c4, rfl, o4, b4⟩; rw [HE.out]; have O4 := hide o4.row; have HN4 := hide o4.len; clear o4; have D4 := hide b4; clear b4; obtain ⟨f40, f41, f42, f43, f44⟩ := two_cells HBK.out (show Below _ _ w4 from (le_call (le_call (le_call D1.out D2.out) D3.out) D4.out)) hbz)
        | (have hgd := D2; clear hgd; go_at_call 38; refine (rCommon_any A n c xs A' n' c' ys _ ((HX.out.below D1.out (Nat.le_refl _)).below D2.out (Nat.le_refl _)) ((HY.out.below D1.out (Nat.le_refl _)).below D2.out (Nat.le_refl _))).mono ?_; rintro e3 w3 ⟨rfl, b3⟩; rw [HCV.out, HE.out]; have D3 := hide b3; clear b3; obtain ⟨f30, f31, f32, f33, f34⟩ := two_cells HBK.out (show Below _ _ w3 from (le_call (le_call D1.out D2.out) D3.out)) hbz)
        | (have hgd := D1; clear hgd; go_at_call 37; refine (Common_any A n c xs A' n' c' ys _ (HX.out.below D1.out (Nat.le_refl _)) (HY.out.below D1.out (Nat.le_refl _))).mono ?_; rintro e2 w2 ⟨rfl, b2⟩; rw [HCV.out, HE.out]; have D2 := hide b2; clear b2; obtain ⟨f20, f21, f22, f23, f24⟩ := two_cells HBK.out (show Below _ _ w2 from (le_call D1.out D2.out)) hbz)
        | (have hgd := D0; clear hgd; go_at_call 18; refine (Long_any A n c A' n' c' o i h _ hle hle').mono ?_; rintro e1 w1 ⟨rfl, b1⟩; rw [HLG.out]; have D1 := hide b1; clear b1; obtain ⟨f10, f11, f12, f13, f14⟩ := two_cells HBK.out (show Below _ _ w1 from D1.out) hbz))
      go_ret
      exact ⟨ret_bool (by simp), (le_call (le_call (le_call (le_call (le_call (le_call (le_call (le_call (le_call D0.out D1.out) D2.out) D3.out) D4.out) D5.out) D6.out) D7.out) D8.out) D9.out)⟩
    · have heb : (errB xs ys != 0) = true := by simpa using he
      clear he
      go_enter Try.func9, Try.ntmps9
      go_wp2_with (first
        | (have hgd := D7; clear hgd; go_at_call 19; refine (known_any _).mono ?_; rintro e8 w8 ⟨rfl, b8⟩; have D8 := hide b8; clear b8; obtain ⟨f80, f81, f82, f83, f84⟩ := two_cells HBK.out (show Below _ _ w8 from (le_call (le_call (le_call (le_call (le_call (le_call (le_call D1.out D2.out) D3.out) D4.out) D5.out) D6.out) D7.out) D8.out)) hbz)
        | (have hgd := D6; clear hgd; go_at_call 26; refine (Distance_any A n c xs A' n' c' ys 1 1 2 _ ((((((HX.out.below D1.out (Nat.le_refl _)).below D2.out (Nat.le_refl _)).below D3.out (Nat.le_refl _)).below D4.out (Nat.le_refl _)).below D5.out (Nat.le_refl _)).below D6.out (Nat.le_refl _)) ((((((HY.out.below D1.out (Nat.le_refl _)).below D2.out (Nat.le_refl _)).below D3.out (Nat.le_refl _)).below D4.out (Nat.le_refl _)).below D5.out (Nat.le_refl _)).below D6.out (Nat.le_refl _))).mono ?_; rintro e7 w7 ⟨rfl, b7⟩; have D7 := hide b7; clear b7; obtain ⟨f70, f71, f72, f73, f74⟩ := two_cells HBK.out (show Below _ _ w7 from (le_call (le_call (le_call (le_call (le_call (le_call D1.out D2.out) D3.out) D4.out) D5.out) D6.out) D7.out)) hbz)
        | (have hgd := D5; clear hgd; go_at_call 29; refine (SameInts_any A4 n4 c4 A5 n5 c5 (parV xs ys) (parV xs ys) _ (O4.out.below D5.out (Nat.le_refl _)) O5.out (by have h1 := HN4.out; have h2 := HTL.out; omega) (by have h1 := HN5.out; have h2 := HTL.out; omega)).mono ?_; rintro e6 w6 ⟨rfl, q6, hw6⟩; have D6 := hide (show Below w5.heap.size w5 w6 from by rw [hw6]; exact below_drewN (Below.refl _ _) q6); clear hw6; rw [beq_self_eq_true]; obtain ⟨f60, f61, f62, f63, f64⟩ := two_cells HBK.out (show Below _ _ w6 from (le_call (le_call (le_call (le_call (le_call D1.out D2.out) D3.out) D4.out) D5.out) D6.out)) hbz)
        | (have hgd := D4; clear hgd; go_at_call 40; refine (rPart_any A n c xs A' n' c' ys _ ((((HX.out.below D1.out (Nat.le_refl _)).below D2.out (Nat.le_refl _)).below D3.out (Nat.le_refl _)).below D4.out (Nat.le_refl _)) ((((HY.out.below D1.out (Nat.le_refl _)).below D2.out (Nat.le_refl _)).below D3.out (Nat.le_refl _)).below D4.out (Nat.le_refl _))).mono ?_; rintro e5 w5 ⟨A5, n5, c5, rfl, o5, b5⟩; have O5 := hide o5.row; have HN5 := hide o5.len; clear o5; have D5 := hide b5; clear b5; obtain ⟨f50, f51, f52, f53, f54⟩ := two_cells HBK.out (show Below _ _ w5 from (le_call (le_call (le_call (le_call D1.out D2.out) D3.out) D4.out) D5.out)) hbz)
        | (have hgd := D3; clear hgd; go_at_call 39; refine (Part_any A n c xs A' n' c' ys _ (((HX.out.below D1.out (Nat.le_refl _)).below D2.out (Nat.le_refl _)).below D3.out (Nat.le_refl _)) (((HY.out.below D1.out (Nat.le_refl _)).below D2.out (Nat.le_refl _)).below D3.out (Nat.le_refl _))).mono ?_; rintro e4 w4 ⟨A4, n4, c4, rfl, o4, b4⟩; have O4 := hide o4.row; have HN4 := hide o4.len; clear o4; have D4 := hide b4; clear b4; obtain ⟨f40, f41, f42, f43, f44⟩ := two_cells HBK.out (show Below _ _ w4 from (le_call (le_call (le_call D1.out D2.out) D3.out) D4.out)) hbz)
        | (have hgd := D2; clear hgd; go_at_call 38; refine (rCommon_any A n c xs A' n' c' ys _ ((HX.out.below D1.out (Nat.le_refl _)).below D2.out (Nat.le_refl _)) ((HY.out.below D1.out (Nat.le_refl _)).below D2.out (Nat.le_refl _))).mono ?_; rintro e3 w3 ⟨rfl, b3⟩; have D3 := hide b3; clear b3; obtain ⟨f30, f31, f32, f33, f34⟩ := two_cells HBK.out (show Below _ _ w3 from (le_call (le_call D1.out D2.out) D3.out)) hbz)
        | (have hgd := D1; clear hgd; go_at_call 37; refine (Common_any A n c xs A' n' c' ys _ (HX.out.below D1.out (Nat.le_refl _)) (HY.out.below D1.out (Nat.le_refl _))).mono ?_; rintro e2 w2 ⟨rfl, b2⟩; have D2 := hide b2; clear b2; obtain ⟨f20, f21, f22, f23, f24⟩ := two_cells HBK.out (show Below _ _ w2 from (le_call D1.out D2.out)) hbz)
        | (have hgd := D0; clear hgd; go_at_call 18; refine (Long_any A n c A' n' c' o i h _ hle hle').mono ?_; rintro e1 w1 ⟨rfl, b1⟩; rw [HLG.out]; have D1 := hide b1; clear b1; obtain ⟨f10, f11, f12, f13, f14⟩ := two_cells HBK.out (show Below _ _ w1 from D1.out) hbz))
      go_ret
      exact ⟨ret_bool (by simp), (le_call (le_call (le_call (le_call (le_call (le_call (le_call (le_call D0.out D1.out) D2.out) D3.out) D4.out) D5.out) D6.out) D7.out) D8.out)⟩
end Go.Proofs.Ytndfdminjegldaa
