/- LogTriangles: the walk. -/
import Derived.Test.YtndfdminjegldaaKnown
namespace Go.Proofs.Ytndfdminjegldaa
open Go.RowKit Go.Shelf
attribute [local go_sem] Oper.semAt_some

set_option maxRecDepth 100000 in
set_option maxHeartbeats 8000000 in
theorem LogTriangles_walk (A : Option Addr) (n c : Nat) (xs : List Int) (A' : Option Addr) (n' c' : Nat) (ys : List Int) (o i h : Int) (A2 : Option Addr) (n2 c2 : Nat) (zs : List Int) (w : World) (hx : R E1 w A n c xs) (hy : R E1 w A' n' c' ys) (hz : R E1 w A2 n2 c2 zs) :
    Calls Try.prog 8 #[tV A n c A' n' c' o i h, .slice A2 n2 c2] w fun e w' => e = .returned (.bool true) ∧ Below w.heap.size w w' := by
  have D0 := hide ((Below.refl w.heap.size w).alloc (Nat.le_refl _) (.cells #[.slice A n c, .slice A' n' c', .int .i64 o, .int .i64 i, .int .i64 h] 26))
  have HBK := hide (Bk.born w 26 #[.slice A n c, .slice A' n' c', .int .i64 o, .int .i64 i, .int .i64 h])
  have HX := hide (hx.below D0.out (Nat.le_refl _))
  have HY := hide (hy.below D0.out (Nat.le_refl _))
  have hbz : w.heap.size < (w.alloc (.cells #[.slice A n c, .slice A' n' c', .int .i64 o, .int .i64 i, .int .i64 h] 26)).heap.size := by simp
  have hle := hx.le
  have hle' := hy.le
  have HZ := hide (hz.below D0.out (Nat.le_refl _))
  have hle2 := hz.le
  clear hx hy hz
  cases hlg : (decide (100 < n) || decide (100 < n')) with
  | true =>
    have HLG := hide hlg
    clear hlg
    go_enter Try.func8, Try.ntmps8
    go_wp2_with (first
      | (have hgd := D1; clear hgd; go_at_call 19; refine (known_any _).mono ?_; rintro e2 w2 ⟨rfl, b2⟩; have D2 := hide b2; clear b2; obtain ⟨f20, f21, f22, f23, f24⟩ := two_cells HBK.out (show Below _ _ w2 from (le_call D1.out D2.out)) hbz)
      | (have hgd := D0; clear hgd; go_at_call 18; refine (Long_any A n c A' n' c' o i h _ hle hle').mono ?_; rintro e1 w1 ⟨rfl, b1⟩; rw [HLG.out]; have D1 := hide b1; clear b1; obtain ⟨f10, f11, f12, f13, f14⟩ := two_cells HBK.out (show Below _ _ w1 from D1.out) hbz))
    go_ret
    exact ⟨ret_bool (by simp), (le_call (le_call D0.out D1.out) D2.out)⟩
  | false =>
    have HLG := hide hlg
    clear hlg
    cases hlz : decide (100 < n2) with
    | true =>
      have HLZ := hide hlz
      clear hlz
      go_enter Try.func8, Try.ntmps8
      go_wp2_with (first
        | (have hgd := D1; clear hgd; go_at_call 19; refine (known_any _).mono ?_; rintro e2 w2 ⟨rfl, b2⟩; have D2 := hide b2; clear b2; obtain ⟨f20, f21, f22, f23, f24⟩ := two_cells HBK.out (show Below _ _ w2 from (le_call D1.out D2.out)) hbz)
        | (go_at_call 32; refine (large_any A2 n2 c2 _ hle2).mono ?_; rw [HLZ.out]; rintro e w' ⟨rfl, rfl⟩)
        | (have hgd := D0; clear hgd; go_at_call 18; refine (Long_any A n c A' n' c' o i h _ hle hle').mono ?_; rintro e1 w1 ⟨rfl, b1⟩; rw [HLG.out]; have D1 := hide b1; clear b1; obtain ⟨f10, f11, f12, f13, f14⟩ := two_cells HBK.out (show Below _ _ w1 from D1.out) hbz))
      go_ret
      exact ⟨ret_bool (by simp), (le_call (le_call D0.out D1.out) D2.out)⟩
    | false =>
      have HLZ := hide hlz
      clear hlz
      by_cases hoi : o = i
      · subst hoi
        have hob : (o != o) = false := by simp
        by_cases he : errD xs ys ⟨o, o, h⟩ = 0
        · have HE := hide he
          by_cases hf : errD xs zs ⟨o, o, h⟩ = 0
          · have HF := hide hf
            by_cases hg : errD zs ys ⟨o, o, h⟩ = 0
            · have HG := hide hg
              have hr : errD ys xs ⟨o, o, h⟩ = 0 := errD_ok.2 ⟨(errD_ok.1 he).2.1, (errD_ok.1 he).1, (errD_ok.1 he).2.2⟩
              have HR := hide hr
              have HV1 := hide (distV_ok he)
              have HV2 := hide (distV_ok hf)
              have HV3 := hide (distV_ok hg)
              have HV4 := hide (show distV ys xs ⟨o, o, h⟩ = dist xs ys ⟨o, o, h⟩ from by rw [distV_ok hr]; exact dist_swap xs ys ⟨o, o, h⟩)
              have htri := dist_tri (errD_ok.1 he).2.2 xs zs ys
              have b1 := dist_bd he
              have b2 := dist_bd hf
              have b3 := dist_bd hg
              clear he hf hg hr
              generalize dist xs ys ⟨o, o, h⟩ = d1 at *
              generalize dist xs zs ⟨o, o, h⟩ = d2 at *
              generalize dist zs ys ⟨o, o, h⟩ = d3 at *
              go_enter Try.func8, Try.ntmps8
              go_wp2_with (first
                | (have hgd := D5; clear hgd; go_at_call 19; refine (known_any _).mono ?_; rintro e6 w6 ⟨rfl, b6⟩; have D6 := hide b6; clear b6; obtain ⟨f60, f61, f62, f63, f64⟩ := two_cells HBK.out (show Below _ _ w6 from (le_call (le_call (le_call (le_call (le_call D1.out D2.out) D3.out) D4.out) D5.out) D6.out)) hbz)
                | (have hgd := D4; clear hgd; go_at_call 26; refine (Distance_any A' n' c' ys A n c xs o o h _ ((((HY.out.below D1.out (Nat.le_refl _)).below D2.out (Nat.le_refl _)).below D3.out (Nat.le_refl _)).below D4.out (Nat.le_refl _)) ((((HX.out.below D1.out (Nat.le_refl _)).below D2.out (Nat.le_refl _)).below D3.out (Nat.le_refl _)).below D4.out (Nat.le_refl _))).mono ?_; rintro e5 w5 ⟨rfl, b5⟩; rw [HV4.out, HR.out]; have D5 := hide b5; clear b5; obtain ⟨f50, f51, f52, f53, f54⟩ := two_cells HBK.out (show Below _ _ w5 from (le_call (le_call (le_call (le_call D1.out D2.out) D3.out) D4.out) D5.out)) hbz)
                | (have hgd := D3; clear hgd; go_at_call 26; refine (Distance_any A2 n2 c2 zs A' n' c' ys o o h _ (((HZ.out.below D1.out (Nat.le_refl _)).below D2.out (Nat.le_refl _)).below D3.out (Nat.le_refl _)) (((HY.out.below D1.out (Nat.le_refl _)).below D2.out (Nat.le_refl _)).below D3.out (Nat.le_refl _))).mono ?_; rintro e4 w4 ⟨rfl, b4⟩; rw [HV3.out, HG.out]; have D4 := hide b4; clear b4; obtain ⟨f40, f41, f42, f43, f44⟩ := two_cells HBK.out (show Below _ _ w4 from (le_call (le_call (le_call D1.out D2.out) D3.out) D4.out)) hbz)
                | (have hgd := D2; clear hgd; go_at_call 26; refine (Distance_any A n c xs A2 n2 c2 zs o o h _ ((HX.out.below D1.out (Nat.le_refl _)).below D2.out (Nat.le_refl _)) ((HZ.out.below D1.out (Nat.le_refl _)).below D2.out (Nat.le_refl _))).mono ?_; rintro e3 w3 ⟨rfl, b3⟩; rw [HV2.out, HF.out]; have D3 := hide b3; clear b3; obtain ⟨f30, f31, f32, f33, f34⟩ := two_cells HBK.out (show Below _ _ w3 from (le_call (le_call D1.out D2.out) D3.out)) hbz)
                | (have hgd := D1; clear hgd; go_at_call 26; refine (Distance_any A n c xs A' n' c' ys o o h _ (HX.out.below D1.out (Nat.le_refl _)) (HY.out.below D1.out (Nat.le_refl _))).mono ?_; rintro e2 w2 ⟨rfl, b2⟩; rw [HV1.out, HE.out]; have D2 := hide b2; clear b2; obtain ⟨f20, f21, f22, f23, f24⟩ := two_cells HBK.out (show Below _ _ w2 from (le_call D1.out D2.out)) hbz)
                | (go_at_call 32; refine (large_any A2 n2 c2 _ hle2).mono ?_; rw [HLZ.out]; rintro e w' ⟨rfl, rfl⟩)
                | (have hgd := D0; clear hgd; go_at_call 18; refine (Long_any A n c A' n' c' o o h _ hle hle').mono ?_; rintro e1 w1 ⟨rfl, b1⟩; rw [HLG.out]; have D1 := hide b1; clear b1; obtain ⟨f10, f11, f12, f13, f14⟩ := two_cells HBK.out (show Below _ _ w1 from D1.out) hbz))
              go_ret
              exact ⟨ret_bool (by simp), (le_call (le_call (le_call (le_call (le_call (le_call D0.out D1.out) D2.out) D3.out) D4.out) D5.out) D6.out)⟩
            · have hgb : (errD zs ys ⟨o, o, h⟩ != 0) = true := by simpa using hg
              clear he hf hg
              go_enter Try.func8, Try.ntmps8
              go_wp2_with (first
                | (have hgd := D4; clear hgd; go_at_call 19; refine (known_any _).mono ?_; rintro e5 w5 ⟨rfl, b5⟩; have D5 := hide b5; clear b5; obtain ⟨f50, f51, f52, f53, f54⟩ := two_cells HBK.out (show Below _ _ w5 from (le_call (le_call (le_call (le_call D1.out D2.out) D3.out) D4.out) D5.out)) hbz)
                | (have hgd := D3; clear hgd; go_at_call 26; refine (Distance_any A2 n2 c2 zs A' n' c' ys o o h _ (((HZ.out.below D1.out (Nat.le_refl _)).below D2.out (Nat.le_refl _)).below D3.out (Nat.le_refl _)) (((HY.out.below D1.out (Nat.le_refl _)).below D2.out (Nat.le_refl _)).below D3.out (Nat.le_refl _))).mono ?_; rintro e4 w4 ⟨rfl, b4⟩; have D4 := hide b4; clear b4; obtain ⟨f40, f41, f42, f43, f44⟩ := two_cells HBK.out (show Below _ _ w4 from (le_call (le_call (le_call D1.out D2.out) D3.out) D4.out)) hbz)
                | (have hgd := D2; clear hgd; go_at_call 26; refine (Distance_any A n c xs A2 n2 c2 zs o o h _ ((HX.out.below D1.out (Nat.le_refl _)).below D2.out (Nat.le_refl _)) ((HZ.out.below D1.out (Nat.le_refl _)).below D2.out (Nat.le_refl _))).mono ?_; rintro e3 w3 ⟨rfl, b3⟩; rw [HF.out]; have D3 := hide b3; clear b3; obtain ⟨f30, f31, f32, f33, f34⟩ := two_cells HBK.out (show Below _ _ w3 from (le_call (le_call D1.out D2.out) D3.out)) hbz)
                | (have hgd := D1; clear hgd; go_at_call 26; refine (Distance_any A n c xs A' n' c' ys o o h _ (HX.out.below D1.out (Nat.le_refl _)) (HY.out.below D1.out (Nat.le_refl _))).mono ?_; rintro e2 w2 ⟨rfl, b2⟩; rw [HE.out]; have D2 := hide b2; clear b2; obtain ⟨f20, f21, f22, f23, f24⟩ := two_cells HBK.out (show Below _ _ w2 from (le_call D1.out D2.out)) hbz)
                | (go_at_call 32; refine (large_any A2 n2 c2 _ hle2).mono ?_; rw [HLZ.out]; rintro e w' ⟨rfl, rfl⟩)
                | (have hgd := D0; clear hgd; go_at_call 18; refine (Long_any A n c A' n' c' o o h _ hle hle').mono ?_; rintro e1 w1 ⟨rfl, b1⟩; rw [HLG.out]; have D1 := hide b1; clear b1; obtain ⟨f10, f11, f12, f13, f14⟩ := two_cells HBK.out (show Below _ _ w1 from D1.out) hbz))
              go_ret
              exact ⟨ret_bool (by simp), (le_call (le_call (le_call (le_call (le_call D0.out D1.out) D2.out) D3.out) D4.out) D5.out)⟩
          · have hfb : (errD xs zs ⟨o, o, h⟩ != 0) = true := by simpa using hf
            clear he hf
            go_enter Try.func8, Try.ntmps8
            go_wp2_with (first
              | (have hgd := D4; clear hgd; go_at_call 19; refine (known_any _).mono ?_; rintro e5 w5 ⟨rfl, b5⟩; have D5 := hide b5; clear b5; obtain ⟨f50, f51, f52, f53, f54⟩ := two_cells HBK.out (show Below _ _ w5 from (le_call (le_call (le_call (le_call D1.out D2.out) D3.out) D4.out) D5.out)) hbz)
              | (have hgd := D3; clear hgd; go_at_call 26; refine (Distance_any A2 n2 c2 zs A' n' c' ys o o h _ (((HZ.out.below D1.out (Nat.le_refl _)).below D2.out (Nat.le_refl _)).below D3.out (Nat.le_refl _)) (((HY.out.below D1.out (Nat.le_refl _)).below D2.out (Nat.le_refl _)).below D3.out (Nat.le_refl _))).mono ?_; rintro e4 w4 ⟨rfl, b4⟩; have D4 := hide b4; clear b4; obtain ⟨f40, f41, f42, f43, f44⟩ := two_cells HBK.out (show Below _ _ w4 from (le_call (le_call (le_call D1.out D2.out) D3.out) D4.out)) hbz)
              | (have hgd := D2; clear hgd; go_at_call 26; refine (Distance_any A n c xs A2 n2 c2 zs o o h _ ((HX.out.below D1.out (Nat.le_refl _)).below D2.out (Nat.le_refl _)) ((HZ.out.below D1.out (Nat.le_refl _)).below D2.out (Nat.le_refl _))).mono ?_; rintro e3 w3 ⟨rfl, b3⟩; have D3 := hide b3; clear b3; obtain ⟨f30, f31, f32, f33, f34⟩ := two_cells HBK.out (show Below _ _ w3 from (le_call (le_call D1.out D2.out) D3.out)) hbz)
              | (have hgd := D1; clear hgd; go_at_call 26; refine (Distance_any A n c xs A' n' c' ys o o h _ (HX.out.below D1.out (Nat.le_refl _)) (HY.out.below D1.out (Nat.le_refl _))).mono ?_; rintro e2 w2 ⟨rfl, b2⟩; rw [HE.out]; have D2 := hide b2; clear b2; obtain ⟨f20, f21, f22, f23, f24⟩ := two_cells HBK.out (show Below _ _ w2 from (le_call D1.out D2.out)) hbz)
              | (go_at_call 32; refine (large_any A2 n2 c2 _ hle2).mono ?_; rw [HLZ.out]; rintro e w' ⟨rfl, rfl⟩)
              | (have hgd := D0; clear hgd; go_at_call 18; refine (Long_any A n c A' n' c' o o h _ hle hle').mono ?_; rintro e1 w1 ⟨rfl, b1⟩; rw [HLG.out]; have D1 := hide b1; clear b1; obtain ⟨f10, f11, f12, f13, f14⟩ := two_cells HBK.out (show Below _ _ w1 from D1.out) hbz))
            go_ret
            exact ⟨ret_bool (by simp), (le_call (le_call (le_call (le_call (le_call D0.out D1.out) D2.out) D3.out) D4.out) D5.out)⟩
        · have heb : (errD xs ys ⟨o, o, h⟩ != 0) = true := by simpa using he
          clear he
          go_enter Try.func8, Try.ntmps8
          go_wp2_with (first
            | (have hgd := D4; clear hgd; go_at_call 19; refine (known_any _).mono ?_; rintro e5 w5 ⟨rfl, b5⟩; have D5 := hide b5; clear b5; obtain ⟨f50, f51, f52, f53, f54⟩ := two_cells HBK.out (show Below _ _ w5 from (le_call (le_call (le_call (le_call D1.out D2.out) D3.out) D4.out) D5.out)) hbz)
            | (have hgd := D3; clear hgd; go_at_call 26; refine (Distance_any A2 n2 c2 zs A' n' c' ys o o h _ (((HZ.out.below D1.out (Nat.le_refl _)).below D2.out (Nat.le_refl _)).below D3.out (Nat.le_refl _)) (((HY.out.below D1.out (Nat.le_refl _)).below D2.out (Nat.le_refl _)).below D3.out (Nat.le_refl _))).mono ?_; rintro e4 w4 ⟨rfl, b4⟩; have D4 := hide b4; clear b4; obtain ⟨f40, f41, f42, f43, f44⟩ := two_cells HBK.out (show Below _ _ w4 from (le_call (le_call (le_call D1.out D2.out) D3.out) D4.out)) hbz)
            | (have hgd := D2; clear hgd; go_at_call 26; refine (Distance_any A n c xs A2 n2 c2 zs o o h _ ((HX.out.below D1.out (Nat.le_refl _)).below D2.out (Nat.le_refl _)) ((HZ.out.below D1.out (Nat.le_refl _)).below D2.out (Nat.le_refl _))).mono ?_; rintro e3 w3 ⟨rfl, b3⟩; have D3 := hide b3; clear b3; obtain ⟨f30, f31, f32, f33, f34⟩ := two_cells HBK.out (show Below _ _ w3 from (le_call (le_call D1.out D2.out) D3.out)) hbz)
            | (have hgd := D1; clear hgd; go_at_call 26; refine (Distance_any A n c xs A' n' c' ys o o h _ (HX.out.below D1.out (Nat.le_refl _)) (HY.out.below D1.out (Nat.le_refl _))).mono ?_; rintro e2 w2 ⟨rfl, b2⟩; have D2 := hide b2; clear b2; obtain ⟨f20, f21, f22, f23, f24⟩ := two_cells HBK.out (show Below _ _ w2 from (le_call D1.out D2.out)) hbz)
            | (go_at_call 32; refine (large_any A2 n2 c2 _ hle2).mono ?_; rw [HLZ.out]; rintro e w' ⟨rfl, rfl⟩)
            | (have hgd := D0; clear hgd; go_at_call 18; refine (Long_any A n c A' n' c' o o h _ hle hle').mono ?_; rintro e1 w1 ⟨rfl, b1⟩; rw [HLG.out]; have D1 := hide b1; clear b1; obtain ⟨f10, f11, f12, f13, f14⟩ := two_cells HBK.out (show Below _ _ w1 from D1.out) hbz))
          go_ret
          exact ⟨ret_bool (by simp), (le_call (le_call (le_call (le_call (le_call D0.out D1.out) D2.out) D3.out) D4.out) D5.out)⟩
      · have hob : (o != i) = true := by simpa using hoi
        clear hoi
        go_enter Try.func8, Try.ntmps8
        go_wp2_with (first
          | (have hgd := D4; clear hgd; go_at_call 19; refine (known_any _).mono ?_; rintro e5 w5 ⟨rfl, b5⟩; have D5 := hide b5; clear b5; obtain ⟨f50, f51, f52, f53, f54⟩ := two_cells HBK.out (show Below _ _ w5 from (le_call (le_call (le_call (le_call D1.out D2.out) D3.out) D4.out) D5.out)) hbz)
          | (have hgd := D3; clear hgd; go_at_call 26; refine (Distance_any A2 n2 c2 zs A' n' c' ys o i h _ (((HZ.out.below D1.out (Nat.le_refl _)).below D2.out (Nat.le_refl _)).below D3.out (Nat.le_refl _)) (((HY.out.below D1.out (Nat.le_refl _)).below D2.out (Nat.le_refl _)).below D3.out (Nat.le_refl _))).mono ?_; rintro e4 w4 ⟨rfl, b4⟩; have D4 := hide b4; clear b4; obtain ⟨f40, f41, f42, f43, f44⟩ := two_cells HBK.out (show Below _ _ w4 from (le_call (le_call (le_call D1.out D2.out) D3.out) D4.out)) hbz)
          | (have hgd := D2; clear hgd; go_at_call 26; refine (Distance_any A n c xs A2 n2 c2 zs o i h _ ((HX.out.below D1.out (Nat.le_refl _)).below D2.out (Nat.le_refl _)) ((HZ.out.below D1.out (Nat.le_refl _)).below D2.out (Nat.le_refl _))).mono ?_; rintro e3 w3 ⟨rfl, b3⟩; have D3 := hide b3; clear b3; obtain ⟨f30, f31, f32, f33, f34⟩ := two_cells HBK.out (show Below _ _ w3 from (le_call (le_call D1.out D2.out) D3.out)) hbz)
          | (have hgd := D1; clear hgd; go_at_call 26; refine (Distance_any A n c xs A' n' c' ys o i h _ (HX.out.below D1.out (Nat.le_refl _)) (HY.out.below D1.out (Nat.le_refl _))).mono ?_; rintro e2 w2 ⟨rfl, b2⟩; have D2 := hide b2; clear b2; obtain ⟨f20, f21, f22, f23, f24⟩ := two_cells HBK.out (show Below _ _ w2 from (le_call D1.out D2.out)) hbz)
          | (go_at_call 32; refine (large_any A2 n2 c2 _ hle2).mono ?_; rw [HLZ.out]; rintro e w' ⟨rfl, rfl⟩)
          | (have hgd := D0; clear hgd; go_at_call 18; refine (Long_any A n c A' n' c' o i h _ hle hle').mono ?_; rintro e1 w1 ⟨rfl, b1⟩; rw [HLG.out]; have D1 := hide b1; clear b1; obtain ⟨f10, f11, f12, f13, f14⟩ := two_cells HBK.out (show Below _ _ w1 from D1.out) hbz))
        go_ret
        exact ⟨ret_bool (by simp), (le_call (le_call (le_call (le_call (le_call D0.out D1.out) D2.out) D3.out) D4.out) D5.out)⟩
end Go.Proofs.Ytndfdminjegldaa
