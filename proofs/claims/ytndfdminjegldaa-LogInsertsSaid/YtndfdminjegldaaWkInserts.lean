/- LogInserts: the walk. -/
import Derived.Test.YtndfdminjegldaaKnown
import Derived.Test.YtndfdminjegldaaWalkL
namespace Go.Proofs.Ytndfdminjegldaa
open Go.RowKit Go.Shelf
attribute [local go_sem] Oper.semAt_some

set_option maxRecDepth 100000 in
set_option maxHeartbeats 8000000 in
theorem LogInserts_walk (A : Option Addr) (n c : Nat) (xs : List Int) (A' : Option Addr) (n' c' : Nat) (ys : List Int) (o i h : Int) (a x : Int) (w : World) (hx : R E1 w A n c xs) (hy : R E1 w A' n' c' ys) (hw0 : (Lit.int .i64 a).wf = true) (hw1 : (Lit.int .i64 x).wf = true) :
    Calls Try.prog 16 #[tV A n c A' n' c' o i h, .int .i64 a, .int .i64 x] w fun e w' => e = .returned (.bool true) ∧ Below w.heap.size w w' := by
  have D0 := hide ((Below.refl w.heap.size w).alloc (Nat.le_refl _) (.cells #[.slice A n c, .slice A' n' c', .int .i64 o, .int .i64 i, .int .i64 h] 26))
  have HBK := hide (Bk.born w 26 #[.slice A n c, .slice A' n' c', .int .i64 o, .int .i64 i, .int .i64 h])
  have HX := hide (hx.below D0.out (Nat.le_refl _))
  have HY := hide (hy.below D0.out (Nat.le_refl _))
  have hbz : w.heap.size < (w.alloc (.cells #[.slice A n c, .slice A' n' c', .int .i64 o, .int .i64 i, .int .i64 h] 26)).heap.size := by simp
  have hle := hx.le
  have hle' := hy.le
  clear hx hy
  cases hlg : (decide (100 < n) || decide (100 < n')) with
  | true =>
    have HLG := hide hlg
    clear hlg
    go_enter Try.func16, Try.ntmps16
    go_wp2_with (first
      | (have hgd := D1; clear hgd; go_at_call 19; refine (known_any _).mono ?_; rintro e2 w2 ⟨rfl, b2⟩; have D2 := hide b2; clear b2; obtain ⟨f20, f21, f22, f23, f24⟩ := two_cells HBK.out (show Below _ _ w2 from (le_call D1.out D2.out)) hbz)
      | (have hgd := D0; clear hgd; go_at_call 18; refine (Long_any A n c A' n' c' o i h _ hle hle').mono ?_; rintro e1 w1 ⟨rfl, b1⟩; rw [HLG.out]; have D1 := hide b1; clear b1; obtain ⟨f10, f11, f12, f13, f14⟩ := two_cells HBK.out (show Below _ _ w1 from D1.out) hbz))
    go_ret
    exact ⟨ret_bool (by simp), (le_call (le_call D0.out D1.out) D2.out)⟩
  | false =>
    have HLG := hide hlg
    have HTL := hide (insV_len ys a x)
    clear hlg
    by_cases hi0 : insE ys a x = 0
    · have HI := hide hi0
      by_cases he : errD xs ys ⟨o, i, h⟩ = 0
      · have HE := hide he
        obtain ⟨q1, q2, q3⟩ := errD_ok.1 he
        have hr : errD xs (insV ys a x) ⟨o, i, h⟩ = 0 := errD_ok.2 ⟨q1, insL_err hi0, q3⟩
        have HR := hide hr
        have HV1 := hide (distV_ok he)
        have HV2 := hide (distV_ok hr)
        have b1 := dist_bd he
        have b2 := dist_bd hr
        have hins := dist_ins q3 xs (ys.take a.toNat) (ys.drop a.toNat) x
        rw [List.take_append_drop, show ys.take a.toNat ++ x :: ys.drop a.toNat = insV ys a x from (insV_ok hi0).symm] at hins
        obtain ⟨⟨ho1, ho9⟩, ⟨hi1, hi9⟩, _⟩ := q3
        simp only at ho1 ho9 hi1 hi9 hins
        clear he hr hi0 q1 q2
        generalize dist xs ys ⟨o, i, h⟩ = d1 at *
        generalize dist xs (insV ys a x) ⟨o, i, h⟩ = d2 at *
        by_cases hm : i < o
        · have e1 : d2 ≤ d1 + o := by omega
          have e2 : d1 ≤ d2 + o := by omega
          go_enter Try.func16, Try.ntmps16
          go_wp2_with (first
            | (have hgd := D6; clear hgd; go_at_call 19; refine (known_any _).mono ?_; rintro e7 w7 ⟨rfl, b7⟩; have D7 := hide b7; clear b7; obtain ⟨f70, f71, f72, f73, f74⟩ := two_cells HBK.out (show Below _ _ w7 from (le_call (le_call (le_call (le_call (le_call (le_call D1.out D2.out) D3.out) D4.out) D5.out) D6.out) D7.out)) hbz)
            | (have hgd := D5; clear hgd; go_at_call 26; refine (Distance_any A n c xs A2 n2 c2 (insV ys a x) o i h _ (((((HX.out.below D1.out (Nat.le_refl _)).below D2.out (Nat.le_refl _)).below D3.out (Nat.le_refl _)).below D4.out (Nat.le_refl _)).below D5.out (Nat.le_refl _)) (((O2.out.below D3.out (Nat.le_refl _)).below D4.out (Nat.le_refl _)).below D5.out (Nat.le_refl _))).mono ?_; rintro e6 w6 ⟨rfl, b6⟩; rw [HV2.out, HR.out]; have D6 := hide b6; clear b6; obtain ⟨f60, f61, f62, f63, f64⟩ := two_cells HBK.out (show Below _ _ w6 from (le_call (le_call (le_call (le_call (le_call D1.out D2.out) D3.out) D4.out) D5.out) D6.out)) hbz)
            | (have hgd := D4; clear hgd; go_at_call 26; refine (Distance_any A n c xs A' n' c' ys o i h _ ((((HX.out.below D1.out (Nat.le_refl _)).below D2.out (Nat.le_refl _)).below D3.out (Nat.le_refl _)).below D4.out (Nat.le_refl _)) ((((HY.out.below D1.out (Nat.le_refl _)).below D2.out (Nat.le_refl _)).below D3.out (Nat.le_refl _)).below D4.out (Nat.le_refl _))).mono ?_; rintro e5 w5 ⟨rfl, b5⟩; rw [HV1.out, HE.out]; have D5 := hide b5; clear b5; obtain ⟨f50, f51, f52, f53, f54⟩ := two_cells HBK.out (show Below _ _ w5 from (le_call (le_call (le_call (le_call D1.out D2.out) D3.out) D4.out) D5.out)) hbz)
            | (have hgd := D3; clear hgd; go_at_call 29; refine (SameInts_any A2 n2 c2 A3 n3 c3 (insV ys a x) (insV ys a x) _ (O2.out.below D3.out (Nat.le_refl _)) O3.out (by have h1 := HN2.out; have h2 := HTL.out; omega) (by have h1 := HN3.out; have h2 := HTL.out; omega)).mono ?_; rintro e4 w4 ⟨rfl, q4, hw4⟩; have D4 := hide (show Below w3.heap.size w3 w4 from by rw [hw4]; exact below_drewN (Below.refl _ _) q4); clear hw4; rw [beq_self_eq_true]; obtain ⟨f40, f41, f42, f43, f44⟩ := two_cells HBK.out (show Below _ _ w4 from (le_call (le_call (le_call D1.out D2.out) D3.out) D4.out)) hbz)
            | (have hgd := D2; clear hgd; go_at_call 54; refine (rInsert_any A' n' c' ys a x _ ((HY.out.below D1.out (Nat.le_refl _)).below D2.out (Nat.le_refl _))).mono ?_; rintro e3 w3 ⟨A3, n3, c3, rfl, o3, b3⟩; rw [HI.out]; have O3 := hide o3.row; have HN3 := hide o3.len; clear o3; have D3 := hide b3; clear b3; obtain ⟨f30, f31, f32, f33, f34⟩ := two_cells HBK.out (show Below _ _ w3 from (le_call (le_call D1.out D2.out) D3.out)) hbz)
            | (have hgd := D1; clear hgd; go_at_call 53; refine (Insert_any A' n' c' ys a x _ (HY.out.below D1.out (Nat.le_refl _))).mono ?_; rintro e2 w2 ⟨A2, n2, c2, rfl, o2, b2⟩; rw [HI.out]; have O2 := hide o2.row; have HN2 := hide o2.len; clear o2; have D2 := hide b2; clear b2; obtain ⟨f20, f21, f22, f23, f24⟩ := two_cells HBK.out (show Below _ _ w2 from (le_call D1.out D2.out)) hbz)
            | (have hgd := D0; clear hgd; go_at_call 18; refine (Long_any A n c A' n' c' o i h _ hle hle').mono ?_; rintro e1 w1 ⟨rfl, b1⟩; rw [HLG.out]; have D1 := hide b1; clear b1; obtain ⟨f10, f11, f12, f13, f14⟩ := two_cells HBK.out (show Below _ _ w1 from D1.out) hbz))
          go_ret
          exact ⟨ret_bool (by simp), (le_call (le_call (le_call (le_call (le_call (le_call (le_call D0.out D1.out) D2.out) D3.out) D4.out) D5.out) D6.out) D7.out)⟩
        · have e1 : d2 ≤ d1 + i := by omega
          have e2 : d1 ≤ d2 + i := by omega
          go_enter Try.func16, Try.ntmps16
          go_wp2_with (first
            | (have hgd := D6; clear hgd; go_at_call 19; refine (known_any _).mono ?_; rintro e7 w7 ⟨rfl, b7⟩; have D7 := hide b7; clear b7; obtain ⟨f70, f71, f72, f73, f74⟩ := two_cells HBK.out (show Below _ _ w7 from (le_call (le_call (le_call (le_call (le_call (le_call D1.out D2.out) D3.out) D4.out) D5.out) D6.out) D7.out)) hbz)
            | (have hgd := D5; clear hgd; go_at_call 26; refine (Distance_any A n c xs A2 n2 c2 (insV ys a x) o i h _ (((((HX.out.below D1.out (Nat.le_refl _)).below D2.out (Nat.le_refl _)).below D3.out (Nat.le_refl _)).below D4.out (Nat.le_refl _)).below D5.out (Nat.le_refl _)) (((O2.out.below D3.out (Nat.le_refl _)).below D4.out (Nat.le_refl _)).below D5.out (Nat.le_refl _))).mono ?_; rintro e6 w6 ⟨rfl, b6⟩; rw [HV2.out, HR.out]; have D6 := hide b6; clear b6; obtain ⟨f60, f61, f62, f63, f64⟩ := two_cells HBK.out (show Below _ _ w6 from (le_call (le_call (le_call (le_call (le_call D1.out D2.out) D3.out) D4.out) D5.out) D6.out)) hbz)
            | (have hgd := D4; clear hgd; go_at_call 26; refine (Distance_any A n c xs A' n' c' ys o i h _ ((((HX.out.below D1.out (Nat.le_refl _)).below D2.out (Nat.le_refl _)).below D3.out (Nat.le_refl _)).below D4.out (Nat.le_refl _)) ((((HY.out.below D1.out (Nat.le_refl _)).below D2.out (Nat.le_refl _)).below D3.out (Nat.le_refl _)).below D4.out (Nat.le_refl _))).mono ?_; rintro e5 w5 ⟨rfl, b5⟩; rw [HV1.out, HE.out]; have D5 := hide b5; clear b5; obtain ⟨f50, f51, f52, f53, f54⟩ := two_cells HBK.out (show Below _ _ w5 from (le_call (le_call (le_call (le_call D1.out D2.out) D3.out) D4.out) D5.out)) hbz)
            | (have hgd := D3; clear hgd; go_at_call 29; refine (SameInts_any A2 n2 c2 A3 n3 c3 (insV ys a x) (insV ys a x) _ (O2.out.below D3.out (Nat.le_refl _)) O3.out (by have h1 := HN2.out; have h2 := HTL.out; omega) (by have h1 := HN3.out; have h2 := HTL.out; omega)).mono ?_; rintro e4 w4 ⟨rfl, q4, hw4⟩; have D4 := hide (show Below w3.heap.size w3 w4 from by rw [hw4]; exact below_drewN (Below.refl _ _) q4); clear hw4; rw [beq_self_eq_true]; obtain ⟨f40, f41, f42, f43, f44⟩ := two_cells HBK.out (show Below _ _ w4 from (le_call (le_call (le_call D1.out D2.out) D3.out) D4.out)) hbz)
            | (have hgd := D2; clear hgd; go_at_call 54; refine (rInsert_any A' n' c' ys a x _ ((HY.out.below D1.out (Nat.le_refl _)).below D2.out (Nat.le_refl _))).mono ?_; rintro e3 w3 ⟨A3, n3, c3, rfl, o3, b3⟩; rw [HI.out]; have O3 := hide o3.row; have HN3 := hide o3.len; clear o3; have D3 := hide b3; clear b3; obtain ⟨f30, f31, f32, f33, f34⟩ := two_cells HBK.out (show Below _ _ w3 from (le_call (le_call D1.out D2.out) D3.out)) hbz)
            | (have hgd := D1; clear hgd; go_at_call 53; refine (Insert_any A' n' c' ys a x _ (HY.out.below D1.out (Nat.le_refl _))).mono ?_; rintro e2 w2 ⟨A2, n2, c2, rfl, o2, b2⟩; rw [HI.out]; have O2 := hide o2.row; have HN2 := hide o2.len; clear o2; have D2 := hide b2; clear b2; obtain ⟨f20, f21, f22, f23, f24⟩ := two_cells HBK.out (show Below _ _ w2 from (le_call D1.out D2.out)) hbz)
            | (have hgd := D0; clear hgd; go_at_call 18; refine (Long_any A n c A' n' c' o i h _ hle hle').mono ?_; rintro e1 w1 ⟨rfl, b1⟩; rw [HLG.out]; have D1 := hide b1; clear b1; obtain ⟨f10, f11, f12, f13, f14⟩ := two_cells HBK.out (show Below _ _ w1 from D1.out) hbz))
          go_ret
          exact ⟨ret_bool (by simp), (le_call (le_call (le_call (le_call (le_call (le_call (le_call D0.out D1.out) D2.out) D3.out) D4.out) D5.out) D6.out) D7.out)⟩
      · have heb : (errD xs ys ⟨o, i, h⟩ != 0) = true := by simpa using he
        clear he hi0
        go_enter Try.func16, Try.ntmps16
        go_wp2_with (first
          | (have hgd := D6; clear hgd; go_at_call 19; refine (known_any _).mono ?_; rintro e7 w7 ⟨rfl, b7⟩; have D7 := hide b7; clear b7; obtain ⟨f70, f71, f72, f73, f74⟩ := two_cells HBK.out (show Below _ _ w7 from (le_call (le_call (le_call (le_call (le_call (le_call D1.out D2.out) D3.out) D4.out) D5.out) D6.out) D7.out)) hbz)
          | (have hgd := D5; clear hgd; go_at_call 26; refine (Distance_any A n c xs A2 n2 c2 (insV ys a x) o i h _ (((((HX.out.below D1.out (Nat.le_refl _)).below D2.out (Nat.le_refl _)).below D3.out (Nat.le_refl _)).below D4.out (Nat.le_refl _)).below D5.out (Nat.le_refl _)) (((O2.out.below D3.out (Nat.le_refl _)).below D4.out (Nat.le_refl _)).below D5.out (Nat.le_refl _))).mono ?_; rintro e6 w6 ⟨rfl, b6⟩; have D6 := hide b6; clear b6; obtain ⟨f60, f61, f62, f63, f64⟩ := two_cells HBK.out (show Below _ _ w6 from (le_call (le_call (le_call (le_call (le_call D1.out D2.out) D3.out) D4.out) D5.out) D6.out)) hbz)
          | (have hgd := D4; clear hgd; go_at_call 26; refine (Distance_any A n c xs A' n' c' ys o i h _ ((((HX.out.below D1.out (Nat.le_refl _)).below D2.out (Nat.le_refl _)).below D3.out (Nat.le_refl _)).below D4.out (Nat.le_refl _)) ((((HY.out.below D1.out (Nat.le_refl _)).below D2.out (Nat.le_refl _)).below D3.out (Nat.le_refl _)).below D4.out (Nat.le_refl _))).mono ?_; rintro e5 w5 ⟨rfl, b5⟩; have D5 := hide b5; clear b5; obtain ⟨f50, f51, f52, f53, f54⟩ := two_cells HBK.out (show Below _ _ w5 from (le_call (le_call (le_call (le_call D1.out D2.out) D3.out) D4.out) D5.out)) hbz)
          | (have hgd := D3; clear hgd; go_at_call 29; refine (SameInts_any A2 n2 c2 A3 n3 c3 (insV ys a x) (insV ys a x) _ (O2.out.below D3.out (Nat.le_refl _)) O3.out (by have h1 := HN2.out; have h2 := HTL.out; omega) (by have h1 := HN3.out; have h2 := HTL.out; omega)).mono ?_; rintro e4 w4 ⟨rfl, q4, hw4⟩; have D4 := hide (show Below w3.heap.size w3 w4 from by rw [hw4]; exact below_drewN (Below.refl _ _) q4); clear hw4; rw [beq_self_eq_true]; obtain ⟨f40, f41, f42, f43, f44⟩ := two_cells HBK.out (show Below _ _ w4 from (le_call (le_call (le_call D1.out D2.out) D3.out) D4.out)) hbz)
          | (have hgd := D2; clear hgd; go_at_call 54; refine (rInsert_any A' n' c' ys a x _ ((HY.out.below D1.out (Nat.le_refl _)).below D2.out (Nat.le_refl _))).mono ?_; rintro e3 w3 ⟨A3, n3, c3, rfl, o3, b3⟩; rw [HI.out]; have O3 := hide o3.row; have HN3 := hide o3.len; clear o3; have D3 := hide b3; clear b3; obtain ⟨f30, f31, f32, f33, f34⟩ := two_cells HBK.out (show Below _ _ w3 from (le_call (le_call D1.out D2.out) D3.out)) hbz)
          | (have hgd := D1; clear hgd; go_at_call 53; refine (Insert_any A' n' c' ys a x _ (HY.out.below D1.out (Nat.le_refl _))).mono ?_; rintro e2 w2 ⟨A2, n2, c2, rfl, o2, b2⟩; rw [HI.out]; have O2 := hide o2.row; have HN2 := hide o2.len; clear o2; have D2 := hide b2; clear b2; obtain ⟨f20, f21, f22, f23, f24⟩ := two_cells HBK.out (show Below _ _ w2 from (le_call D1.out D2.out)) hbz)
          | (have hgd := D0; clear hgd; go_at_call 18; refine (Long_any A n c A' n' c' o i h _ hle hle').mono ?_; rintro e1 w1 ⟨rfl, b1⟩; rw [HLG.out]; have D1 := hide b1; clear b1; obtain ⟨f10, f11, f12, f13, f14⟩ := two_cells HBK.out (show Below _ _ w1 from D1.out) hbz))
        go_ret
        exact ⟨ret_bool (by simp), (le_call (le_call (le_call (le_call (le_call (le_call (le_call D0.out D1.out) D2.out) D3.out) D4.out) D5.out) D6.out) D7.out)⟩
    · have hib : (insE ys a x != 0) = true := by simpa using hi0
      clear hi0
      go_enter Try.func16, Try.ntmps16
      go_wp2_with (first
        | (have hgd := D6; clear hgd; go_at_call 19; refine (known_any _).mono ?_; rintro e7 w7 ⟨rfl, b7⟩; have D7 := hide b7; clear b7; obtain ⟨f70, f71, f72, f73, f74⟩ := two_cells HBK.out (show Below _ _ w7 from (le_call (le_call (le_call (le_call (le_call (le_call D1.out D2.out) D3.out) D4.out) D5.out) D6.out) D7.out)) hbz)
        | (have hgd := D5; clear hgd; go_at_call 26; refine (Distance_any A n c xs A2 n2 c2 (insV ys a x) o i h _ (((((HX.out.below D1.out (Nat.le_refl _)).below D2.out (Nat.le_refl _)).below D3.out (Nat.le_refl _)).below D4.out (Nat.le_refl _)).below D5.out (Nat.le_refl _)) (((O2.out.below D3.out (Nat.le_refl _)).below D4.out (Nat.le_refl _)).below D5.out (Nat.le_refl _))).mono ?_; rintro e6 w6 ⟨rfl, b6⟩; have D6 := hide b6; clear b6; obtain ⟨f60, f61, f62, f63, f64⟩ := two_cells HBK.out (show Below _ _ w6 from (le_call (le_call (le_call (le_call (le_call D1.out D2.out) D3.out) D4.out) D5.out) D6.out)) hbz)
        | (have hgd := D4; clear hgd; go_at_call 26; refine (Distance_any A n c xs A' n' c' ys o i h _ ((((HX.out.below D1.out (Nat.le_refl _)).below D2.out (Nat.le_refl _)).below D3.out (Nat.le_refl _)).below D4.out (Nat.le_refl _)) ((((HY.out.below D1.out (Nat.le_refl _)).below D2.out (Nat.le_refl _)).below D3.out (Nat.le_refl _)).below D4.out (Nat.le_refl _))).mono ?_; rintro e5 w5 ⟨rfl, b5⟩; have D5 := hide b5; clear b5; obtain ⟨f50, f51, f52, f53, f54⟩ := two_cells HBK.out (show Below _ _ w5 from (le_call (le_call (le_call (le_call D1.out D2.out) D3.out) D4.out) D5.out)) hbz)
        | (have hgd := D3; clear hgd; go_at_call 29; refine (SameInts_any A2 n2 c2 A3 n3 c3 (insV ys a x) (insV ys a x) _ (O2.out.below D3.out (Nat.le_refl _)) O3.out (by have h1 := HN2.out; have h2 := HTL.out; omega) (by have h1 := HN3.out; have h2 := HTL.out; omega)).mono ?_; rintro e4 w4 ⟨rfl, q4, hw4⟩; have D4 := hide (show Below w3.heap.size w3 w4 from by rw [hw4]; exact below_drewN (Below.refl _ _) q4); clear hw4; rw [beq_self_eq_true]; obtain ⟨f40, f41, f42, f43, f44⟩ := two_cells HBK.out (show Below _ _ w4 from (le_call (le_call (le_call D1.out D2.out) D3.out) D4.out)) hbz)
        | (have hgd := D2; clear hgd; go_at_call 54; refine (rInsert_any A' n' c' ys a x _ ((HY.out.below D1.out (Nat.le_refl _)).below D2.out (Nat.le_refl _))).mono ?_; rintro e3 w3 ⟨A3, n3, c3, rfl, o3, b3⟩; have O3 := hide o3.row; have HN3 := hide o3.len; clear o3; have D3 := hide b3; clear b3; obtain ⟨f30, f31, f32, f33, f34⟩ := two_cells HBK.out (show Below _ _ w3 from (le_call (le_call D1.out D2.out) D3.out)) hbz)
        | (have hgd := D1; clear hgd; go_at_call 53; refine (Insert_any A' n' c' ys a x _ (HY.out.below D1.out (Nat.le_refl _))).mono ?_; rintro e2 w2 ⟨A2, n2, c2, rfl, o2, b2⟩; have O2 := hide o2.row; have HN2 := hide o2.len; clear o2; have D2 := hide b2; clear b2; obtain ⟨f20, f21, f22, f23, f24⟩ := two_cells HBK.out (show Below _ _ w2 from (le_call D1.out D2.out)) hbz)
        | (have hgd := D0; clear hgd; go_at_call 18; refine (Long_any A n c A' n' c' o i h _ hle hle').mono ?_; rintro e1 w1 ⟨rfl, b1⟩; rw [HLG.out]; have D1 := hide b1; clear b1; obtain ⟨f10, f11, f12, f13, f14⟩ := two_cells HBK.out (show Below _ _ w1 from D1.out) hbz))
      go_ret
      exact ⟨ret_bool (by simp), (le_call (le_call (le_call (le_call (le_call (le_call (le_call D0.out D1.out) D2.out) D3.out) D4.out) D5.out) D6.out) D7.out)⟩
end Go.Proofs.Ytndfdminjegldaa
