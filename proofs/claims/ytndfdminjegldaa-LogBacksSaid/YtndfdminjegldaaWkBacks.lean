/- LogBacks: the walk. -/
import Derived.Test.YtndfdminjegldaaKnown
import Derived.Test.YtndfdminjegldaaWalkO
namespace Go.Proofs.Ytndfdminjegldaa
open Go.RowKit Go.Shelf
attribute [local go_sem] Oper.semAt_some

set_option maxRecDepth 100000 in
set_option maxHeartbeats 8000000 in
theorem LogBacks_walk (A : Option Addr) (n c : Nat) (xs : List Int) (A' : Option Addr) (n' c' : Nat) (ys : List Int) (o i h : Int) (w : World) (hx : R E1 w A n c xs) (hy : R E1 w A' n' c' ys) :
    Calls Try.prog 13 #[tV A n c A' n' c' o i h] w fun e w' => e = .returned (.bool true) ∧ Below w.heap.size w w' := by
  have D0 := hide ((Below.refl w.heap.size w).alloc (Nat.le_refl _) (.cells #[.slice A n c, .slice A' n' c', .int .i64 o, .int .i64 i, .int .i64 h] 26))
  have HBK := hide (Bk.born w 26 #[.slice A n c, .slice A' n' c', .int .i64 o, .int .i64 i, .int .i64 h])
  have HX := hide (hx.below D0.out (Nat.le_refl _))
  have HY := hide (hy.below D0.out (Nat.le_refl _))
  have hbz : w.heap.size < (w.alloc (.cells #[.slice A n c, .slice A' n' c', .int .i64 o, .int .i64 i, .int .i64 h] 26)).heap.size := by simp
  have hle := hx.le
  have hle' := hy.le
  clear hx hy
  cases hlg : (decide (100 < n) || decide (100 < n')) with
  | true =>
    have HLG := hide hlg
    clear hlg
    go_enter Try.func13, Try.ntmps13
    go_wp2_with (first
      | (have hgd := D1; clear hgd; go_at_call 19; refine (known_any _).mono ?_; rintro e2 w2 ⟨rfl, b2⟩; have D2 := hide b2; clear b2; obtain ⟨f20, f21, f22, f23, f24⟩ := two_cells HBK.out (show Below _ _ w2 from (le_call D1.out D2.out)) hbz)
      | (have hgd := D0; clear hgd; go_at_call 18; refine (Long_any A n c A' n' c' o i h _ hle hle').mono ?_; rintro e1 w1 ⟨rfl, b1⟩; rw [HLG.out]; have D1 := hide b1; clear b1; obtain ⟨f10, f11, f12, f13, f14⟩ := two_cells HBK.out (show Below _ _ w1 from D1.out) hbz))
    go_ret
    exact ⟨ret_bool (by simp), (le_call (le_call D0.out D1.out) D2.out)⟩
  | false =>
    have HLG := hide hlg
    have HLG2 := hide (show n ≤ 100 from by have := (Bool.or_eq_false_iff.1 hlg).1; simpa using this)
    have HTL := hide (bac_len xs)
    clear hlg
    by_cases ha : errL xs = 0
    · have HA := hide ha
      by_cases hb : errL ys = 0
      · have HB := hide hb
        have HEQ := hide (show errD (bacV xs) (bacV ys) ⟨o, i, h⟩ = errD xs ys ⟨o, i, h⟩ from by
          have e1 : errB (bacV xs) (bacV ys) = 0 := errB_ok.2 ⟨bac_err ha, bac_err hb⟩
          have e2 : errB xs ys = 0 := errB_ok.2 ⟨ha, hb⟩
          rw [errD_yes e1, errD_yes e2])
        have HVQ := hide (show distV (bacV xs) (bacV ys) ⟨o, i, h⟩ = distV xs ys ⟨o, i, h⟩ from by
          unfold distV
          rw [HEQ.out, bacV_ok ha, bacV_ok hb, dist_rev])
        clear ha hb
        go_enter Try.func13, Try.ntmps13
        go_wp2_with (first
          | (have hgd := D7; clear hgd; go_at_call 26; refine (Distance_any A3 n3 c3 (bacV xs) A6 n6 c6 (bacV ys) o i h _ ((((O3.out.below D4.out (Nat.le_refl _)).below D5.out (Nat.le_refl _)).below D6.out (Nat.le_refl _)).below D7.out (Nat.le_refl _)) (O6.out.below D7.out (Nat.le_refl _))).mono ?_; rintro e8 w8 ⟨rfl, b8⟩; rw [HVQ.out, HEQ.out]; have D8 := hide b8; clear b8; obtain ⟨f80, f81, f82, f83, f84⟩ := two_cells HBK.out (show Below _ _ w8 from (le_call (le_call (le_call (le_call (le_call (le_call (le_call D1.out D2.out) D3.out) D4.out) D5.out) D6.out) D7.out) D8.out)) hbz)
          | (have hgd := D6; clear hgd; go_at_call 26; refine (Distance_any A n c xs A' n' c' ys o i h _ ((((((HX.out.below D1.out (Nat.le_refl _)).below D2.out (Nat.le_refl _)).below D3.out (Nat.le_refl _)).below D4.out (Nat.le_refl _)).below D5.out (Nat.le_refl _)).below D6.out (Nat.le_refl _)) ((((((HY.out.below D1.out (Nat.le_refl _)).below D2.out (Nat.le_refl _)).below D3.out (Nat.le_refl _)).below D4.out (Nat.le_refl _)).below D5.out (Nat.le_refl _)).below D6.out (Nat.le_refl _))).mono ?_; rintro e7 w7 ⟨rfl, b7⟩; have D7 := hide b7; clear b7; obtain ⟨f70, f71, f72, f73, f74⟩ := two_cells HBK.out (show Below _ _ w7 from (le_call (le_call (le_call (le_call (le_call (le_call D1.out D2.out) D3.out) D4.out) D5.out) D6.out) D7.out)) hbz)
          | (have hgd := D5; clear hgd; go_at_call 47; refine (Back_any A' n' c' ys _ (((((HY.out.below D1.out (Nat.le_refl _)).below D2.out (Nat.le_refl _)).below D3.out (Nat.le_refl _)).below D4.out (Nat.le_refl _)).below D5.out (Nat.le_refl _))).mono ?_; rintro e6 w6 ⟨A6, n6, c6, rfl, o6, b6⟩; rw [HB.out]; have O6 := hide o6.row; have HN6 := hide o6.len; clear o6; have D6 := hide b6; clear b6; obtain ⟨f60, f61, f62, f63, f64⟩ := two_cells HBK.out (show Below _ _ w6 from (le_call (le_call (le_call (le_call (le_call D1.out D2.out) D3.out) D4.out) D5.out) D6.out)) hbz)
          | (have hgd := D4; clear hgd; go_at_call 29; refine (SameInts_any A3 n3 c3 A4 n4 c4 (bacV xs) (bacV xs) _ (O3.out.below D4.out (Nat.le_refl _)) O4.out (by have h1 := HN3.out; have h2 := HTL.out; omega) (by have h1 := HN4.out; have h2 := HTL.out; omega)).mono ?_; rintro e5 w5 ⟨rfl, q5, hw5⟩; have D5 := hide (show Below w4.heap.size w4 w5 from by rw [hw5]; exact below_drewN (Below.refl _ _) q5); clear hw5; rw [beq_self_eq_true]; obtain ⟨f50, f51, f52, f53, f54⟩ := two_cells HBK.out (show Below _ _ w5 from (le_call (le_call (le_call (le_call D1.out D2.out) D3.out) D4.out) D5.out)) hbz)
          | (have hgd := D3; clear hgd; go_at_call 48; refine (rBack_any A n c xs _ (((HX.out.below D1.out (Nat.le_refl _)).below D2.out (Nat.le_refl _)).below D3.out (Nat.le_refl _))).mono ?_; rintro e4 w4 ⟨A4, n4, c4, rfl, o4, b4⟩; rw [HA.out]; have O4 := hide o4.row; have HN4 := hide o4.len; clear o4; have D4 := hide b4; clear b4; obtain ⟨f40, f41, f42, f43, f44⟩ := two_cells HBK.out (show Below _ _ w4 from (le_call (le_call (le_call D1.out D2.out) D3.out) D4.out)) hbz)
          | (have hgd := D2; clear hgd; go_at_call 47; refine (Back_any A2 n c2 xs _ O2.out.row).mono ?_; rw [HA.out]; rintro e3 w3 ⟨A3, n3, c3, rfl, o3, b3⟩; have P3 := hide o3; have O3 := hide o3.row; have HN3 := hide o3.len; have D3 := hide b3; clear o3 b3; obtain ⟨f30, f31, f32, f33, f34⟩ := two_cells HBK.out (show Below _ _ w3 from (le_call (le_call D1.out D2.out) D3.out)) hbz)
          | (have hgd := D1; clear hgd; at_builtin; refine wpList_appX (E := E1) _ (.int .i64 0) 8 rfl (.tmp 19) (.tmp 21) 22 3 rfl Try.underlying22 info_int rfl (by decide) (by omega) w1.heap.size w1.heap.size A n c xs rfl rfl (Own.lit w1 [] (Nat.le_refl _) (by unfold maxLen; simp)) ((HX.out.below D1.out (Nat.le_refl _)).below ((Below.refl w1.heap.size w1).alloc (Nat.le_refl _) (.cells #[] 3)) (Nat.le_refl _)) (by have := HLG2.out; omega) (by simp) ?_; intro A2 c2 w2 o2 b2; have O2 := hide o2; have D2 := hide (((Below.refl _ w1).alloc (Nat.le_refl _) (.cells #[] 3)).trans b2); clear o2 b2; obtain ⟨f20, f21, f22, f23, f24⟩ := two_cells HBK.out (show Below _ _ w2 from (le_call D1.out D2.out)) hbz)
          | (have hgd := D0; clear hgd; go_at_call 18; refine (Long_any A n c A' n' c' o i h _ hle hle').mono ?_; rintro e1 w1 ⟨rfl, b1⟩; rw [HLG.out]; have D1 := hide b1; clear b1; obtain ⟨f10, f11, f12, f13, f14⟩ := two_cells HBK.out (show Below _ _ w1 from D1.out) hbz; have hgt1 := lt_of_cell f10))
        have HA8 := hide (((((P3.out.below D4.out (Nat.le_refl _)).below D5.out (Nat.le_refl _)).below D6.out (Nat.le_refl _)).below D7.out (Nat.le_refl _)).below D8.out (Nat.le_refl _))
        have HB8 := hide (show Below w2.heap.size w2 w8 from (le_call (le_call (le_call (le_call (le_call D3.out D4.out) D5.out) D6.out) D7.out) D8.out))
        have hx2 := hide (((HX.out.below D1.out (Nat.le_refl _)).below D2.out (Nat.le_refl _)))
        have hbk2 := hide (HBK.out.keep (show Below _ _ w2 from (le_call D1.out D2.out)) hbz)
        have hz2 : w.heap.size < w2.heap.size := Nat.lt_of_lt_of_le hbz (le_call D1.out D2.out).size
        have T2 := hide (le_call (le_call D0.out D1.out) D2.out)
        have HN3L := hide (show n3 ≤ 10 from by have h1 := HN3.out; have h2 := HTL.out; omega)
        go_loopw [15] (fun iv wr => ∃ (t : Nat) (L : List Int), t ≤ n3 ∧ iv = .int .i64 t ∧ Hid (Own E1 wr w2.heap.size 3 A3 n3 c3 L) ∧ Hid (Below w2.heap.size w2 wr)) (fun iv _ => n3 - (intOf iv).toNat)
        case atStart => exact ⟨0, _, Nat.zero_le _, rfl, HA8, HB8⟩
        case round =>
          clear HA8 HB8
          obtain ⟨t, L, ht, rfl, HO, HB⟩ := hrel
          by_cases hlt : t < n3
          · obtain ⟨g, rfl, hg, hg2, hg3, hg4⟩ := HO.out.addr (by omega)
            have hg5 : c3 ≤ 9223372036854775807 := hg4
            clear hg4
            have o1 := own1 HO.out hlt
            have hfz := HO.out.frozen t
            have htn : (t : Int) < (n3 : Int) := by omega
            have hn10 := HN3L.out
            go_wp2_with fail
            go_roundw
            case rel => exact ⟨t + 1, _, by omega, by go_num, hide (HO.out.stored1 hlt (-1)), hide (HB.out.setCell hg _)⟩
            case measure => simp [intOf]; omega
          · obtain rfl : t = n3 := by omega
            obtain ⟨f0, f1, f2, f3, f4⟩ : wr.cell? ⟨w.heap.size, 0, none⟩ = some (.slice A n c) ∧ wr.cell? ⟨w.heap.size, 1, none⟩ = some (.slice A' n' c') ∧ wr.cell? ⟨w.heap.size, 2, none⟩ = some (.int .i64 o) ∧ wr.cell? ⟨w.heap.size, 3, none⟩ = some (.int .i64 i) ∧ wr.cell? ⟨w.heap.size, 4, none⟩ = some (.int .i64 h) := two_cells hbk2.out HB.out hz2
            go_wp2_with (first
              | (go_at_call 29; refine (SameInts_any A2 n c2 A n c xs xs _ (O2.out.row.below HB.out (Nat.le_refl _)) (hx2.out.below HB.out (Nat.le_refl _)) (by have := HLG2.out; omega) (by have := HLG2.out; omega)).mono ?_; rintro e9 w9 ⟨rfl, q9, hw9⟩; have D9 := hide (show Below w2.heap.size w2 w9 from by rw [hw9]; exact below_drewN HB.out q9); clear hw9; rw [beq_self_eq_true])
              | (go_at_call 19; refine (known_any _).mono ?_; rintro e10 w10 ⟨rfl, b10⟩; have D10 := hide b10; clear b10))
            go_ret
            exact ⟨ret_bool (by simp), le_call (le_call T2.out D9.out) D10.out⟩
      · have hbb : (errL ys != 0) = true := by simpa using hb
        clear ha hb
        go_enter Try.func13, Try.ntmps13
        go_wp2_with (first
          | (have hgd := D7; clear hgd; go_at_call 26; refine (Distance_any A3 n3 c3 (bacV xs) A6 n6 c6 (bacV ys) o i h _ ((((O3.out.below D4.out (Nat.le_refl _)).below D5.out (Nat.le_refl _)).below D6.out (Nat.le_refl _)).below D7.out (Nat.le_refl _)) (O6.out.below D7.out (Nat.le_refl _))).mono ?_; rintro e8 w8 ⟨rfl, b8⟩; have D8 := hide b8; clear b8; obtain ⟨f80, f81, f82, f83, f84⟩ := two_cells HBK.out (show Below _ _ w8 from (le_call (le_call (le_call (le_call (le_call (le_call (le_call D1.out D2.out) D3.out) D4.out) D5.out) D6.out) D7.out) D8.out)) hbz)
          | (have hgd := D6; clear hgd; go_at_call 26; refine (Distance_any A n c xs A' n' c' ys o i h _ ((((((HX.out.below D1.out (Nat.le_refl _)).below D2.out (Nat.le_refl _)).below D3.out (Nat.le_refl _)).below D4.out (Nat.le_refl _)).below D5.out (Nat.le_refl _)).below D6.out (Nat.le_refl _)) ((((((HY.out.below D1.out (Nat.le_refl _)).below D2.out (Nat.le_refl _)).below D3.out (Nat.le_refl _)).below D4.out (Nat.le_refl _)).below D5.out (Nat.le_refl _)).below D6.out (Nat.le_refl _))).mono ?_; rintro e7 w7 ⟨rfl, b7⟩; have D7 := hide b7; clear b7; obtain ⟨f70, f71, f72, f73, f74⟩ := two_cells HBK.out (show Below _ _ w7 from (le_call (le_call (le_call (le_call (le_call (le_call D1.out D2.out) D3.out) D4.out) D5.out) D6.out) D7.out)) hbz)
          | (have hgd := D5; clear hgd; go_at_call 47; refine (Back_any A' n' c' ys _ (((((HY.out.below D1.out (Nat.le_refl _)).below D2.out (Nat.le_refl _)).below D3.out (Nat.le_refl _)).below D4.out (Nat.le_refl _)).below D5.out (Nat.le_refl _))).mono ?_; rintro e6 w6 ⟨A6, n6, c6, rfl, o6, b6⟩; have O6 := hide o6.row; have HN6 := hide o6.len; clear o6; have D6 := hide b6; clear b6; obtain ⟨f60, f61, f62, f63, f64⟩ := two_cells HBK.out (show Below _ _ w6 from (le_call (le_call (le_call (le_call (le_call D1.out D2.out) D3.out) D4.out) D5.out) D6.out)) hbz)
          | (have hgd := D4; clear hgd; go_at_call 29; refine (SameInts_any A3 n3 c3 A4 n4 c4 (bacV xs) (bacV xs) _ (O3.out.below D4.out (Nat.le_refl _)) O4.out (by have h1 := HN3.out; have h2 := HTL.out; omega) (by have h1 := HN4.out; have h2 := HTL.out; omega)).mono ?_; rintro e5 w5 ⟨rfl, q5, hw5⟩; have D5 := hide (show Below w4.heap.size w4 w5 from by rw [hw5]; exact below_drewN (Below.refl _ _) q5); clear hw5; rw [beq_self_eq_true]; obtain ⟨f50, f51, f52, f53, f54⟩ := two_cells HBK.out (show Below _ _ w5 from (le_call (le_call (le_call (le_call D1.out D2.out) D3.out) D4.out) D5.out)) hbz)
          | (have hgd := D3; clear hgd; go_at_call 48; refine (rBack_any A n c xs _ (((HX.out.below D1.out (Nat.le_refl _)).below D2.out (Nat.le_refl _)).below D3.out (Nat.le_refl _))).mono ?_; rintro e4 w4 ⟨A4, n4, c4, rfl, o4, b4⟩; rw [HA.out]; have O4 := hide o4.row; have HN4 := hide o4.len; clear o4; have D4 := hide b4; clear b4; obtain ⟨f40, f41, f42, f43, f44⟩ := two_cells HBK.out (show Below _ _ w4 from (le_call (le_call (le_call D1.out D2.out) D3.out) D4.out)) hbz)
          | (have hgd := D2; clear hgd; go_at_call 47; refine (Back_any A2 n c2 xs _ O2.out.row).mono ?_; rw [HA.out]; rintro e3 w3 ⟨A3, n3, c3, rfl, o3, b3⟩; have P3 := hide o3; have O3 := hide o3.row; have HN3 := hide o3.len; have D3 := hide b3; clear o3 b3; obtain ⟨f30, f31, f32, f33, f34⟩ := two_cells HBK.out (show Below _ _ w3 from (le_call (le_call D1.out D2.out) D3.out)) hbz)
          | (have hgd := D1; clear hgd; at_builtin; refine wpList_appX (E := E1) _ (.int .i64 0) 8 rfl (.tmp 19) (.tmp 21) 22 3 rfl Try.underlying22 info_int rfl (by decide) (by omega) w1.heap.size w1.heap.size A n c xs rfl rfl (Own.lit w1 [] (Nat.le_refl _) (by unfold maxLen; simp)) ((HX.out.below D1.out (Nat.le_refl _)).below ((Below.refl w1.heap.size w1).alloc (Nat.le_refl _) (.cells #[] 3)) (Nat.le_refl _)) (by have := HLG2.out; omega) (by simp) ?_; intro A2 c2 w2 o2 b2; have O2 := hide o2; have D2 := hide (((Below.refl _ w1).alloc (Nat.le_refl _) (.cells #[] 3)).trans b2); clear o2 b2; obtain ⟨f20, f21, f22, f23, f24⟩ := two_cells HBK.out (show Below _ _ w2 from (le_call D1.out D2.out)) hbz)
          | (have hgd := D0; clear hgd; go_at_call 18; refine (Long_any A n c A' n' c' o i h _ hle hle').mono ?_; rintro e1 w1 ⟨rfl, b1⟩; rw [HLG.out]; have D1 := hide b1; clear b1; obtain ⟨f10, f11, f12, f13, f14⟩ := two_cells HBK.out (show Below _ _ w1 from D1.out) hbz; have hgt1 := lt_of_cell f10))
        have HA8 := hide (((((P3.out.below D4.out (Nat.le_refl _)).below D5.out (Nat.le_refl _)).below D6.out (Nat.le_refl _)).below D7.out (Nat.le_refl _)).below D8.out (Nat.le_refl _))
        have HB8 := hide (show Below w2.heap.size w2 w8 from (le_call (le_call (le_call (le_call (le_call D3.out D4.out) D5.out) D6.out) D7.out) D8.out))
        have hx2 := hide (((HX.out.below D1.out (Nat.le_refl _)).below D2.out (Nat.le_refl _)))
        have hbk2 := hide (HBK.out.keep (show Below _ _ w2 from (le_call D1.out D2.out)) hbz)
        have hz2 : w.heap.size < w2.heap.size := Nat.lt_of_lt_of_le hbz (le_call D1.out D2.out).size
        have T2 := hide (le_call (le_call D0.out D1.out) D2.out)
        have HN3L := hide (show n3 ≤ 10 from by have h1 := HN3.out; have h2 := HTL.out; omega)
        go_loopw [15] (fun iv wr => ∃ (t : Nat) (L : List Int), t ≤ n3 ∧ iv = .int .i64 t ∧ Hid (Own E1 wr w2.heap.size 3 A3 n3 c3 L) ∧ Hid (Below w2.heap.size w2 wr)) (fun iv _ => n3 - (intOf iv).toNat)
        case atStart => exact ⟨0, _, Nat.zero_le _, rfl, HA8, HB8⟩
        case round =>
          clear HA8 HB8
          obtain ⟨t, L, ht, rfl, HO, HB⟩ := hrel
          by_cases hlt : t < n3
          · obtain ⟨g, rfl, hg, hg2, hg3, hg4⟩ := HO.out.addr (by omega)
            have hg5 : c3 ≤ 9223372036854775807 := hg4
            clear hg4
            have o1 := own1 HO.out hlt
            have hfz := HO.out.frozen t
            have htn : (t : Int) < (n3 : Int) := by omega
            have hn10 := HN3L.out
            go_wp2_with fail
            go_roundw
            case rel => exact ⟨t + 1, _, by omega, by go_num, hide (HO.out.stored1 hlt (-1)), hide (HB.out.setCell hg _)⟩
            case measure => simp [intOf]; omega
          · obtain rfl : t = n3 := by omega
            obtain ⟨f0, f1, f2, f3, f4⟩ : wr.cell? ⟨w.heap.size, 0, none⟩ = some (.slice A n c) ∧ wr.cell? ⟨w.heap.size, 1, none⟩ = some (.slice A' n' c') ∧ wr.cell? ⟨w.heap.size, 2, none⟩ = some (.int .i64 o) ∧ wr.cell? ⟨w.heap.size, 3, none⟩ = some (.int .i64 i) ∧ wr.cell? ⟨w.heap.size, 4, none⟩ = some (.int .i64 h) := two_cells hbk2.out HB.out hz2
            go_wp2_with (first
              | (go_at_call 29; refine (SameInts_any A2 n c2 A n c xs xs _ (O2.out.row.below HB.out (Nat.le_refl _)) (hx2.out.below HB.out (Nat.le_refl _)) (by have := HLG2.out; omega) (by have := HLG2.out; omega)).mono ?_; rintro e9 w9 ⟨rfl, q9, hw9⟩; have D9 := hide (show Below w2.heap.size w2 w9 from by rw [hw9]; exact below_drewN HB.out q9); clear hw9; rw [beq_self_eq_true])
              | (go_at_call 19; refine (known_any _).mono ?_; rintro e10 w10 ⟨rfl, b10⟩; have D10 := hide b10; clear b10))
            go_ret
            exact ⟨ret_bool (by simp), le_call (le_call T2.out D9.out) D10.out⟩
    · have hab : (errL xs != 0) = true := by simpa using ha
      clear ha
      go_enter Try.func13, Try.ntmps13
      go_wp2_with (first
        | (have hgd := D7; clear hgd; go_at_call 26; refine (Distance_any A3 n3 c3 (bacV xs) A6 n6 c6 (bacV ys) o i h _ ((((O3.out.below D4.out (Nat.le_refl _)).below D5.out (Nat.le_refl _)).below D6.out (Nat.le_refl _)).below D7.out (Nat.le_refl _)) (O6.out.below D7.out (Nat.le_refl _))).mono ?_; rintro e8 w8 ⟨rfl, b8⟩; have D8 := hide b8; clear b8; obtain ⟨f80, f81, f82, f83, f84⟩ := two_cells HBK.out (show Below _ _ w8 from (le_call (le_call (le_call (le_call (le_call (le_call (le_call D1.out D2.out) D3.out) D4.out) D5.out) D6.out) D7.out) D8.out)) hbz)
        | (have hgd := D6; clear hgd; go_at_call 26; refine (Distance_any A n c xs A' n' c' ys o i h _ ((((((HX.out.below D1.out (Nat.le_refl _)).below D2.out (Nat.le_refl _)).below D3.out (Nat.le_refl _)).below D4.out (Nat.le_refl _)).below D5.out (Nat.le_refl _)).below D6.out (Nat.le_refl _)) ((((((HY.out.below D1.out (Nat.le_refl _)).below D2.out (Nat.le_refl _)).below D3.out (Nat.le_refl _)).below D4.out (Nat.le_refl _)).below D5.out (Nat.le_refl _)).below D6.out (Nat.le_refl _))).mono ?_; rintro e7 w7 ⟨rfl, b7⟩; have D7 := hide b7; clear b7; obtain ⟨f70, f71, f72, f73, f74⟩ := two_cells HBK.out (show Below _ _ w7 from (le_call (le_call (le_call (le_call (le_call (le_call D1.out D2.out) D3.out) D4.out) D5.out) D6.out) D7.out)) hbz)
        | (have hgd := D5; clear hgd; go_at_call 47; refine (Back_any A' n' c' ys _ (((((HY.out.below D1.out (Nat.le_refl _)).below D2.out (Nat.le_refl _)).below D3.out (Nat.le_refl _)).below D4.out (Nat.le_refl _)).below D5.out (Nat.le_refl _))).mono ?_; rintro e6 w6 ⟨A6, n6, c6, rfl, o6, b6⟩; have O6 := hide o6.row; have HN6 := hide o6.len; clear o6; have D6 := hide b6; clear b6; obtain ⟨f60, f61, f62, f63, f64⟩ := two_cells HBK.out (show Below _ _ w6 from (le_call (le_call (le_call (le_call (le_call D1.out D2.out) D3.out) D4.out) D5.out) D6.out)) hbz)
        | (have hgd := D4; clear hgd; go_at_call 29; refine (SameInts_any A3 n3 c3 A4 n4 c4 (bacV xs) (bacV xs) _ (O3.out.below D4.out (Nat.le_refl _)) O4.out (by have h1 := HN3.out; have h2 := HTL.out; omega) (by have h1 := HN4.out; have h2 := HTL.out; omega)).mono ?_; rintro e5 w5 ⟨rfl, q5, hw5⟩; have D5 := hide (show Below w4.heap.size w4 w5 from by rw [hw5]; exact below_drewN (Below.refl _ _) q5); clear hw5; rw [beq_self_eq_true]; obtain ⟨f50, f51, f52, f53, f54⟩ := two_cells HBK.out (show Below _ _ w5 from (le_call (le_call (le_call (le_call D1.out D2.out) D3.out) D4.out) D5.out)) hbz)
        | (have hgd := D3; clear hgd; go_at_call 48; refine (rBack_any A n c xs _ (((HX.out.below D1.out (Nat.le_refl _)).below D2.out (Nat.le_refl _)).below D3.out (Nat.le_refl _))).mono ?_; rintro e4 w4 ⟨A4, n4, c4, rfl, o4, b4⟩; have O4 := hide o4.row; have HN4 := hide o4.len; clear o4; have D4 := hide b4; clear b4; obtain ⟨f40, f41, f42, f43, f44⟩ := two_cells HBK.out (show Below _ _ w4 from (le_call (le_call (le_call D1.out D2.out) D3.out) D4.out)) hbz)
        | (have hgd := D2; clear hgd; go_at_call 47; refine (Back_any A2 n c2 xs _ O2.out.row).mono ?_; rintro e3 w3 ⟨A3, n3, c3, rfl, o3, b3⟩; have P3 := hide o3; have O3 := hide o3.row; have HN3 := hide o3.len; have D3 := hide b3; clear o3 b3; obtain ⟨f30, f31, f32, f33, f34⟩ := two_cells HBK.out (show Below _ _ w3 from (le_call (le_call D1.out D2.out) D3.out)) hbz)
        | (have hgd := D1; clear hgd; at_builtin; refine wpList_appX (E := E1) _ (.int .i64 0) 8 rfl (.tmp 19) (.tmp 21) 22 3 rfl Try.underlying22 info_int rfl (by decide) (by omega) w1.heap.size w1.heap.size A n c xs rfl rfl (Own.lit w1 [] (Nat.le_refl _) (by unfold maxLen; simp)) ((HX.out.below D1.out (Nat.le_refl _)).below ((Below.refl w1.heap.size w1).alloc (Nat.le_refl _) (.cells #[] 3)) (Nat.le_refl _)) (by have := HLG2.out; omega) (by simp) ?_; intro A2 c2 w2 o2 b2; have O2 := hide o2; have D2 := hide (((Below.refl _ w1).alloc (Nat.le_refl _) (.cells #[] 3)).trans b2); clear o2 b2; obtain ⟨f20, f21, f22, f23, f24⟩ := two_cells HBK.out (show Below _ _ w2 from (le_call D1.out D2.out)) hbz)
        | (have hgd := D0; clear hgd; go_at_call 18; refine (Long_any A n c A' n' c' o i h _ hle hle').mono ?_; rintro e1 w1 ⟨rfl, b1⟩; rw [HLG.out]; have D1 := hide b1; clear b1; obtain ⟨f10, f11, f12, f13, f14⟩ := two_cells HBK.out (show Below _ _ w1 from D1.out) hbz; have hgt1 := lt_of_cell f10))
      have HA8 := hide (((((P3.out.below D4.out (Nat.le_refl _)).below D5.out (Nat.le_refl _)).below D6.out (Nat.le_refl _)).below D7.out (Nat.le_refl _)).below D8.out (Nat.le_refl _))
      have HB8 := hide (show Below w2.heap.size w2 w8 from (le_call (le_call (le_call (le_call (le_call D3.out D4.out) D5.out) D6.out) D7.out) D8.out))
      have hx2 := hide (((HX.out.below D1.out (Nat.le_refl _)).below D2.out (Nat.le_refl _)))
      have hbk2 := hide (HBK.out.keep (show Below _ _ w2 from (le_call D1.out D2.out)) hbz)
      have hz2 : w.heap.size < w2.heap.size := Nat.lt_of_lt_of_le hbz (le_call D1.out D2.out).size
      have T2 := hide (le_call (le_call D0.out D1.out) D2.out)
      have HN3L := hide (show n3 ≤ 10 from by have h1 := HN3.out; have h2 := HTL.out; omega)
      go_loopw [15] (fun iv wr => ∃ (t : Nat) (L : List Int), t ≤ n3 ∧ iv = .int .i64 t ∧ Hid (Own E1 wr w2.heap.size 3 A3 n3 c3 L) ∧ Hid (Below w2.heap.size w2 wr)) (fun iv _ => n3 - (intOf iv).toNat)
      case atStart => exact ⟨0, _, Nat.zero_le _, rfl, HA8, HB8⟩
      case round =>
        clear HA8 HB8
        obtain ⟨t, L, ht, rfl, HO, HB⟩ := hrel
        by_cases hlt : t < n3
        · obtain ⟨g, rfl, hg, hg2, hg3, hg4⟩ := HO.out.addr (by omega)
          have hg5 : c3 ≤ 9223372036854775807 := hg4
          clear hg4
          have o1 := own1 HO.out hlt
          have hfz := HO.out.frozen t
          have htn : (t : Int) < (n3 : Int) := by omega
          have hn10 := HN3L.out
          go_wp2_with fail
          go_roundw
          case rel => exact ⟨t + 1, _, by omega, by go_num, hide (HO.out.stored1 hlt (-1)), hide (HB.out.setCell hg _)⟩
          case measure => simp [intOf]; omega
        · obtain rfl : t = n3 := by omega
          obtain ⟨f0, f1, f2, f3, f4⟩ : wr.cell? ⟨w.heap.size, 0, none⟩ = some (.slice A n c) ∧ wr.cell? ⟨w.heap.size, 1, none⟩ = some (.slice A' n' c') ∧ wr.cell? ⟨w.heap.size, 2, none⟩ = some (.int .i64 o) ∧ wr.cell? ⟨w.heap.size, 3, none⟩ = some (.int .i64 i) ∧ wr.cell? ⟨w.heap.size, 4, none⟩ = some (.int .i64 h) := two_cells hbk2.out HB.out hz2
          go_wp2_with (first
            | (go_at_call 29; refine (SameInts_any A2 n c2 A n c xs xs _ (O2.out.row.below HB.out (Nat.le_refl _)) (hx2.out.below HB.out (Nat.le_refl _)) (by have := HLG2.out; omega) (by have := HLG2.out; omega)).mono ?_; rintro e9 w9 ⟨rfl, q9, hw9⟩; have D9 := hide (show Below w2.heap.size w2 w9 from by rw [hw9]; exact below_drewN HB.out q9); clear hw9; rw [beq_self_eq_true])
            | (go_at_call 19; refine (known_any _).mono ?_; rintro e10 w10 ⟨rfl, b10⟩; have D10 := hide b10; clear b10))
          go_ret
          exact ⟨ret_bool (by simp), le_call (le_call T2.out D9.out) D10.out⟩
end Go.Proofs.Ytndfdminjegldaa
