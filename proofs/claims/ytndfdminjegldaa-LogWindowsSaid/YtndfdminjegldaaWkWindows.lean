/- LogWindows: the walk. -/
import Derived.Test.YtndfdminjegldaaKnown
import Derived.Test.YtndfdminjegldaaWalkWr
import Derived.Test.YtndfdminjegldaaWalkQ
import Derived.Deep.RegionHeldLaw
namespace Go.Proofs.Ytndfdminjegldaa
open Go.RowKit Go.Shelf
attribute [local go_sem] Oper.semAt_some

theorem errL_sub {l m : List Int} (h : errL m = 0) (hs : l.Sublist m) : errL l = 0 := by
  rw [errL_ok] at h ⊢
  exact ⟨Nat.le_trans hs.length_le h.1, fun x hx => h.2 x (hs.mem hx)⟩
set_option maxRecDepth 100000 in
set_option maxHeartbeats 8000000 in
theorem LogWindows_walk (A : Option Addr) (n c : Nat) (xs : List Int) (A' : Option Addr) (n' c' : Nat) (ys : List Int) (o i h : Int) (w : World) (hx : R E1 w A n c xs) (hy : R E1 w A' n' c' ys) :
    Calls Try.prog 12 #[tV A n c A' n' c' o i h] w fun e w' => e = .returned (.bool true) ∧ Below w.heap.size w w' := by
  have D0 := hide ((Below.refl w.heap.size w).alloc (Nat.le_refl _) (.cells #[.slice A n c, .slice A' n' c', .int .i64 o, .int .i64 i, .int .i64 h] 26))
  have HBK := hide (Bk.born w 26 #[.slice A n c, .slice A' n' c', .int .i64 o, .int .i64 i, .int .i64 h])
  have HX := hide (hx.below D0.out (Nat.le_refl _))
  have HY := hide (hy.below D0.out (Nat.le_refl _))
  have hbz : w.heap.size < (w.alloc (.cells #[.slice A n c, .slice A' n' c', .int .i64 o, .int .i64 i, .int .i64 h] 26)).heap.size := by simp
  have hle := hx.le
  have hle' := hy.le
  have HLY := hide hy.length
  clear hx hy
  cases hlg : (decide (100 < n) || decide (100 < n')) with
  | true =>
    have HLG := hide hlg
    clear hlg
    go_enter Try.func12, Try.ntmps12
    go_wp2_with (first
      | (have hgd := D1; clear hgd; go_at_call 19; refine (known_any _).mono ?_; rintro e2 w2 ⟨rfl, b2⟩; have D2 := hide b2; clear b2; obtain ⟨f20, f21, f22, f23, f24⟩ := two_cells HBK.out (show Below _ _ w2 from (le_call D1.out D2.out)) hbz)
      | (have hgd := D0; clear hgd; go_at_call 18; refine (Long_any A n c A' n' c' o i h _ hle hle').mono ?_; rintro e1 w1 ⟨rfl, b1⟩; rw [HLG.out]; have D1 := hide b1; clear b1; obtain ⟨f10, f11, f12, f13, f14⟩ := two_cells HBK.out (show Below _ _ w1 from D1.out) hbz))
    go_ret
    exact ⟨ret_bool (by simp), (le_call (le_call D0.out D1.out) D2.out)⟩
  | false =>
    have HLG := hide hlg
    clear hlg
    by_cases he : errD xs ys ⟨o, i, h⟩ = 0
    · have HE := hide he
      have HV := hide (winV_ok he)
      have HWO := hide (win_ok xs ys ⟨o, i, h⟩)
      have HWW := hide (win_whole xs ys ⟨o, i, h⟩)
      have HD := hide (distV_ok he)
      obtain ⟨q1, q2, q3⟩ := errD_ok.1 he
      have hn10 : n' ≤ 10 := by rw [← HLY.out]; exact (errL_ok.1 q2).1
      rw [HLY.out] at HWO HWW HV
      generalize hS : winS xs ys ⟨o, i, h⟩ n' = S at *
      clear hS
      obtain ⟨a, b, v⟩ := S
      obtain ⟨w1', w2', w3', w4'⟩ := HWO.out
      dsimp only at w1' w2' w3' w4' HWW HV
      obtain ⟨t, rfl⟩ : ∃ t, b = a + t := ⟨b - a, by omega⟩
      have hle2 := HWW.out
      have HSUB := hide (errD_ok.2 ⟨q1, errL_sub q2 ((List.take_sublist t (ys.drop a)).trans (List.drop_sublist a ys)), q3⟩)
      have HDU := hide (show distV xs ((ys.drop a).take t) ⟨o, i, h⟩ = v from by rw [distV_ok HSUB.out, w3']; unfold dWi; rw [Nat.add_sub_cancel_left])
      clear he q1 q2 q3 w3' w4'
      generalize dist xs ys ⟨o, i, h⟩ = dm at *
      go_enter Try.func12, Try.ntmps12
      go_upto_region 9 with (first
        | (have hgd := D2; clear hgd; go_at_call 46; refine (rWindow_any A n c xs A' n' c' ys o i h _ ((HX.out.below D1.out (Nat.le_refl _)).below D2.out (Nat.le_refl _)) ((HY.out.below D1.out (Nat.le_refl _)).below D2.out (Nat.le_refl _))).mono ?_; rintro e3 w3 ⟨rfl, b3⟩; rw [HV.out, HE.out]; have D3 := hide b3; clear b3; obtain ⟨f30, f31, f32, f33, f34⟩ := two_cells HBK.out (show Below _ _ w3 from (le_call (le_call D1.out D2.out) D3.out)) hbz)
        | (have hgd := D1; clear hgd; go_at_call 45; refine (Window_any A n c xs A' n' c' ys o i h _ (HX.out.below D1.out (Nat.le_refl _)) (HY.out.below D1.out (Nat.le_refl _))).mono ?_; rintro e2 w2 ⟨rfl, b2⟩; rw [HV.out, HE.out]; have D2 := hide b2; clear b2; obtain ⟨f20, f21, f22, f23, f24⟩ := two_cells HBK.out (show Below _ _ w2 from (le_call D1.out D2.out)) hbz)
        | (have hgd := D0; clear hgd; go_at_call 18; refine (Long_any A n c A' n' c' o i h _ hle hle').mono ?_; rintro e1 w1 ⟨rfl, b1⟩; rw [HLG.out]; have D1 := hide b1; clear b1; obtain ⟨f10, f11, f12, f13, f14⟩ := two_cells HBK.out (show Below _ _ w1 from D1.out) hbz))
      have HB3 := hide (show Below _ _ w3 from (le_call (le_call D1.out D2.out) D3.out))
      have HX3 := hide (((HX.out.below D1.out (Nat.le_refl _)).below D2.out (Nat.le_refl _)).below D3.out (Nat.le_refl _))
      have HY3 := hide (((HY.out.below D1.out (Nat.le_refl _)).below D2.out (Nat.le_refl _)).below D3.out (Nat.le_refl _))
      have HBK3 := hide (HBK.out.keep HB3.out hbz)
      have hz3 : w.heap.size < w3.heap.size := Nat.lt_of_lt_of_le hbz HB3.out.size
      have TW := hide (le_call (le_call (le_call D0.out D1.out) D2.out) D3.out)
      have hyc : n' ≤ c' := by obtain ⟨_, _, hr⟩ := HY3.out; exact hr.cap
      have hmc : c' ≤ 9223372036854775807 := by obtain ⟨_, _, hr⟩ := HY3.out; exact hr.max
      clear D1 D2 D3 HX HY HBK HB3 f10 f11 f12 f13 f14 f20 f21 f22 f23 f24
      go_cut [9, 10] from 13 (fun a9 a10 wx => a9 = .int .i64 v ∧ a10 = .int .i64 0 ∧ Hid (Below w3.heap.size w3 wx))
      case first =>
        have BA := hide (show Below w3.heap.size w3 (w3.drew.alloc (.cells #[] 3)) from ((Below.refl w3.heap.size w3).drew).alloc (Nat.le_refl _) _)
        have HOA := hide (show Own E1 (w3.drew.alloc (.cells #[] 3)) w3.heap.size 3 (some ⟨w3.heap.size, 0, none⟩) 0 0 [] from Own.lit w3.drew [] (Nat.le_refl _) (by simp))
        have hsA : w3.heap.size ≤ (w3.drew.alloc (.cells #[] 3)).heap.size := BA.out.size
        have hz7 : a ≤ c' := by omega
        have hz8 : (a : Int) ≤ (c' : Int) := by omega
        rcases Nat.eq_zero_or_pos t with h0 | h0
        · subst h0
          have HNI := hide (show (ys.drop a).take 0 = [] from List.take_zero)
          rw [HNI.out] at HDU HSUB
          have e0 : (a : Int) + ((0 : Nat) : Int) = (a : Int) := by omega
          have hz10 : (a : Int) - (a : Int) = 0 := by omega
          have hz11 : a - a = 0 := by omega
          rw [e0]
          cases A' with
          | none =>
            go_region_held_law (fun w' => w'.cell? ⟨w.heap.size, 0, none⟩ = some (.slice A n c) ∧ w'.cell? ⟨w.heap.size, 1, none⟩ = some (.slice none n' c') ∧ w'.cell? ⟨w.heap.size, 2, none⟩ = some (.int .i64 o) ∧ w'.cell? ⟨w.heap.size, 3, none⟩ = some (.int .i64 i) ∧ w'.cell? ⟨w.heap.size, 4, none⟩ = some (.int .i64 h))
              (first
                | exact two_cells HBK3.out B8.out hz3
                | exact two_cells HBK3.out B7.out hz3
                | exact two_cells HBK3.out BA.out hz3
                | exact two_cells HBK3.out (Below.refl _ _).drew hz3
                | go_keep)
              (first
                | (have hgd := B7; clear hgd; go_at_call 26; refine (Distance_any A n c xs _ 0 _ [] o i h w7 (HX3.out.below B7.out (Nat.le_refl _)) O7.out.row).mono ?_; rw [HDU.out, HSUB.out]; rintro e8 w8 ⟨rfl, b8⟩; have B8 := hide (show Below w3.heap.size w3 w8 from le_call B7.out b8); clear b8)
                | (refine step_appG (E := E1) (w3.drew.alloc (.cells #[] 3)) (.int .i64 0) 8 rfl (.tmp 57) (.tmp 62) 22 3 rfl Try.underlying22 info_int rfl (by decide) (by omega) w3.heap.size 0 0 (some ⟨w3.heap.size, 0, none⟩) [] _ 0 _ [] rfl rfl HOA.out (R.none _ _ (by omega)) (by omega) (by omega) hsA ?_; intro A7 c7 w7 o7 b7 _ _; rw [Nat.zero_add] at o7 ⊢; have O7 := hide (show Own E1 w7 w3.heap.size 3 A7 0 c7 [] from o7); have B7 := hide (BA.out.trans b7); clear o7 b7))
            all_goals
              go_wp2_with fail
              go_meet
              exact ⟨rfl, rfl, B8⟩
          | some ad =>
            by_cases hna : c' = a
            · subst hna
              have hca0 : c' - c' = 0 := by omega
              go_region_held_law (fun w' => w'.cell? ⟨w.heap.size, 0, none⟩ = some (.slice A n c) ∧ w'.cell? ⟨w.heap.size, 1, none⟩ = some (.slice (some ad) n' c') ∧ w'.cell? ⟨w.heap.size, 2, none⟩ = some (.int .i64 o) ∧ w'.cell? ⟨w.heap.size, 3, none⟩ = some (.int .i64 i) ∧ w'.cell? ⟨w.heap.size, 4, none⟩ = some (.int .i64 h))
                (first
                  | exact two_cells HBK3.out B8.out hz3
                  | exact two_cells HBK3.out B7.out hz3
                  | exact two_cells HBK3.out BA.out hz3
                  | exact two_cells HBK3.out (Below.refl _ _).drew hz3
                  | go_keep)
                (first
                  | (have hgd := B7; clear hgd; go_at_call 26; refine (Distance_any A n c xs _ 0 _ [] o i h w7 (HX3.out.below B7.out (Nat.le_refl _)) O7.out.row).mono ?_; rw [HDU.out, HSUB.out]; rintro e8 w8 ⟨rfl, b8⟩; have B8 := hide (show Below w3.heap.size w3 w8 from le_call B7.out b8); clear b8)
                  | (refine step_appG (E := E1) (w3.drew.alloc (.cells #[] 3)) (.int .i64 0) 8 rfl (.tmp 57) (.tmp 62) 22 3 rfl Try.underlying22 info_int rfl (by decide) (by omega) w3.heap.size 0 0 (some ⟨w3.heap.size, 0, none⟩) [] _ 0 _ [] rfl rfl HOA.out (R.none _ _ (by omega)) (by omega) (by omega) hsA ?_; intro A7 c7 w7 o7 b7 _ _; rw [Nat.zero_add] at o7 ⊢; have O7 := hide (show Own E1 w7 w3.heap.size 3 A7 0 c7 [] from o7); have B7 := hide (BA.out.trans b7); clear o7 b7))
              all_goals
                go_wp2_with fail
                go_meet
                exact ⟨rfl, rfl, B8⟩
            · have hca1 : ¬ c' - a = 0 := by omega
              go_region_held_law (fun w' => w'.cell? ⟨w.heap.size, 0, none⟩ = some (.slice A n c) ∧ w'.cell? ⟨w.heap.size, 1, none⟩ = some (.slice (some ad) n' c') ∧ w'.cell? ⟨w.heap.size, 2, none⟩ = some (.int .i64 o) ∧ w'.cell? ⟨w.heap.size, 3, none⟩ = some (.int .i64 i) ∧ w'.cell? ⟨w.heap.size, 4, none⟩ = some (.int .i64 h))
                (first
                  | exact two_cells HBK3.out B8.out hz3
                  | exact two_cells HBK3.out B7.out hz3
                  | exact two_cells HBK3.out BA.out hz3
                  | exact two_cells HBK3.out (Below.refl _ _).drew hz3
                  | go_keep)
                (first
                  | (have hgd := B7; clear hgd; go_at_call 26; refine (Distance_any A n c xs _ 0 _ [] o i h w7 (HX3.out.below B7.out (Nat.le_refl _)) O7.out.row).mono ?_; rw [HDU.out, HSUB.out]; rintro e8 w8 ⟨rfl, b8⟩; have B8 := hide (show Below w3.heap.size w3 w8 from le_call B7.out b8); clear b8)
                  | (refine step_appG (E := E1) (w3.drew.alloc (.cells #[] 3)) (.int .i64 0) 8 rfl (.tmp 57) (.tmp 62) 22 3 rfl Try.underlying22 info_int rfl (by decide) (by omega) w3.heap.size 0 0 (some ⟨w3.heap.size, 0, none⟩) [] _ 0 _ [] rfl rfl HOA.out (R.none _ _ (by omega)) (by omega) (by omega) hsA ?_; intro A7 c7 w7 o7 b7 _ _; rw [Nat.zero_add] at o7 ⊢; have O7 := hide (show Own E1 w7 w3.heap.size 3 A7 0 c7 [] from o7); have B7 := hide (BA.out.trans b7); clear o7 b7))
              all_goals
                go_wp2_with fail
                go_meet
                exact ⟨rfl, rfl, B8⟩
        · obtain ⟨by', oy, hry⟩ := HY3.out
          obtain rfl := hry.at_ (by omega)
          have HYR := hide (((hry.rest2 (t := a) (by omega)).front (t := t) (by omega)).below BA.out (Nat.le_refl _))
          have hna : ¬ c' = a := by omega
          have hz2' : a + t - a = t := by omega
          have hz5 : ¬ (a + t = a) := by omega
          have hz6 : a + t ≤ c' := by omega
          have hz9 : (a : Int) ≤ (a : Int) + (t : Int) := by omega
          have hz10 : (a : Int) + (t : Int) - (a : Int) = (t : Int) := by omega
          have hz11 : (0 : Int) ≤ (t : Int) := by omega
          have hz12 : ((a : Int) + (t : Int)).toNat = a + t := by omega
          have hz13 : (a : Int) + (t : Int) ≤ (c' : Int) := by omega
          clear hry
          go_region_held_law (fun w' => w'.cell? ⟨w.heap.size, 0, none⟩ = some (.slice A n c) ∧ w'.cell? ⟨w.heap.size, 1, none⟩ = some (.slice (some ⟨by', oy, none⟩) n' c') ∧ w'.cell? ⟨w.heap.size, 2, none⟩ = some (.int .i64 o) ∧ w'.cell? ⟨w.heap.size, 3, none⟩ = some (.int .i64 i) ∧ w'.cell? ⟨w.heap.size, 4, none⟩ = some (.int .i64 h))
            (first
              | exact two_cells HBK3.out B8.out hz3
              | exact two_cells HBK3.out B7.out hz3
              | exact two_cells HBK3.out BA.out hz3
              | exact two_cells HBK3.out (Below.refl _ _).drew hz3
              | go_keep)
            (first
              | (have hgd := B7; clear hgd; go_at_call 26; refine (Distance_any A n c xs _ t _ ((ys.drop a).take t) o i h w7 (HX3.out.below B7.out (Nat.le_refl _)) O7.out.row).mono ?_; rw [HDU.out, HSUB.out]; rintro e8 w8 ⟨rfl, b8⟩; have B8 := hide (show Below w3.heap.size w3 w8 from le_call B7.out b8); clear b8)
              | (refine step_appG (E := E1) (w3.drew.alloc (.cells #[] 3)) (.int .i64 0) 8 rfl (.tmp 57) (.tmp 62) 22 3 rfl Try.underlying22 info_int rfl (by decide) (by omega) w3.heap.size 0 0 (some ⟨w3.heap.size, 0, none⟩) [] _ t _ ((ys.drop a).take t) rfl rfl HOA.out HYR.out (by omega) (by omega) hsA ?_; intro A7 c7 w7 o7 b7 _ _; rw [Nat.zero_add] at o7 ⊢; have O7 := hide (show Own E1 w7 w3.heap.size 3 A7 t c7 ((ys.drop a).take t) from o7); have B7 := hide (BA.out.trans b7); clear o7 b7))
          all_goals
            go_wp2_with fail
            go_meet
            exact ⟨rfl, rfl, B8⟩
      case rest =>
      obtain ⟨rfl, rfl, HB⟩ := hcut
      obtain ⟨f0, f1, f2', f3', f4⟩ := two_cells HBK3.out HB.out hz3
      go_wp2_with (first
        | (go_at_call 26; refine (Distance_any A n c xs A' n' c' ys o i h _ (HX3.out.below HB.out (Nat.le_refl _)) (HY3.out.below HB.out (Nat.le_refl _))).mono ?_; rw [HD.out, HE.out]; rintro e9 w9 ⟨rfl, b9⟩; have D9 := hide (le_call HB.out b9); clear b9)
        | (go_at_call 19; refine (known_any _).mono ?_; rintro e10 w10 ⟨rfl, b10⟩; have D10 := hide (le_call D9.out b10); clear b10))
      go_ret
      exact ⟨ret_bool (by simp), le_call TW.out D10.out⟩
    · have heb : (errD xs ys ⟨o, i, h⟩ != 0) = true := by simpa using he
      clear he
      go_enter Try.func12, Try.ntmps12
      go_wp2_with (first
        | (have hgd := D3; clear hgd; go_at_call 19; refine (known_any _).mono ?_; rintro e4 w4 ⟨rfl, b4⟩; have D4 := hide b4; clear b4; obtain ⟨f40, f41, f42, f43, f44⟩ := two_cells HBK.out (show Below _ _ w4 from (le_call (le_call (le_call D1.out D2.out) D3.out) D4.out)) hbz)
        | (have hgd := D2; clear hgd; go_at_call 46; refine (rWindow_any A n c xs A' n' c' ys o i h _ ((HX.out.below D1.out (Nat.le_refl _)).below D2.out (Nat.le_refl _)) ((HY.out.below D1.out (Nat.le_refl _)).below D2.out (Nat.le_refl _))).mono ?_; rintro e3 w3 ⟨rfl, b3⟩; have D3 := hide b3; clear b3; obtain ⟨f30, f31, f32, f33, f34⟩ := two_cells HBK.out (show Below _ _ w3 from (le_call (le_call D1.out D2.out) D3.out)) hbz)
        | (have hgd := D1; clear hgd; go_at_call 45; refine (Window_any A n c xs A' n' c' ys o i h _ (HX.out.below D1.out (Nat.le_refl _)) (HY.out.below D1.out (Nat.le_refl _))).mono ?_; rintro e2 w2 ⟨rfl, b2⟩; have D2 := hide b2; clear b2; obtain ⟨f20, f21, f22, f23, f24⟩ := two_cells HBK.out (show Below _ _ w2 from (le_call D1.out D2.out)) hbz)
        | (have hgd := D0; clear hgd; go_at_call 18; refine (Long_any A n c A' n' c' o i h _ hle hle').mono ?_; rintro e1 w1 ⟨rfl, b1⟩; rw [HLG.out]; have D1 := hide b1; clear b1; obtain ⟨f10, f11, f12, f13, f14⟩ := two_cells HBK.out (show Below _ _ w1 from D1.out) hbz))
      go_ret
      exact ⟨ret_bool (by simp), (le_call (le_call (le_call (le_call D0.out D1.out) D2.out) D3.out) D4.out)⟩
end Go.Proofs.Ytndfdminjegldaa
