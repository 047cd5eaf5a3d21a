/- LogProofs: the walk. -/
import Derived.Test.YtndfdminjegldaaKnown
import Derived.Test.YtndfdminjegldaaWalkZ
import Derived.Deep.RegionHeld3
namespace Go.Proofs.Ytndfdminjegldaa
open Go.RowKit Go.Shelf
attribute [local go_sem] Oper.semAt_some

theorem tabV_rl (l m : List Int) (c : Cst) (k : Nat) : ((tabV l m c).getD k []).length ≤ 11 := by
  by_cases he : errD l m c = 0
  · rw [tabV_ok he]
    obtain ⟨_, h2, _⟩ := errD_ok.1 he
    have n2 := (errL_ok.1 h2).1
    by_cases hk : k < l.length + 1
    · rw [tabL_row hk]; simp; omega
    · rw [List.getD_eq_getElem?_getD, List.getElem?_eq_none (by rw [tabL_len]; omega)]; simp
  · rw [tabV_no he]; simp
set_option maxRecDepth 100000 in
set_option maxHeartbeats 8000000 in
theorem LogProofs_walk (A : Option Addr) (n c : Nat) (xs : List Int) (A' : Option Addr) (n' c' : Nat) (ys : List Int) (o i h : Int) (w : World) (hx : R E1 w A n c xs) (hy : R E1 w A' n' c' ys) :
    Calls Try.prog 7 #[tV A n c A' n' c' o i h] w fun e w' => e = .returned (.bool true) ∧ Below w.heap.size w w' := by
  have D0 := hide ((Below.refl w.heap.size w).alloc (Nat.le_refl _) (.cells #[.slice A n c, .slice A' n' c', .int .i64 o, .int .i64 i, .int .i64 h] 26))
  have HBK := hide (Bk.born w 26 #[.slice A n c, .slice A' n' c', .int .i64 o, .int .i64 i, .int .i64 h])
  have HX := hide (hx.below D0.out (Nat.le_refl _))
  have HY := hide (hy.below D0.out (Nat.le_refl _))
  have hbz : w.heap.size < (w.alloc (.cells #[.slice A n c, .slice A' n' c', .int .i64 o, .int .i64 i, .int .i64 h] 26)).heap.size := by simp
  have hle := hx.le
  have hle' := hy.le
  clear hx hy
  cases hlg : (decide (100 < n) || decide (100 < n')) with
  | true =>
    have HLG := hide hlg
    clear hlg
    go_enter Try.func7, Try.ntmps7
    go_wp2_with (first
      | (have hgd := D1; clear hgd; go_at_call 19; refine (known_any _).mono ?_; rintro e2 w2 ⟨rfl, b2⟩; have D2 := hide b2; clear b2; obtain ⟨f20, f21, f22, f23, f24⟩ := two_cells HBK.out (show Below _ _ w2 from (le_call D1.out D2.out)) hbz)
      | (have hgd := D0; clear hgd; go_at_call 18; refine (Long_any A n c A' n' c' o i h _ hle hle').mono ?_; rintro e1 w1 ⟨rfl, b1⟩; rw [HLG.out]; have D1 := hide b1; clear b1; obtain ⟨f10, f11, f12, f13, f14⟩ := two_cells HBK.out (show Below _ _ w1 from D1.out) hbz))
    go_ret
    exact ⟨ret_bool (by simp), (le_call (le_call D0.out D1.out) D2.out)⟩
  | false =>
    have HLG := hide hlg
    clear hlg
    have HRL := hide (tabV_rl xs ys ⟨o, i, h⟩)
    by_cases he : errD xs ys ⟨o, i, h⟩ = 0
    · have HE := hide he
      have hgd := tab_good he
      rw [← tabV_ok he] at hgd
      have HG1 := hide hgd.2
      have HG2 := hide hgd.1
      have HTL := hide (show (tabV xs ys ⟨o, i, h⟩).length = xs.length + 1 from by rw [tabV_ok he, tabL_len])
      have HD := hide (distV_ok he)
      obtain ⟨T, hT⟩ : ∃ T, tabV xs ys ⟨o, i, h⟩ = T := ⟨_, rfl⟩
      rw [hT] at HG1 HG2 HRL
      have HTV := hide hT
      clear he hgd hT
      go_enter Try.func7, Try.ntmps7
      go_wp2_with (first
        | (have hgd := D2; clear hgd; go_at_call 36; refine (rTable_any A n c xs A' n' c' ys o i h _ ((HX.out.below D1.out (Nat.le_refl _)).below D2.out (Nat.le_refl _)) ((HY.out.below D1.out (Nat.le_refl _)).below D2.out (Nat.le_refl _))).mono ?_; rintro e3 w3 ⟨A3, n3, c3, rfl, t3, b3⟩; rw [HE.out]; rw [HTV.out] at t3; have hnn : n2 = n3 := HN2.out.symm.trans (rr_le t3).2; subst hnn; have T3 := hide t3; have HN3 := hide (rr_le t3).2; have hle3 := (rr_le t3).1; clear t3; have D3 := hide b3; clear b3; obtain ⟨f30, f31, f32, f33, f34⟩ := two_cells HBK.out (show Below _ _ w3 from (le_call (le_call D1.out D2.out) D3.out)) hbz)
        | (have hgd := D1; clear hgd; go_at_call 35; refine (Table_any A n c xs A' n' c' ys o i h _ (HX.out.below D1.out (Nat.le_refl _)) (HY.out.below D1.out (Nat.le_refl _))).mono ?_; rintro e2 w2 ⟨A2, n2, c2, rfl, t2, b2⟩; rw [HE.out]; rw [HTV.out] at t2; have T2 := hide t2; have HN2 := hide (rr_le t2).2; have hle2 := (rr_le t2).1; clear t2; have D2 := hide b2; clear b2; obtain ⟨f20, f21, f22, f23, f24⟩ := two_cells HBK.out (show Below _ _ w2 from (le_call D1.out D2.out)) hbz)
        | (have hgd := D0; clear hgd; go_at_call 18; refine (Long_any A n c A' n' c' o i h _ hle hle').mono ?_; rintro e1 w1 ⟨rfl, b1⟩; rw [HLG.out]; have D1 := hide b1; clear b1; obtain ⟨f10, f11, f12, f13, f14⟩ := two_cells HBK.out (show Below _ _ w1 from D1.out) hbz))
      have HB3 := hide (show Below _ _ w3 from (le_call (le_call D1.out D2.out) D3.out))
      have HX3 := hide (((HX.out.below D1.out (Nat.le_refl _)).below D2.out (Nat.le_refl _)).below D3.out (Nat.le_refl _))
      have HY3 := hide (((HY.out.below D1.out (Nat.le_refl _)).below D2.out (Nat.le_refl _)).below D3.out (Nat.le_refl _))
      have HBK3 := hide (HBK.out.keep HB3.out hbz)
      have hz3 : w.heap.size < w3.heap.size := Nat.lt_of_lt_of_le hbz HB3.out.size
      have TW := hide (le_call (le_call (le_call D0.out D1.out) D2.out) D3.out)
      have T2 := hide (T2.out.below D3.out)
      clear D1 D2 D3 HX HY HBK HB3 f10 f11 f12 f13 f14 f20 f21 f22 f23 f24
      have hn0 : 0 < n2 := by rw [← HN2.out, ← HTV.out, HTL.out]; omega
      obtain ⟨b2, f2, rfl, hc2, hm2⟩ := rr_some T2.out hn0
      obtain ⟨b3, f3, rfl, hc3, hm3⟩ := rr_some T3.out hn0
      go_loopw [7] (fun a7 wr => ∃ t : Nat, t ≤ n2 ∧ a7 = .int .i64 t ∧ Hid (Below w3.heap.size w3 wr)) (fun a7 _ => n2 - (intOf a7).toNat)
      case atStart => exact ⟨0, Nat.zero_le _, rfl, hide (Below.refl _ _)⟩
      case round =>
        obtain ⟨t, ht, rfl, HB⟩ := hrel
        by_cases hlt : t < n2
        · have htn : (t : Int) < (n2 : Int) := by omega
          obtain ⟨hb2, A4, n4, c4, m4, r4⟩ := rr_at (T2.out.below HB.out) hlt
          obtain ⟨hb3, A5, n5, c5, m5, r5⟩ := rr_at (T3.out.below HB.out) hlt
          have hl4 := r4.length
          have hl5 := r5.length
          have hrl := HRL.out t
          have R4 := hide r4
          have R5 := hide r5
          have hsz := HB.out.size
          clear r4 r5
          go_wp2_with fail
          go_region_held3 (fun w' => w'.cell? ⟨b2, f2 + t, none⟩ = some (.slice A4 n4 c4) ∧ w'.cell? ⟨b3, f3 + t, none⟩ = some (.slice A5 n5 c5))
            (first
              | go_keep
              | exact ⟨m4, m5⟩
              | (rw [hw8]; exact ⟨m4, m5⟩))
            (first
              | (go_at_call 29; refine (SameInts_any A4 n4 c4 A5 n5 c5 _ _ wr.drew (R4.out.drewN 1) (R5.out.drewN 1) (by omega) (by omega)).mono ?_; rw [beq_self_eq_true]; rintro e8 w8 ⟨rfl, q8, hw8⟩))
          all_goals
            go_wp2_with fail
            go_roundw
            case rel => exact ⟨t + 1, by omega, by go_num, hide (below_drewN HB.out _)⟩
            case measure => simp [intOf]; omega
        · obtain rfl : t = n2 := by omega
          obtain ⟨f0, f1, f2', f3', f4⟩ := two_cells HBK3.out HB.out hz3
          go_wp2_with (first
            | (have hgd := D9; clear hgd; go_at_call 19; refine (known_any _).mono ?_; rintro e10 w10 ⟨rfl, b10⟩; have D10 := hide (le_call D9.out b10); clear b10)
            | (have hgd := D8; clear hgd; go_at_call 26; refine (Distance_any A n c xs A' n' c' ys o i h _ (HX3.out.below D8.out (Nat.le_refl _)) (HY3.out.below D8.out (Nat.le_refl _))).mono ?_; rw [HD.out, HE.out]; rintro e9 w9 ⟨rfl, b9⟩; have D9 := hide (le_call D8.out b9); clear b9; obtain ⟨f90, f91, f92, f93, f94⟩ := two_cells HBK3.out D9.out hz3)
            | (go_at_call 33; refine (CheckTable_any A n c xs A' n' c' ys o i h _ t c2 T _ (HX3.out.below HB.out (Nat.le_refl _)) (HY3.out.below HB.out (Nat.le_refl _)) (T2.out.below HB.out)).mono ?_; rw [HG1.out, HG2.out]; rintro e8 w8 ⟨rfl, b8⟩; have D8 := hide (le_call HB.out b8); clear b8; obtain ⟨f80, f81, f82, f83, f84⟩ := two_cells HBK3.out D8.out hz3))
          go_ret
          exact ⟨ret_bool (by simp), le_call TW.out D10.out⟩
    · have heb : (errD xs ys ⟨o, i, h⟩ != 0) = true := by simpa using he
      have HTV := hide (tabV_no he)
      have HG1 := hide (show valG xs ys ⟨o, i, h⟩ [] = 0 from valG_no (by rw [errG_no he]; exact he))
      clear he
      go_enter Try.func7, Try.ntmps7
      go_wp2_with (first
        | (have hgd := D2; clear hgd; go_at_call 36; refine (rTable_any A n c xs A' n' c' ys o i h _ ((HX.out.below D1.out (Nat.le_refl _)).below D2.out (Nat.le_refl _)) ((HY.out.below D1.out (Nat.le_refl _)).below D2.out (Nat.le_refl _))).mono ?_; rintro e3 w3 ⟨A3, n3, c3, rfl, t3, b3⟩; rw [HTV.out] at t3; have hnn : n2 = n3 := HN2.out.symm.trans (rr_le t3).2; subst hnn; have T3 := hide t3; have HN3 := hide (rr_le t3).2; have hle3 := (rr_le t3).1; clear t3; have D3 := hide b3; clear b3; obtain ⟨f30, f31, f32, f33, f34⟩ := two_cells HBK.out (show Below _ _ w3 from (le_call (le_call D1.out D2.out) D3.out)) hbz)
        | (have hgd := D1; clear hgd; go_at_call 35; refine (Table_any A n c xs A' n' c' ys o i h _ (HX.out.below D1.out (Nat.le_refl _)) (HY.out.below D1.out (Nat.le_refl _))).mono ?_; rintro e2 w2 ⟨A2, n2, c2, rfl, t2, b2⟩; rw [HTV.out] at t2; have T2 := hide t2; have HN2 := hide (rr_le t2).2; have hle2 := (rr_le t2).1; clear t2; have D2 := hide b2; clear b2; obtain ⟨f20, f21, f22, f23, f24⟩ := two_cells HBK.out (show Below _ _ w2 from (le_call D1.out D2.out)) hbz)
        | (have hgd := D0; clear hgd; go_at_call 18; refine (Long_any A n c A' n' c' o i h _ hle hle').mono ?_; rintro e1 w1 ⟨rfl, b1⟩; rw [HLG.out]; have D1 := hide b1; clear b1; obtain ⟨f10, f11, f12, f13, f14⟩ := two_cells HBK.out (show Below _ _ w1 from D1.out) hbz))
      have HB3 := hide (show Below _ _ w3 from (le_call (le_call D1.out D2.out) D3.out))
      have HX3 := hide (((HX.out.below D1.out (Nat.le_refl _)).below D2.out (Nat.le_refl _)).below D3.out (Nat.le_refl _))
      have HY3 := hide (((HY.out.below D1.out (Nat.le_refl _)).below D2.out (Nat.le_refl _)).below D3.out (Nat.le_refl _))
      have HBK3 := hide (HBK.out.keep HB3.out hbz)
      have hz3 : w.heap.size < w3.heap.size := Nat.lt_of_lt_of_le hbz HB3.out.size
      have TW := hide (le_call (le_call (le_call D0.out D1.out) D2.out) D3.out)
      have T2 := hide (T2.out.below D3.out)
      clear D1 D2 D3 HX HY HBK HB3 f10 f11 f12 f13 f14 f20 f21 f22 f23 f24
      go_loopw [7] (fun a7 wr => ∃ t : Nat, t ≤ n2 ∧ a7 = .int .i64 t ∧ Hid (Below w3.heap.size w3 wr)) (fun a7 _ => n2 - (intOf a7).toNat)
      case atStart => exact ⟨0, Nat.zero_le _, rfl, hide (Below.refl _ _)⟩
      case round =>
        obtain ⟨t, ht, rfl, HB⟩ := hrel
        by_cases hlt : t < n2
        · have : n2 = 0 := by rw [← HN2.out]; rfl
          omega
        · obtain rfl : t = n2 := by omega
          obtain ⟨f0, f1, f2', f3', f4⟩ := two_cells HBK3.out HB.out hz3
          go_wp2_with (first
            | (have hgd := D9; clear hgd; go_at_call 19; refine (known_any _).mono ?_; rintro e10 w10 ⟨rfl, b10⟩; have D10 := hide (le_call D9.out b10); clear b10)
            | (have hgd := D8; clear hgd; go_at_call 26; refine (Distance_any A n c xs A' n' c' ys o i h _ (HX3.out.below D8.out (Nat.le_refl _)) (HY3.out.below D8.out (Nat.le_refl _))).mono ?_; rintro e9 w9 ⟨rfl, b9⟩; have D9 := hide (le_call D8.out b9); clear b9; obtain ⟨f90, f91, f92, f93, f94⟩ := two_cells HBK3.out D9.out hz3)
            | (go_at_call 33; refine (CheckTable_any A n c xs A' n' c' ys o i h _ t c2 [] _ (HX3.out.below HB.out (Nat.le_refl _)) (HY3.out.below HB.out (Nat.le_refl _)) (T2.out.below HB.out)).mono ?_; rw [HG1.out]; rintro e8 w8 ⟨rfl, b8⟩; have D8 := hide (le_call HB.out b8); clear b8; obtain ⟨f80, f81, f82, f83, f84⟩ := two_cells HBK3.out D8.out hz3))
          go_ret
          exact ⟨ret_bool (by simp), le_call TW.out D10.out⟩
end Go.Proofs.Ytndfdminjegldaa
