/- LogTables: the walk. -/
import Derived.Test.YtndfdminjegldaaKnown
import Derived.Test.YtndfdminjegldaaWalkTr
import Derived.Test.YtndfdminjegldaaWalkY
namespace Go.Proofs.Ytndfdminjegldaa
open Go.RowKit Go.Shelf
attribute [local go_sem] Oper.semAt_some

theorem valG_le {l m : List Int} {c : Cst} {T : Tbl} (h : errG l m c T = 0) : valG l m c T ≤ dist l m c := by
  rw [valG_ok h]; exact grw_dist (errG_zero h).2.2
set_option maxRecDepth 100000 in
set_option maxHeartbeats 8000000 in
theorem LogTables_walk (A : Option Addr) (n c : Nat) (xs : List Int) (A' : Option Addr) (n' c' : Nat) (ys : List Int) (o i h : Int) (At : Option Addr) (nt ct : Nat) (T : Tbl) (w : World) (hx : R E1 w A n c xs) (hy : R E1 w A' n' c' ys) (hT : RR w At nt ct T) :
    Calls Try.prog 6 #[tV A n c A' n' c' o i h, .slice At nt ct] w fun e w' => e = .returned (.bool true) ∧ Below w.heap.size w w' := by
  have D0 := hide ((Below.refl w.heap.size w).alloc (Nat.le_refl _) (.cells #[.slice A n c, .slice A' n' c', .int .i64 o, .int .i64 i, .int .i64 h] 26))
  have HBK := hide (Bk.born w 26 #[.slice A n c, .slice A' n' c', .int .i64 o, .int .i64 i, .int .i64 h])
  have HX := hide (hx.below D0.out (Nat.le_refl _))
  have HY := hide (hy.below D0.out (Nat.le_refl _))
  have hbz : w.heap.size < (w.alloc (.cells #[.slice A n c, .slice A' n' c', .int .i64 o, .int .i64 i, .int .i64 h] 26)).heap.size := by simp
  have hle := hx.le
  have hle' := hy.le
  have HT := hide (hT.below D0.out)
  have hlet := (rr_le hT).1
  clear hx hy hT
  cases hlg : (decide (100 < n) || decide (100 < n')) with
  | true =>
    have HLG := hide hlg
    clear hlg
    go_enter Try.func6, Try.ntmps6
    go_wp2_with (first
      | (have hgd := D1; clear hgd; go_at_call 19; refine (known_any _).mono ?_; rintro e2 w2 ⟨rfl, b2⟩; have D2 := hide b2; clear b2; obtain ⟨f20, f21, f22, f23, f24⟩ := two_cells HBK.out (show Below _ _ w2 from (le_call D1.out D2.out)) hbz)
      | (have hgd := D0; clear hgd; go_at_call 18; refine (Long_any A n c A' n' c' o i h _ hle hle').mono ?_; rintro e1 w1 ⟨rfl, b1⟩; rw [HLG.out]; have D1 := hide b1; clear b1; obtain ⟨f10, f11, f12, f13, f14⟩ := two_cells HBK.out (show Below _ _ w1 from D1.out) hbz))
    go_ret
    exact ⟨ret_bool (by simp), (le_call (le_call D0.out D1.out) D2.out)⟩
  | false =>
    have HLG := hide hlg
    clear hlg
    by_cases hnp : 100 < nt
    · have hnp2 : (100 : Int) < (nt : Int) := by omega
      go_enter Try.func6, Try.ntmps6
      go_wp2_with (first
        | (have hgd := D1; clear hgd; go_at_call 19; refine (known_any _).mono ?_; rintro e2 w2 ⟨rfl, b2⟩; have D2 := hide b2; clear b2; obtain ⟨f20, f21, f22, f23, f24⟩ := two_cells HBK.out (show Below _ _ w2 from (le_call D1.out D2.out)) hbz)
        | (have hgd := D0; clear hgd; go_at_call 18; refine (Long_any A n c A' n' c' o i h _ hle hle').mono ?_; rintro e1 w1 ⟨rfl, b1⟩; rw [HLG.out]; have D1 := hide b1; clear b1; obtain ⟨f10, f11, f12, f13, f14⟩ := two_cells HBK.out (show Below _ _ w1 from D1.out) hbz))
      go_ret
      exact ⟨ret_bool (by simp), (le_call (le_call D0.out D1.out) D2.out)⟩
    · have hnp2 : (nt : Int) ≤ 100 := by omega
      go_enter Try.func6, Try.ntmps6
      go_wp2_with (first
        | (have hgd := D0; clear hgd; go_at_call 18; refine (Long_any A n c A' n' c' o i h _ hle hle').mono ?_; rintro e1 w1 ⟨rfl, b1⟩; rw [HLG.out]; have D1 := hide b1; clear b1; obtain ⟨f10, f11, f12, f13, f14⟩ := two_cells HBK.out (show Below _ _ w1 from D1.out) hbz))
      have HX1 := hide (HX.out.below D1.out (Nat.le_refl _))
      have HY1 := hide (HY.out.below D1.out (Nat.le_refl _))
      have HT1 := hide (HT.out.below D1.out)
      have HBK1 := hide (HBK.out.keep (show Below _ _ w1 from D1.out) hbz)
      have hz1 : w.heap.size < w1.heap.size := Nat.lt_of_lt_of_le hbz D1.out.size
      have TW := hide (le_call D0.out D1.out)
      clear HX HY HT HBK D1
      go_loopw [5] (fun a5 wr => ∃ t : Nat, t ≤ nt ∧ a5 = .int .i64 t ∧ w1 = wr) (fun a5 _ => nt - (intOf a5).toNat)
      case atStart => exact ⟨0, Nat.zero_le _, rfl, rfl⟩
      case round =>
        obtain ⟨t, ht, rfl, rfl⟩ := hrel
        by_cases hlt : t < nt
        · have htn : (t : Int) < (nt : Int) := by omega
          obtain ⟨bt, ot, rfl, hct, hmt⟩ := rr_some HT1.out (by omega)
          obtain ⟨hbt, Ar, nr, cr, m1, r1⟩ := rr_at HT1.out hlt
          have hler := r1.le
          clear r1
          by_cases hlr : 100 < nr
          · have HLR := hide (show decide (100 < nr) = true from by simpa using hlr)
            clear hlr
            go_wp2_with (first
              | (go_at_call 32; refine (large_any Ar nr cr _ hler).mono ?_; rw [HLR.out]; rintro e1 w1 ⟨rfl, rfl⟩)
              | (go_at_call 19; refine (known_any _).mono ?_; rintro e2 w2 ⟨rfl, b2⟩; have D2 := hide b2; clear b2))
            go_ret
            exact ⟨rfl, le_call TW.out D2.out⟩
          · have HLR := hide (show decide (100 < nr) = false from by simpa using hlr)
            clear hlr
            go_wp2_with (go_at_call 32; refine (large_any Ar nr cr _ hler).mono ?_; rw [HLR.out]; rintro e1 w1 ⟨rfl, rfl⟩)
            go_roundw
            case rel => exact ⟨t + 1, by omega, by go_num, by trivial⟩
            case measure => simp [intOf]; omega
        · obtain rfl : t = nt := by omega
          have HCT := hide (CheckTable_any A n c xs A' n' c' ys o i h At t ct T w1 HX1.out HY1.out HT1.out)
          have HCR := hide (fun W (hb : Below w1.heap.size w1 W) => rCheckTable_any A n c xs A' n' c' ys o i h At t ct T W (HX1.out.below hb (Nat.le_refl _)) (HY1.out.below hb (Nat.le_refl _)) (HT1.out.below hb))
          by_cases heg : errG xs ys ⟨o, i, h⟩ T = 0
          · have HEG := hide heg
            have he := (errG_zero heg).1
            have HE := hide he
            have HD := hide (distV_ok he)
            have hvl := valG_le heg
            clear heg he
            generalize valG xs ys ⟨o, i, h⟩ T = va at *
            generalize dist xs ys ⟨o, i, h⟩ = dm at *
            go_wp2_with (first
              | (have hgd := D4; clear hgd; go_at_call 19; refine (known_any _).mono ?_; rintro e5 w5 ⟨rfl, b5⟩; have D5 := hide (le_call D4.out b5); clear b5)
              | (have hgd := D3; clear hgd; go_at_call 26; refine (Distance_any A n c xs A' n' c' ys o i h _ (HX1.out.below D3.out (Nat.le_refl _)) (HY1.out.below D3.out (Nat.le_refl _))).mono ?_; rw [HD.out, HE.out]; rintro e4 w4 ⟨rfl, b4⟩; have D4 := hide (le_call D3.out b4); clear b4; obtain ⟨f40, f41, f42, f43, f44⟩ := two_cells HBK1.out D4.out hz1)
              | (have hgd := D2; clear hgd; go_at_call 34; refine (HCR.out _ D2.out).mono ?_; rw [HEG.out]; rintro e3 w3 ⟨rfl, b3⟩; have D3 := hide (le_call D2.out b3); clear b3; obtain ⟨f30, f31, f32, f33, f34⟩ := two_cells HBK1.out D3.out hz1)
              | (go_at_call 33; refine HCT.out.mono ?_; rw [HEG.out]; rintro e2 w2 ⟨rfl, b2⟩; have D2 := hide b2; clear b2; obtain ⟨f20, f21, f22, f23, f24⟩ := two_cells HBK1.out D2.out hz1))
            go_ret
            exact ⟨ret_bool (by simp), le_call TW.out D5.out⟩
          · have hebb : (errG xs ys ⟨o, i, h⟩ T != 0) = true := by simpa using heg
            clear heg
            generalize errG xs ys ⟨o, i, h⟩ T = eg at *
            generalize valG xs ys ⟨o, i, h⟩ T = va at *
            go_wp2_with (first
              | (have hgd := D4; clear hgd; go_at_call 19; refine (known_any _).mono ?_; rintro e5 w5 ⟨rfl, b5⟩; have D5 := hide (le_call D4.out b5); clear b5)
              | (have hgd := D3; clear hgd; go_at_call 26; refine (Distance_any A n c xs A' n' c' ys o i h _ (HX1.out.below D3.out (Nat.le_refl _)) (HY1.out.below D3.out (Nat.le_refl _))).mono ?_; rintro e4 w4 ⟨rfl, b4⟩; have D4 := hide (le_call D3.out b4); clear b4; obtain ⟨f40, f41, f42, f43, f44⟩ := two_cells HBK1.out D4.out hz1)
              | (have hgd := D2; clear hgd; go_at_call 34; refine (HCR.out _ D2.out).mono ?_; rintro e3 w3 ⟨rfl, b3⟩; have D3 := hide (le_call D2.out b3); clear b3; obtain ⟨f30, f31, f32, f33, f34⟩ := two_cells HBK1.out D3.out hz1)
              | (go_at_call 33; refine HCT.out.mono ?_; rintro e2 w2 ⟨rfl, b2⟩; have D2 := hide b2; clear b2; obtain ⟨f20, f21, f22, f23, f24⟩ := two_cells HBK1.out D2.out hz1))
            go_ret
            exact ⟨ret_bool (by simp), le_call TW.out D5.out⟩
end Go.Proofs.Ytndfdminjegldaa
