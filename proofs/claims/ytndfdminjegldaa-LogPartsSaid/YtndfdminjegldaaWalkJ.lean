/- Walks: how many comparisons. -/
import Derived.Test.YtndfdminjegldaaWalkH
import Derived.Test.YtndfdminjegldaaWalkI
namespace Go.Proofs.Ytndfdminjegldaa
open Go.RowKit Go.Shelf
attribute [local go_sem] Oper.semAt_some

set_option maxRecDepth 100000 in
set_option maxHeartbeats 16000000 in
theorem Count_any (A : Option Addr) (n c : Nat) (xs : List Int) (A' : Option Addr) (n' c' : Nat) (ys : List Int) (o i h : Int) (w : World) (hx : R E1 w A n c xs) (hy : R E1 w A' n' c' ys) :
    Calls Try.prog 30 #[.slice A n c, .slice A' n' c', cV o i h] w fun e w' => e = .returned (.tuple #[.int .i64 (cntV xs ys ⟨o, i, h⟩), .int .i64 (errD xs ys ⟨o, i, h⟩)]) ∧ Below w.heap.size w w' := by
  have BX := hide ((Below.refl w.heap.size w).alloc (Nat.le_refl _) (.cells #[.int .i64 o, .int .i64 i, .int .i64 h] 24))
  have HBK := hide (Bk.born w 24 #[.int .i64 o, .int .i64 i, .int .i64 h])
  have HX := hide (hx.below BX.out (Nat.le_refl _))
  have HY := hide (hy.below BX.out (Nat.le_refl _))
  have hz : w.heap.size < (w.alloc (.cells #[.int .i64 o, .int .i64 i, .int .i64 h] 24)).heap.size := by simp
  by_cases he : errD xs ys ⟨o, i, h⟩ = 0
  · have HE := hide he
    have HV := hide (cntV_ok he)
    obtain ⟨h1, h2, h3⟩ := errD_ok.1 he
    have HLX := hide hx.length
    have HLY := hide hy.length
    have hn : n ≤ 10 := by rw [← hx.length]; exact (errL_ok.1 h1).1
    have hn' : n' ≤ 10 := by rw [← hy.length]; exact (errL_ok.1 h2).1
    obtain ⟨ho, hi, hh⟩ := h3
    simp only at ho hi hh
    have HC := hide (show Cst.ok ⟨o, i, h⟩ from ⟨ho, hi, hh⟩)
    clear hx hy he h1 h2
    go_enter Try.func30, Try.ntmps30
    go_upto_region 7 with (first
      | (go_at_call 55; refine (validateAll_any A n c xs A' n' c' ys o i h _ HX.out HY.out).mono ?_; rintro e1 wv ⟨rfl, b1⟩; rw [HE.out]; have k0 := (HBK.out.keep b1 hz).at_ 0; have k1 := (HBK.out.keep b1 hz).at_ 1; have k2 := (HBK.out.keep b1 hz).at_ 2; simp at k0 k1 k2; have B1 := hide b1; clear b1)
      | (go_at_call 63; refine (distances_any A n c xs A' n' c' ys o i h _ (HX.out.below B1.out (Nat.le_refl _)) (HY.out.below B1.out (Nat.le_refl _)) hn hn' ho hi hh).mono ?_; rintro e2 w1 ⟨gO, gC, L1, rfl, t1, d1, b2⟩; have T1 := hide t1; have HD := hide d1; have B2 := hide b2; clear t1 d1 b2)
      | (go_at_call 67; refine (zeros_any (n + 1) (n' + 1) _ (by omega) (by omega) (by omega) (by omega)).mono ?_; rintro e3 w2 ⟨gO2, gC2, rfl, t2, b3⟩; have T2 := hide t2; have B3 := hide b3; clear t2 b3; have m1 := T2.out.head (r := 0) (by omega); have m2 := T2.out.cell (r := 0) (k := 0) (by omega) (by omega); have fz := T2.out.ce.frozen 0; simp only [Nat.zero_mul, Nat.add_zero] at m1 m2; have hgl := T2.out.gC_lt))
    have BW1 := hide (show Below (w.alloc (.cells #[.int .i64 o, .int .i64 i, .int .i64 h] 24)).heap.size _ w1 from B1.out.trans (B2.out.mono B1.out.size))
    have HX1 := hide (HX.out.below BW1.out (Nat.le_refl _))
    have HY1 := hide (HY.out.below BW1.out (Nat.le_refl _))
    have HBK1 := hide (HBK.out.keep BW1.out hz)
    have BW := hide (BX.out.trans (BW1.out.mono (Nat.le_of_lt hz)))
    have hz1 : w.heap.size < w1.heap.size := Nat.lt_of_lt_of_le hz BW1.out.size
    have hgC2 := T2.out.gC_ge
    clear HX HY HBK BX B1 B2 BW1 hz k0 k1 k2
    have T20 := hide (T2.out.set (k := 0) (Nat.mul_pos (Nat.succ_pos n) (Nat.succ_pos n')) 1)
    have B30 := hide (B3.out.setCell (p := ⟨gC2, 0, none⟩) hgC2 (.int .i64 1))
    go_wp2_with fail
    clear T2 B3 m1 m2 fz hgl
    go_loopw [41] (fun iv wr => ∃ (t : Nat) (L : List Int), t ≤ n + 1 ∧ iv = .int .i64 t ∧ Hid (Tab wr w1.heap.size gO2 gC2 (n + 1) (n' + 1) L) ∧ Hid (CFil xs ys ⟨o, i, h⟩ L (n + 1) (n' + 1) t 0) ∧ Hid (Below w1.heap.size w1 wr)) (fun iv _ => n + 1 - (intOf iv).toNat)
    case atStart => exact ⟨0, _, Nat.zero_le _, rfl, T20, hide (cfil_zero (by omega) (by omega)), B30⟩
    case round =>
      clear T20 B30
      obtain ⟨t, L, ht, rfl, HT, HF, HB⟩ := hrel
      by_cases hlt : t < n + 1
      · have hd := HT.out.head hlt
        have htn : (t : Int) < (n : Int) + 1 := by omega
        go_wp2_with fail
        clear hd
        go_loopw [49] (fun iv wr => ∃ (s : Nat) (L : List Int), s ≤ n' + 1 ∧ iv = .int .i64 s ∧ Hid (Tab wr w1.heap.size gO2 gC2 (n + 1) (n' + 1) L) ∧ Hid (CFil xs ys ⟨o, i, h⟩ L (n + 1) (n' + 1) t s) ∧ Hid (Below w1.heap.size w1 wr)) (fun iv _ => n' + 1 - (intOf iv).toNat)
        case atStart => exact ⟨0, L, Nat.zero_le _, rfl, HT, HF, HB⟩
        case round =>
          clear HT HF HB
          obtain ⟨s, L, hs, rfl, HT, HF, HB⟩ := hrel
          by_cases hls : s < n' + 1
          · have hsn : (s : Int) < (n' : Int) + 1 := by omega
            have k0 := (HBK1.out.keep HB.out hz1).at_ 0
            have k1 := (HBK1.out.keep HB.out hz1).at_ 1
            have k2 := (HBK1.out.keep HB.out hz1).at_ 2
            simp at k0 k1 k2
            go_wp2_with (go_at_call 64; refine (lastEdits_any gO gC _ L1 A n c xs A' n' c' ys o i h t s _ (T1.out.below HB.out (Nat.le_refl _)) HD.out (HX1.out.below HB.out (Nat.le_refl _)) (HY1.out.below HB.out (Nat.le_refl _)) hn hn' ho hi hh (by omega) (by omega)).mono ?_; rintro e4 w4 ⟨Ae, ne, ce, rfl, o4, b4⟩; have OE := hide (o4.more HB.out.size); have B4 := hide (le_call HB.out b4); have T4 := hide (HT.out.below b4 (Nat.le_refl _)); clear o4 b4)
            have HF2 := hide (cin_start HF.out)
            have hne := OE.out.len
            have hne3 := les_len xs ys ⟨o, i, h⟩ t s
            rw [hne] at hne3
            have HNE := hide hne
            clear HT HB HF hne k0 k1 k2
            go_loopw [60] (fun a60 wr => ∃ (u : Nat) (L : List Int), u ≤ ne ∧ a60 = .int .i64 u ∧ Hid (Tab wr w1.heap.size gO2 gC2 (n + 1) (n' + 1) L) ∧ Hid (CIn xs ys ⟨o, i, h⟩ L (n + 1) (n' + 1) t s u) ∧ Hid (Own EI wr w1.heap.size 71 Ae ne ce (les xs ys ⟨o, i, h⟩ t s)) ∧ Hid (Below w1.heap.size w1 wr)) (fun a60 _ => ne - (intOf a60).toNat)
            case atStart => exact ⟨0, L, Nat.zero_le _, rfl, T4, HF2, OE, B4⟩
            case round =>
              clear T4 HF2 OE B4
              obtain ⟨u, L, hu, rfl, HT, HF, OE, HB⟩ := hrel
              by_cases hlu : u < ne
              · obtain ⟨ge, rfl, hge, hge2, hge3, hge4⟩ := OE.out.addr (by omega)
                have hul : u < (les xs ys ⟨o, i, h⟩ t s).length := by rw [HNE.out]; exact hlu
                have heo := les_ok (l := xs) (m := ys) (c := ⟨o, i, h⟩) (r := t) (k := s) hul
                have hce := ownE OE.out hlu
                have hbf := bf_le heo
                have HIH := hide (cin_here HF.out hlt hls)
                have HIB := hide (cin_before HF.out hlt hls hbf.1 hbf.2.1 hbf.2.2)
                have hsb := smF_bd (l := xs) (m := ys) (c := ⟨o, i, h⟩) (t := t) (s := s) (u := u) (by omega) (Nat.le_of_lt hul)
                have hqb := cq_bd xs ys ⟨o, i, h⟩ (r := bfR t ((les xs ys ⟨o, i, h⟩ t s).getD u 0)) (k := bfK s ((les xs ys ⟨o, i, h⟩ t s).getD u 0)) (by omega)
                have HAD := hide (fun L' hL => cin_add (L' := L') HF.out hul hL)
                have HEO := hide heo
                have hst : 0 ≤ st0 t s ∧ st0 t s ≤ 1 := by unfold st0; split <;> omega
                have m1 := HT.out.head hlt
                have m2 := HT.out.cell hlt hls
                have m3 := HT.out.head (r := bfR t ((les xs ys ⟨o, i, h⟩ t s).getD u 0)) (by omega)
                have m4 := HT.out.cell (r := bfR t ((les xs ys ⟨o, i, h⟩ t s).getD u 0)) (k := bfK s ((les xs ys ⟨o, i, h⟩ t s).getD u 0)) (by omega) (by omega)
                rw [HIH.out] at m2
                rw [HIB.out] at m4
                generalize cq xs ys ⟨o, i, h⟩ (bfR t ((les xs ys ⟨o, i, h⟩ t s).getD u 0)) (bfK s ((les xs ys ⟨o, i, h⟩ t s).getD u 0)) = q at *
                generalize (les xs ys ⟨o, i, h⟩ t s).getD u 0 = e at *
                have hun : (u : Int) < (ne : Int) := by omega
                have hge5 : ce ≤ 9223372036854775807 := hge4
                have hgl := HT.out.gC_lt
                have hgC2' := HT.out.gC_ge
                have hsn2 : (s : Int) < (n' : Int) + 1 := by omega
                have hvb : -3298534883329 ≤ st0 t s + smF xs ys ⟨o, i, h⟩ t s u ∧ st0 t s + smF xs ys ⟨o, i, h⟩ t s u ≤ 3298534883329 := by omega
                clear heo hge4 HIH HIB hst hsb
                generalize st0 t s + smF xs ys ⟨o, i, h⟩ t s u = v at *
                have wv : IntKind.i64.wrap (v + q) = v + q := IntWalk.i64_in _ (by omega)
                go_upto_region 17 with (go_at_call 65; refine (before_any t s e _ HEO.out (by omega) (by omega)).mono ?_; rintro e5 w5 ⟨rfl, rfl⟩)
                have hr' : ((bfR t e : Nat) : Int) < (n : Int) + 1 := by omega
                have hk' : ((bfK s e : Nat) : Int) < (n' : Int) + 1 := by omega
                generalize bfR t e = r' at *
                generalize bfK s e = k' at *
                have d1 : World.cell? { heap := wr.heap, tape := wr.tape, drawn := wr.drawn + 1, os := wr.os, output := wr.output } ⟨gO2, t, none⟩ = some (.slice (some ⟨gC2, t * (n' + 1), none⟩) (n' + 1) (n' + 1)) := m1
                have d2 : World.cell? { heap := wr.heap, tape := wr.tape, drawn := wr.drawn + 1, os := wr.os, output := wr.output } ⟨gC2, t * (n' + 1) + s, none⟩ = some (.int .i64 v) := m2
                have d3 : World.cell? { heap := wr.heap, tape := wr.tape, drawn := wr.drawn + 1, os := wr.os, output := wr.output } ⟨gO2, r', none⟩ = some (.slice (some ⟨gC2, r' * (n' + 1), none⟩) (n' + 1) (n' + 1)) := m3
                have d4 : World.cell? { heap := wr.heap, tape := wr.tape, drawn := wr.drawn + 1, os := wr.os, output := wr.output } ⟨gC2, r' * (n' + 1) + k', none⟩ = some (.int .i64 q) := m4
                go_still_tail 16, (by kernel_rfl)
                clear d1 d2 d3 d4 wv
                change wpList _ _ _ _ _ wr.drew
                have HTd := hide HT.out.drew
                have OEd := hide OE.out.drew
                have HBd := hide HB.out.drew
                have fd := HT.out.drew.ce.frozen (t * (n' + 1) + s)
                have od : wr.drew.cell? ⟨gC2, t * (n' + 1) + s, none⟩ = some (.int .i64 v) := m2
                have gd : gC2 < wr.drew.heap.size := hgl
                clear m1 m2 m3 m4 hgl HT OE HB
                generalize wr.drew = wd at *
                go_wp2_with fail
                go_roundw
                case rel => exact ⟨u + 1, _, by omega, by go_num, hide (HTd.out.set (idx_lt hlt hls) _), hide (HAD.out _ (fun r k hr hk => set_at HTd.out.len hlt hls hk _)), hide (own_set_other OEd.out HTd.out.ce (by decide) _ _), hide (HBd.out.setCell hgC2' _)⟩
                case measure => simp [intOf]; omega
              · obtain rfl : u = ne := by omega
                have k0 := (HBK1.out.keep HB.out hz1).at_ 0
                have k1 := (HBK1.out.keep HB.out hz1).at_ 1
                have k2 := (HBK1.out.keep HB.out hz1).at_ 2
                simp at k0 k1 k2
                have m1 := HT.out.head hlt
                have m2 := HT.out.cell hlt hls
                rw [cin_here HF.out hlt hls] at m2
                have hsb := smF_bd (l := xs) (m := ys) (c := ⟨o, i, h⟩) (t := t) (s := s) (u := u) (by omega) (by rw [HNE.out]; exact Nat.le_refl _)
                have htb := twi_bd (l := xs) (m := ys) (c := ⟨o, i, h⟩) (t := t) (s := s) (by omega)
                have hst : 0 ≤ st0 t s ∧ st0 t s ≤ 1 := by unfold st0; split <;> omega
                have HEND := hide (fun L' hL => cin_end (L' := L') (show CIn xs ys ⟨o, i, h⟩ L (n + 1) (n' + 1) t s (les xs ys ⟨o, i, h⟩ t s).length from by rw [HNE.out]; exact HF.out) hL)
                rw [HNE.out] at HEND
                have HXB := hide (fun (h1 : 0 < t) (h2 : 0 < s) => cin_before HF.out hlt hls (r := t - 1) (k := s - 1) (by omega) (by omega) (by omega))
                have hgl := HT.out.gC_lt
                have hgC2' := HT.out.gC_ge
                have hsz := HB.out.size
                have hsn2 : (s : Int) < (n' : Int) + 1 := by omega
                have hvb : -3298534883329 ≤ st0 t s + smF xs ys ⟨o, i, h⟩ t s u ∧ st0 t s + smF xs ys ⟨o, i, h⟩ t s u ≤ 3298534883329 := by omega
                generalize st0 t s + smF xs ys ⟨o, i, h⟩ t s u = v at *
                have hwv : IntKind.i64.wrap (v - twi xs ys ⟨o, i, h⟩ (cq xs ys ⟨o, i, h⟩) t s) = v - twi xs ys ⟨o, i, h⟩ (cq xs ys ⟨o, i, h⟩) t s := IntWalk.i64_in _ (by omega)
                clear hst hsb
                have m1d : wr.drew.cell? ⟨gO2, t, none⟩ = some (.slice (some ⟨gC2, t * (n' + 1), none⟩) (n' + 1) (n' + 1)) := m1
                have m2d : wr.drew.cell? ⟨gC2, t * (n' + 1) + s, none⟩ = some (.int .i64 v) := m2
                go_upto_region 19 with fail
                go_region_with (go_at_call 68; refine (twice_any gO gC _ gO2 gC2 _ L1 L n n' xs ys o i h t s 0 wr.drew (T1.out.below HB.out.drew (Nat.le_refl _)) HD.out HT.out.drew HXB.out hn hn' ho hi hh (by omega) (by omega)).mono ?_; rintro e6 w6 ⟨rfl, b6⟩; have T6 := hide (HT.out.drew.below b6 (Nat.le_refl _)); have B6 := hide (HB.out.drew.trans (b6.mono hsz)); have n1 := T6.out.head hlt; have n2 : w6.cell? ⟨gC2, t * (n' + 1) + s, none⟩ = some (.int .i64 v) := (b6.cell (p := ⟨gC2, t * (n' + 1) + s, none⟩) hgl).trans m2d; have fz6 := T6.out.ce.frozen (t * (n' + 1) + s); have gl6 := T6.out.gC_lt; clear b6)
                all_goals
                  go_wp2_with fail
                  go_roundw
                  case rel => exact ⟨s + 1, _, by omega, by go_num, hide (T6.out.set (idx_lt hlt hls) _), hide (HEND.out _ (fun r k hr hk => set_at T6.out.len hlt hls hk _)), hide (B6.out.setCell hgC2' _)⟩
                  case measure => simp [intOf]; omega
          · obtain rfl : s = n' + 1 := by omega
            go_wp2_with fail
            go_roundw
            case rel => exact ⟨t + 1, L, by omega, by go_num, HT, hide (cfil_row HF.out), HB⟩
            case measure => simp [intOf]; omega
      · obtain rfl : t = n + 1 := by omega
        have m1 := HT.out.head (r := n) (by omega)
        have m2 := HT.out.cell (r := n) (k := n') (by omega) (by omega)
        rw [HF.out n n' (by omega) (by omega), if_pos (by omega)] at m2
        go_wp2_with fail
        go_ret2
        exact ⟨by rw [HV.out, HE.out, HLX.out, HLY.out]; rfl, le_call BW.out HB.out⟩
  · have HV := hide (cntV_no he)
    have hne : (errD xs ys ⟨o, i, h⟩ != 0) = true := by simpa using he
    clear hx hy he
    go_enter Try.func30, Try.ntmps30
    go_wp2_with (go_at_call 55; refine (validateAll_any A n c xs A' n' c' ys o i h _ HX.out HY.out).mono ?_; rintro e1 w1 ⟨rfl, b1⟩; have B1 := hide b1; clear b1)
    go_ret2
    exact ⟨by rw [HV.out]; rfl, le_call BX.out B1.out⟩
end Go.Proofs.Ytndfdminjegldaa
