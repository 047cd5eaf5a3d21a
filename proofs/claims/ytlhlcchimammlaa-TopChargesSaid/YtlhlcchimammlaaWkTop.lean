/- TopCharges: the walk. -/
import Derived.Test.YtlhlcchimammlaaWkWith
import Derived.Test.YtlhlcchimammlaaWkFires
import Derived.Test.YtlhlcchimammlaaWalkU
import Derived.Test.YtlhlcchimammlaaWalkQ
import Derived.Test.YtlhlcchimammlaaWalkL
import Derived.Deep.Cut
import Derived.Deep.CutRange
namespace Go.Proofs.Ytlhlcchimammlaa
open Go.RowKit Go.Shelf
attribute [local go_sem] Oper.semAt_some

theorem ways23 : waysV [2, 3] 6 = 2 := by
  have e : errY [2, 3] 6 = 0 := by decide
  rw [waysV_ok e]
  show wy [2, 3] 2 6 = 2
  simp [wy]
theorem errY23 : errY [2, 3] 6 = 0 := by decide
theorem top_errT {xs : List Int} {x : Int} (h : withE xs x = 0) : errT xs (withV xs x) = 0 := by
  obtain ⟨h1, _, h3⟩ := withE_ok h
  rw [errT_yes (errW_vw.2 h1), withV_ok h]
  exact errW_vw.2 h3
theorem top_same {xs : List Int} {x : Int} (h : withE xs x = 0) : samW xs (withV xs x) = canV xs x := by
  rw [samW_ok (top_errT h), withV_ok h, with_sam h, canV_ok (with_err1 h)]
theorem top_sm {L : List Int} (h : ∀ i, i < L.length → 0 ≤ L.getD i 0 ∧ L.getD i 0 ≤ 2000) : ∀ t, t ≤ L.length → 0 ≤ smTo L t ∧ smTo L t ≤ 2000 * t
  | 0, _ => by simp [smTo]
  | t + 1, ht => by
    have h1 := top_sm h t (by omega)
    have h2 := h t (by omega)
    rw [smTo_succ]
    omega
set_option maxRecDepth 100000 in
set_option maxHeartbeats 8000000 in
theorem TopCharges_walk (A : Option Addr) (n c : Nat) (xs : List Int) (v0 : Int) (v1 : Int) (w : World) (h : R E1 w A n c xs) (hw0 : (Lit.int .i64 v0).wf = true) (hw1 : (Lit.int .i64 v1).wf = true) :
    Calls Try.prog 18 #[.slice A n c, .int .i64 v0, .int .i64 v1] w fun e w' => e = .returned (.bool true) ∧ Below w.heap.size w w' := by
  have HX := hide h
  have HL := hide h.length
  have hm9 := h.le
  have HW6 := hide ways23
  have HE6 := hide errY23
  by_cases hn : 50 < n
  · have HLn := hide (show decide (50 < n) = true from by simpa using hn)
    clear h
    go_enter Try.func18, Try.ntmps18
    go_wp2_with (first
      | (go_at_call 32; refine (Ways_any _ 2 2 [2, 3] 6 _ (lit_row w [2, 3] (by decide))).mono ?_; rw [HW6.out, HE6.out]; rintro e w1 ⟨rfl, b1⟩; have D1 := hide (le_call ((Below.refl _ w).alloc (Nat.le_refl _) _) b1); clear b1)
      | (go_at_call 19; refine (Long1_any _ n c w1 hm9).mono ?_; rintro e w2 ⟨rfl, b2⟩; have D2 := hide b2; clear b2; rw [HLn.out]))
    go_ret
    exact ⟨rfl, (le_call D1.out D2.out)⟩
  · have HLn := hide (show decide (50 < n) = false from by simpa using hn)
    by_cases ha : errA xs v0 = 0
    · have hCA := canV_ok ha
      obtain ⟨hV, _, _⟩ := errA_ok.1 ha
      have hw := errW_vw.2 hV
      have HEW := hide hw
      have hWY := fun h : errY xs v0 = 0 => waysV_ok h
      obtain ⟨k, rfl, hk2, hwt⟩ := errA_am ha
      have HER : Hid (errA xs (k : Int) = 0) := hide ha
      rw [Int.toNat_natCast] at hCA hWY
      have HFV := hide (fun hc : canV xs (k : Int) = true => (show fewV xs (k : Int) = fw xs k from by rw [fewV_ok hc, Int.toNat_natCast]))
      obtain ⟨h0m, h01, h02⟩ := hV.fst
      have hn1 : 1 ≤ n := by rw [← h.length]; exact hV.1
      obtain ⟨s, hs⟩ : ∃ s : Nat, xs.getD 0 0 = (s : Int) := ⟨(xs.getD 0 0).toNat, by omega⟩
      have hRV := rsdV_ok hw
      have hsn : (xs.getD 0 0).toNat = s := by omega
      have hri := res_iff hV k
      rw [hsn] at hri
      have hs30 : s ≤ 30 := by omega
      have hs1 : 1 ≤ s := by omega
      have hmod : k % s < s := Nat.mod_lt _ (by omega)
      have HRA := hide (show (rsdV xs).getD (k % s) 0 = resV xs 870 (k % s) from by rw [hRV, hsn, rssV_at xs 870 hmod])
      have HRL := hide (show (rsdV xs).length = s from by rw [hRV, hsn, rssV_len])
      have hrb := resV_bd xs 870 (k % s)
      have hCV := hCA.trans hri
      have HGH := hide (fun hg : errG xs = 0 => (show hasB (gapsV xs) (k : Int) = !canV xs (k : Int) from by
        obtain ⟨hV, hg1⟩ := errG_ok.1 hg
        have hga := gap_any hV hg1 k
        rw [← gapsV_ok hg] at hga
        unfold hasB
        rw [hga, hCA]))
      have HWY := hide (fun hy : errY xs (k : Int) = 0 => (show decide (0 < waysV xs (k : Int)) = canV xs (k : Int) from by rw [hWY hy, hCA]; exact wy_mu hwt k))
      have hrw := redW_ok hw
      have hra : errA (redW xs) (k : Int) = 0 := by rw [hrw]; exact errA_fine (errW_vw.2 (red_vw hV)) (by omega)
      have HAR := hide hra
      have HCR := hide (show canV (redW xs) (k : Int) = canV xs (k : Int) from by rw [canV_ok hra, hrw, Int.toNat_natCast, red_mu hV, hCA])
      obtain ⟨bb, off, hr⟩ := h
      obtain rfl := hr.at_ (by omega)
      have HRR := hide hr
      have HS0 := hide hs
      have hm : (k : Int).tmod (s : Int) = ((k % s : Nat) : Int) := by rw [Int.tmod_eq_emod_of_nonneg (by omega)]; rfl
      have hm2 : (k : Int) % (s : Int) = ((k % s : Nat) : Int) := by rfl
      have hs0 : (s : Int) ≠ 0 := by omega
      generalize k % s = r at *
      generalize resV xs 870 r = v at *
      have HM := hide hm
      have HM2 := hide hm2
      have HCV := hide hCV
      clear ha hRV hV hr h0m h01 h02 hs hw hsn hri hCA hwt hm hm2 hCV hWY hrw hra
      have hnn : (0 : Int) < (n : Int) := by omega
      have hrs : (r : Int) < (s : Int) := by omega
      have hm := HM.out
      have hm2 := HM2.out
      have HCL := hide (fun (wr : World) (hb : Below w.heap.size w wr) => (show wr.cell? ⟨bb, off, none⟩ = some (.int .i64 (s : Int)) from by
        have a0 := c1 (k := 0) (HRR.out.below hb (Nat.le_refl _)) (by omega)
        rw [HS0.out] at a0
        exact a0))
      cases hc : canV xs (k : Int) with
      | true =>
        have HCN := hide hc
        have hvv : 0 ≤ v ∧ v ≤ (k : Int) := by
          have h1 := HCV.out
          rw [hc] at h1
          have h2 := h1.symm
          rw [Bool.and_eq_true, decide_eq_true_eq, decide_eq_true_eq] at h2
          exact h2
        have HFW := hide (HFV.out hc)
        have HGH := hide (fun hg => (HGH.out hg).trans (congrArg (!·) hc))
        have HWY := hide (fun hg => (HWY.out hg).trans hc)
        have HCR := hide (HCR.out.trans hc)
        clear hc
        go_enter Try.func18, Try.ntmps18
        go_wp2_with (first
          | (go_at_call 32; refine (Ways_any _ 2 2 [2, 3] 6 _ (lit_row w [2, 3] (by decide))).mono ?_; rw [HW6.out, HE6.out]; rintro e w1 ⟨rfl, b1⟩; have D1 := hide (le_call ((Below.refl _ w).alloc (Nat.le_refl _) _) b1); clear b1)
          | (go_at_call 19; refine (Long1_any _ n c w1 hm9).mono ?_; rintro e w2 ⟨rfl, b2⟩; have D2 := hide b2; clear b2; rw [HLn.out])
          | (go_at_call 27; refine (Can_any _ n c xs (k : Int) _ ((HX.out.below D1.out (Nat.le_refl _)).below D2.out (Nat.le_refl _))).mono ?_; rw [HCN.out, HER.out]; rintro e w3 ⟨rfl, b3⟩; have D3 := hide b3; clear b3)
          | (go_at_call 30; refine (Fire_any _ n c xs (k : Int) _ (((HX.out.below D1.out (Nat.le_refl _)).below D2.out (Nat.le_refl _)).below D3.out (Nat.le_refl _))).mono ?_; rintro e w4 ⟨A2, n2, c2, L2, rfl, o2, b2, k2, l2⟩; rw [HCN.out, HER.out]; have D4 := hide b2; have HN2 := hide o2.len; have HK2 := hide k2; have HR2 := hide o2.row; clear o2 b2 k2 l2; have HOK := hide (HK2.out HCN.out); obtain rfl : n = n2 := (by rw [← HN2.out, ← HL.out]; exact HOK.out.1.1.symm))
          | (go_at_call 28; refine (Fewest_any _ n c xs (k : Int) _ ((((HX.out.below D1.out (Nat.le_refl _)).below D2.out (Nat.le_refl _)).below D3.out (Nat.le_refl _)).below D4.out (Nat.le_refl _))).mono ?_; rw [HFW.out, HCN.out, HER.out]; rintro e w5 ⟨rfl, b5⟩; have D5 := hide b5; clear b5)
          | (go_at_call 23; refine (CheckCounts_any _ n c xs A2 n c2 L2 _ (((((HX.out.below D1.out (Nat.le_refl _)).below D2.out (Nat.le_refl _)).below D3.out (Nat.le_refl _)).below D4.out (Nat.le_refl _)).below D5.out (Nat.le_refl _)) (HR2.out.below D5.out (Nat.le_refl _))).mono ?_; rw [cntV_ok HEW.out HOK.out.1, errK_fine HEW.out HOK.out.1, HOK.out.2.1]; rintro e w6 ⟨rfl, q6, hw6⟩; have D6 := hide (show Below w5.heap.size w5 w6 from by rw [hw6]; exact below_drewN (Below.refl _ _) q6); clear hw6; have HRL2 := hide ((HR2.out.below D5.out (Nat.le_refl _)).below D6.out (Nat.le_refl _))))
        have HU := hide (fun t (ht : t ≤ n) => top_sm HOK.out.1.2 t (by rw [HN2.out]; exact ht))
        go_loop [20, 21] (fun u i => ∃ t : Nat, t ≤ n ∧ i = .int .i64 t ∧ u = .int .i64 (smTo L2 t)) (fun _ i => n - (intOf i).toNat)
        case atStart => exact ⟨0, Nat.zero_le _, rfl, rfl⟩
        case round =>
          obtain ⟨t, ht, rfl, rfl⟩ := hrel
          have hu := HU.out t ht
          by_cases hlt : t < n
          · obtain ⟨b2, off2, hr2⟩ := HRL2.out
            obtain rfl := hr2.at_ (by omega)
            have a1 := c1 hr2 hlt
            have hx := HOK.out.1.2 t (by rw [HN2.out]; exact hlt)
            have HS := hide (smTo_succ L2 t)
            clear hr2
            generalize L2.getD t 0 = x at *
            generalize smTo L2 t = sm at *
            go_wp2_with fail
            go_round
            case rel => exact ⟨t + 1, by omega, by go_num, by rw [HS.out]⟩
            case measure => simp [intOf]; omega
          · obtain rfl : t = n := by omega
            have HSF := hide (show smTo L2 t = fw xs k from by rw [← HL.out, HOK.out.2.2, Int.toNat_natCast])
            have hsf := HSF.out
            clear hu
            have HT0 := hide (le_call (le_call (le_call (le_call (le_call D1.out D2.out) D3.out) D4.out) D5.out) D6.out)
            go_upto_region 27 with (go_at_call 42; refine (Residues_any _ _ c xs _ (HX.out.below HT0.out (Nat.le_refl _))).mono ?_; rw [HEW.out]; rintro e w7 ⟨A7, n7, c7, rfl, o7, b7⟩; have HT := hide (le_call HT0.out b7); have O7 := hide o7; have HN7 := hide o7.len; clear o7 b7; obtain rfl : s = n7 := (by have h1 := HN7.out; have h2 := HRL.out; omega); obtain ⟨g7, rfl, hg7, hg7', hg7'', hg74⟩ := O7.out.addr hs1; have hg75 : c7 ≤ 9223372036854775807 := hg74; clear hg74 hg7; have a0 := HCL.out _ HT.out; have r1 := own1 O7.out hmod; rw [HRA.out] at r1)
            go_cut [159] from 151 (fun v wx => v = .bool false ∧ Hid (Below w.heap.size w wx))
            case first =>
              have dv0 : decide (0 ≤ v) = true := by simpa using hvv.1
              have dvk : decide (v ≤ (k : Int)) = true := by simpa using hvv.2
              obtain ⟨hv1, hv2⟩ := hvv
              go_wp2_with fail
              go_meet
              exact ⟨rfl, HT⟩
            case rest =>
            obtain ⟨rfl, HB⟩ := hcut
            clear HT O7 HN7 a0 r1 HT0 hmod
            go_upto_region 30 with (go_at_call 37; refine (Gaps_any _ _ c xs _ (HX.out.below HB.out (Nat.le_refl _))).mono ?_; rintro e w8 ⟨A8, n8, c8, rfl, o8, b8⟩; have HT := hide (le_call HB.out b8); have O8 := hide o8; clear o8 b8)
            go_cut [173] from 165 (fun v wx => v = .bool false ∧ Hid (Below w.heap.size w wx))
            case first =>
              by_cases hg : errG xs = 0
              · have hge : (errG xs == 0) = true := by simpa using hg
                have HHS := hide (HGH.out hg)
                clear hg
                go_wp2_with (go_at_call 41; refine (Has_any A8 n8 c8 (gapsV xs) (k : Int) _ O8.out.row).mono ?_; rw [HHS.out]; rintro e w' ⟨rfl, rfl⟩)
                go_meet
                exact ⟨rfl, HT⟩
              · have hge : (errG xs == 0) = false := by simpa using hg
                clear hg
                go_wp2_with fail
                go_meet
                exact ⟨rfl, HT⟩
            case rest =>
            obtain ⟨rfl, HB2⟩ := hcut
            clear HT O8 HB
            go_upto_region 33 with (go_at_call 32; refine (Ways_any _ _ c xs (k : Int) _ (HX.out.below HB2.out (Nat.le_refl _))).mono ?_; rintro e w9 ⟨rfl, b9⟩; have HT := hide (le_call HB2.out b9); clear b9)
            go_cut [187] from 180 (fun v wx => v = .bool false ∧ Hid (Below w.heap.size w wx))
            case first =>
              by_cases hy : errY xs (k : Int) = 0
              · have hye : (errY xs (k : Int) == 0) = true := by simpa using hy
                have hwy := HWY.out hy
                have hwd : decide (0 < waysV xs (k : Int)) = true := hwy
                have hwp : 0 < waysV xs (k : Int) := by simpa using hwy
                clear hy hwy
                go_wp2_with fail
                go_meet
                exact ⟨rfl, HT⟩
              · have hye : (errY xs (k : Int) == 0) = false := by simpa using hy
                clear hy
                go_wp2_with fail
                go_meet
                exact ⟨rfl, HT⟩
            case rest =>
            obtain ⟨rfl, HB3⟩ := hcut
            clear HT HB2
            go_upto_region 41 with (first
              | (go_at_call 48; refine (Reduce_any _ _ c xs _ (HX.out.below HB3.out (Nat.le_refl _))).mono ?_; rw [HEW.out]; rintro e w10 ⟨A10, n10, c10, rfl, o10, b10⟩; have HT := hide (le_call HB3.out b10); have O10 := hide o10.row; clear o10 b10)
              | (go_at_call 27; refine (Can_any A10 n10 c10 (redW xs) (k : Int) _ O10.out).mono ?_; rw [HCR.out, HAR.out]; rintro e w11 ⟨rfl, b11⟩; have HT11 := hide (le_call HT.out b11); clear b11))
            by_cases hwe : withE xs v1 = 0
            · have HWE := hide hwe
              have HSA := hide (top_same hwe)
              have HTT := hide (top_errT hwe)
              have HE1 := hide (with_err1 hwe)
              clear hwe
              go_wp2_with (first
                | (go_at_call 54; refine (With_any _ _ c xs v1 _ (HX.out.below HT11.out (Nat.le_refl _))).mono ?_; rw [HWE.out]; rintro e w12 ⟨A12, n12, c12, rfl, o12, b12⟩; have HT12 := hide (le_call HT11.out b12); have O12 := hide o12.row; clear o12 b12)
                | (go_at_call 50; refine (Same_any _ _ c xs A12 n12 c12 (withV xs v1) _ (HX.out.below HT12.out (Nat.le_refl _)) O12.out).mono ?_; rw [HSA.out, HTT.out]; rintro e w13 ⟨rfl, b13⟩; have HT13 := hide (le_call HT12.out b13); clear b13)
                | (go_at_call 27; refine (Can_any _ _ c xs v1 _ (HX.out.below HT13.out (Nat.le_refl _))).mono ?_; rw [HE1.out]; rintro e w14 ⟨rfl, b14⟩; have HT14 := hide (le_call HT13.out b14); clear b14))
              go_ret
              exact ⟨ret_bool (by simp), HT14.out⟩
            · have hne : (withE xs v1 != 0) = true := by simpa using hwe
              have HWV := hide (withV_no hwe)
              clear hwe
              go_wp2_with (go_at_call 54; refine (With_any _ _ c xs v1 _ (HX.out.below HT11.out (Nat.le_refl _))).mono ?_; rintro e w12 ⟨A12, n12, c12, rfl, o12, b12⟩; have HT12 := hide (le_call HT11.out b12); rw [HWV.out] at o12; obtain rfl : n12 = 0 := o12.len.symm; clear o12 b12)
              go_ret
              exact ⟨ret_bool (by simp), HT12.out⟩
      | false =>
        have HCN := hide hc
        have hvv : ¬ (0 ≤ v ∧ v ≤ (k : Int)) := by
          have h1 := HCV.out
          rw [hc] at h1
          intro h2
          rw [decide_eq_true h2.1, decide_eq_true h2.2] at h1
          cases h1
        have HGH := hide (fun hg => (HGH.out hg).trans (congrArg (!·) hc))
        have HWY := hide (fun hg => (HWY.out hg).trans hc)
        have HCR := hide (HCR.out.trans hc)
        clear hc
        go_enter Try.func18, Try.ntmps18
        go_upto_region 23 with (first
          | (go_at_call 32; refine (Ways_any _ 2 2 [2, 3] 6 _ (lit_row w [2, 3] (by decide))).mono ?_; rw [HW6.out, HE6.out]; rintro e w1 ⟨rfl, b1⟩; have D1 := hide (le_call ((Below.refl _ w).alloc (Nat.le_refl _) _) b1); clear b1)
          | (go_at_call 19; refine (Long1_any _ n c w1 hm9).mono ?_; rintro e w2 ⟨rfl, b2⟩; have D2 := hide b2; clear b2; rw [HLn.out])
          | (go_at_call 27; refine (Can_any _ n c xs (k : Int) _ ((HX.out.below D1.out (Nat.le_refl _)).below D2.out (Nat.le_refl _))).mono ?_; rw [HCN.out, HER.out]; rintro e w3 ⟨rfl, b3⟩; have D3 := hide b3; clear b3)
          | (go_at_call 30; refine (Fire_any _ n c xs (k : Int) _ (((HX.out.below D1.out (Nat.le_refl _)).below D2.out (Nat.le_refl _)).below D3.out (Nat.le_refl _))).mono ?_; rintro e w4 ⟨A2, n2, c2, L2, rfl, o2, b2, k2, l2⟩; rw [HCN.out, HER.out]; have D4 := hide b2; clear o2 b2 k2 l2)
          | (go_at_call 28; refine (Fewest_any _ n c xs (k : Int) _ ((((HX.out.below D1.out (Nat.le_refl _)).below D2.out (Nat.le_refl _)).below D3.out (Nat.le_refl _)).below D4.out (Nat.le_refl _))).mono ?_; rw [HCN.out, HER.out]; rintro e w5 ⟨rfl, b5⟩; have D5 := hide b5; clear b5))
        have HT0 := hide (le_call (le_call (le_call (le_call D1.out D2.out) D3.out) D4.out) D5.out)
        go_upto_region 27 with (go_at_call 42; refine (Residues_any _ _ c xs _ (HX.out.below HT0.out (Nat.le_refl _))).mono ?_; rw [HEW.out]; rintro e w6 ⟨A7, n7, c7, rfl, o7, b7⟩; have HT := hide (le_call HT0.out b7); have O7 := hide o7; have HN7 := hide o7.len; clear o7 b7; obtain rfl : s = n7 := (by have h1 := HN7.out; have h2 := HRL.out; omega); obtain ⟨g7, rfl, hg7, hg7', hg7'', hg74⟩ := O7.out.addr hs1; have hg75 : c7 ≤ 9223372036854775807 := hg74; clear hg74 hg7; have a0 := HCL.out _ HT.out; have r1 := own1 O7.out hmod; rw [HRA.out] at r1)
        go_cut [159] from 151 (fun v wx => v = .bool false ∧ Hid (Below w.heap.size w wx))
        case first =>
          by_cases hv0 : 0 ≤ v
          · have dv0 : decide (0 ≤ v) = true := by simpa using hv0
            have hvk : (k : Int) < v := by omega
            have dvk : decide (v ≤ (k : Int)) = false := by simpa using hvk
            clear hvv
            go_wp2_with fail
            go_meet
            exact ⟨rfl, HT⟩
          · have dv0 : decide (0 ≤ v) = false := by simpa using hv0
            clear hvv
            go_wp2_with fail
            go_meet
            exact ⟨rfl, HT⟩
        case rest =>
        obtain ⟨rfl, HB⟩ := hcut
        clear HT O7 HN7 a0 r1 HT0 hmod
        go_upto_region 30 with (go_at_call 37; refine (Gaps_any _ _ c xs _ (HX.out.below HB.out (Nat.le_refl _))).mono ?_; rintro e w7 ⟨A8, n8, c8, rfl, o8, b8⟩; have HT := hide (le_call HB.out b8); have O8 := hide o8; clear o8 b8)
        go_cut [173] from 165 (fun v wx => v = .bool false ∧ Hid (Below w.heap.size w wx))
        case first =>
          by_cases hg : errG xs = 0
          · have hge : (errG xs == 0) = true := by simpa using hg
            have HHS := hide (HGH.out hg)
            clear hg
            go_wp2_with (go_at_call 41; refine (Has_any A8 n8 c8 (gapsV xs) (k : Int) _ O8.out.row).mono ?_; rw [HHS.out]; rintro e w' ⟨rfl, rfl⟩)
            go_meet
            exact ⟨rfl, HT⟩
          · have hge : (errG xs == 0) = false := by simpa using hg
            clear hg
            go_wp2_with fail
            go_meet
            exact ⟨rfl, HT⟩
        case rest =>
        obtain ⟨rfl, HB2⟩ := hcut
        clear HT O8 HB
        go_upto_region 33 with (go_at_call 32; refine (Ways_any _ _ c xs (k : Int) _ (HX.out.below HB2.out (Nat.le_refl _))).mono ?_; rintro e w8 ⟨rfl, b9⟩; have HT := hide (le_call HB2.out b9); clear b9)
        go_cut [187] from 180 (fun v wx => v = .bool false ∧ Hid (Below w.heap.size w wx))
        case first =>
          by_cases hy : errY xs (k : Int) = 0
          · have hye : (errY xs (k : Int) == 0) = true := by simpa using hy
            have hwy := HWY.out hy
            have hwd : decide (0 < waysV xs (k : Int)) = false := hwy
            have hwp : waysV xs (k : Int) ≤ 0 := by simpa using hwy
            clear hy hwy
            go_wp2_with fail
            go_meet
            exact ⟨rfl, HT⟩
          · have hye : (errY xs (k : Int) == 0) = false := by simpa using hy
            clear hy
            go_wp2_with fail
            go_meet
            exact ⟨rfl, HT⟩
        case rest =>
        obtain ⟨rfl, HB3⟩ := hcut
        clear HT HB2
        go_upto_region 41 with (first
          | (go_at_call 48; refine (Reduce_any _ _ c xs _ (HX.out.below HB3.out (Nat.le_refl _))).mono ?_; rw [HEW.out]; rintro e w9 ⟨A10, n10, c10, rfl, o10, b10⟩; have HT := hide (le_call HB3.out b10); have O10 := hide o10.row; clear o10 b10)
          | (go_at_call 27; refine (Can_any A10 n10 c10 (redW xs) (k : Int) _ O10.out).mono ?_; rw [HCR.out, HAR.out]; rintro e w10 ⟨rfl, b11⟩; have HT11 := hide (le_call HT.out b11); clear b11))
        by_cases hwe : withE xs v1 = 0
        · have HWE := hide hwe
          have HSA := hide (top_same hwe)
          have HTT := hide (top_errT hwe)
          have HE1 := hide (with_err1 hwe)
          clear hwe
          go_wp2_with (first
            | (go_at_call 54; refine (With_any _ _ c xs v1 _ (HX.out.below HT11.out (Nat.le_refl _))).mono ?_; rw [HWE.out]; rintro e w11 ⟨A12, n12, c12, rfl, o12, b12⟩; have HT12 := hide (le_call HT11.out b12); have O12 := hide o12.row; clear o12 b12)
            | (go_at_call 50; refine (Same_any _ _ c xs A12 n12 c12 (withV xs v1) _ (HX.out.below HT12.out (Nat.le_refl _)) O12.out).mono ?_; rw [HSA.out, HTT.out]; rintro e w12 ⟨rfl, b13⟩; have HT13 := hide (le_call HT12.out b13); clear b13)
            | (go_at_call 27; refine (Can_any _ _ c xs v1 _ (HX.out.below HT13.out (Nat.le_refl _))).mono ?_; rw [HE1.out]; rintro e w13 ⟨rfl, b14⟩; have HT14 := hide (le_call HT13.out b14); clear b14))
          go_ret
          exact ⟨ret_bool (by simp), HT14.out⟩
        · have hne : (withE xs v1 != 0) = true := by simpa using hwe
          have HWV := hide (withV_no hwe)
          clear hwe
          go_wp2_with (go_at_call 54; refine (With_any _ _ c xs v1 _ (HX.out.below HT11.out (Nat.le_refl _))).mono ?_; rintro e w11 ⟨A12, n12, c12, rfl, o12, b12⟩; have HT12 := hide (le_call HT11.out b12); rw [HWV.out] at o12; obtain rfl : n12 = 0 := o12.len.symm; clear o12 b12)
          go_ret
          exact ⟨ret_bool (by simp), HT12.out⟩
    · have hne : (errA xs v0 != 0) = true := by simpa using ha
      have HCN := hide (canV_no ha)
      clear ha h
      go_enter Try.func18, Try.ntmps18
      go_wp2_with (first
        | (go_at_call 32; refine (Ways_any _ 2 2 [2, 3] 6 _ (lit_row w [2, 3] (by decide))).mono ?_; rw [HW6.out, HE6.out]; rintro e w1 ⟨rfl, b1⟩; have D1 := hide (le_call ((Below.refl _ w).alloc (Nat.le_refl _) _) b1); clear b1)
        | (go_at_call 19; refine (Long1_any _ n c w1 hm9).mono ?_; rintro e w2 ⟨rfl, b2⟩; have D2 := hide b2; clear b2; rw [HLn.out])
        | (go_at_call 27; refine (Can_any _ n c xs v0 _ ((HX.out.below D1.out (Nat.le_refl _)).below D2.out (Nat.le_refl _))).mono ?_; rw [HCN.out]; rintro e w3 ⟨rfl, b3⟩; have D3 := hide b3; clear b3)
        | (go_at_call 28; refine (Fewest_any _ n c xs v0 _ (((HX.out.below D1.out (Nat.le_refl _)).below D2.out (Nat.le_refl _)).below D3.out (Nat.le_refl _))).mono ?_; rw [HCN.out]; rintro e w4 ⟨rfl, b4⟩; have D4 := hide b4; clear b4))
      go_ret
      exact ⟨ret_bool (by simp), (le_call (le_call (le_call D1.out D2.out) D3.out) D4.out)⟩
end Go.Proofs.Ytlhlcchimammlaa
