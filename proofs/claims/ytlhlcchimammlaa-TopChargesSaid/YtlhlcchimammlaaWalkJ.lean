/- Gaps and the greatest gap, on both sides. -/
import Derived.Test.YtlhlcchimammlaaWalkI
namespace Go.Proofs.Ytlhlcchimammlaa
open Go.RowKit Go.Shelf

def errG (xs : List Int) : Int := if errW xs = 0 then (if gcdL xs = 1 then 0 else 4) else errW xs
theorem errG_no {xs : List Int} (h : errW xs ≠ 0) : errG xs = errW xs := if_neg h
theorem errG_inf {xs : List Int} (h : errW xs = 0) (hg : gcdL xs ≠ 1) : errG xs = 4 := by unfold errG; rw [if_pos h, if_neg hg]
theorem errG_fine {xs : List Int} (h : errW xs = 0) (hg : gcdL xs = 1) : errG xs = 0 := by unfold errG; rw [if_pos h, if_pos hg]
theorem errG_ok {xs : List Int} : errG xs = 0 ↔ VW xs ∧ gcdL xs = 1 := by
  rw [← errW_vw]
  unfold errG
  split
  · split <;> simp_all
  · constructor
    · intro h; contradiction
    · rintro ⟨h, _⟩; contradiction
def gapsV (xs : List Int) : List Int := if errG xs = 0 then gapV xs else []
def topG (xs : List Int) : Int := if errG xs = 0 then topV xs else 0
theorem gapsV_ok {xs : List Int} (h : errG xs = 0) : gapsV xs = gapV xs := if_pos h
theorem gapsV_no {xs : List Int} (h : errG xs ≠ 0) : gapsV xs = [] := if_neg h
theorem topG_ok {xs : List Int} (h : errG xs = 0) : topG xs = topV xs := if_pos h
theorem topG_no {xs : List Int} (h : errG xs ≠ 0) : topG xs = 0 := if_neg h
theorem gapsV_len (xs : List Int) : (gapsV xs).length ≤ 901 := by
  unfold gapsV
  split
  · exact gapV_len xs
  · simp
theorem gcdL_rng {xs : List Int} (h : VW xs) : 1 ≤ gcdL xs ∧ gcdL xs ≤ 30 := by
  have h1 := gcdTo_le h.wt xs.length (Nat.le_refl _)
  rw [gcdTo_all] at h1
  exact ⟨gcdL_pos h.wt h.ne, h1⟩
set_option maxHeartbeats 400000 in
theorem validateFinite_any (A : Option Addr) (n c : Nat) (xs : List Int) (w : World) (h : R E1 w A n c xs) :
    Calls Try.prog 68 #[.slice A n c] w fun e w' => e = .returned (.int .i64 (errG xs)) ∧ ∃ q, w' = w.drewN q := by
  have H := hide h
  clear h
  by_cases he : errW xs = 0
  · have HE := hide he
    have hV := errW_vw.1 he
    have HW := hide hV.wt
    have hg := gcdL_rng hV
    have HF := hide (errG_fine he)
    have HI := hide (errG_inf he)
    clear he hV
    generalize hge : gcdL xs = g at *
    have HGE := hide hge
    clear hge
    by_cases h1 : g = 1
    · subst h1
      go_enter Try.func68, Try.ntmps68
      go_wp2_with (first
        | (go_at_call 25; refine (Validate_any _ _ _ xs _ H.out).mono ?_; rintro e w1 ⟨rfl, rfl⟩; rw [HE.out])
        | (go_at_call 56; refine (measure_any _ _ _ xs _ H.out HW.out).mono ?_; rintro e w1 ⟨rfl, q, rfl⟩; rw [HGE.out]))
      go_ret
      exact ⟨ret_i64 (HF.out (by first | rfl | trivial)).symm, q, rfl⟩
    · have hg1 : ((g : Int) == 1) = false := by simpa using (by omega : ¬ (g : Int) = 1)
      have hg2 : ((g : Int) != 1) = true := by simpa using (by omega : ¬ (g : Int) = 1)
      go_enter Try.func68, Try.ntmps68
      go_wp2_with (first
        | (go_at_call 25; refine (Validate_any _ _ _ xs _ H.out).mono ?_; rintro e w1 ⟨rfl, rfl⟩; rw [HE.out])
        | (go_at_call 56; refine (measure_any _ _ _ xs _ H.out HW.out).mono ?_; rintro e w1 ⟨rfl, q, rfl⟩; rw [HGE.out]))
      go_ret
      exact ⟨ret_i64 (HI.out h1).symm, q, rfl⟩
  · have HM := hide (errG_no he)
    have hne : (errW xs != 0) = true := by simpa using he
    clear he
    go_enter Try.func68, Try.ntmps68
    go_wp2_with (go_at_call 25; refine (Validate_any _ _ _ xs _ H.out).mono ?_; rintro e w1 ⟨rfl, rfl⟩)
    go_ret
    exact ⟨ret_i64 HM.out.symm, 0, rfl⟩
set_option maxHeartbeats 400000 in
theorem Gaps_any (A : Option Addr) (n c : Nat) (xs : List Int) (w : World) (h : R E1 w A n c xs) :
    Calls Try.prog 37 #[.slice A n c] w (RowPost (errG xs) (gapsV xs) w) := by
  have H := hide h
  clear h
  by_cases he : errG xs = 0
  · have HE := hide he
    have HW := hide (errG_ok.1 he).1.wt
    have HG := hide (gapsV_ok he)
    clear he
    go_enter Try.func37, Try.ntmps37
    go_wp2_with (first
      | (go_at_call 68; refine (validateFinite_any _ _ _ xs _ H.out).mono ?_; rintro e w1 ⟨rfl, q, rfl⟩; rw [HE.out])
      | (go_at_call 69; refine (gaps_any _ _ _ xs _ (H.out.drewN _) HW.out).mono ?_; rintro e w2 ⟨A2, n2, c2, rfl, o2, b2⟩; have O2 := hide o2; have B2 := hide b2; clear o2 b2))
    go_ret2
    exact ⟨A2, n2, c2, by rw [HE.out]; rfl, by rw [HG.out]; exact O2.out.more (Nat.le_refl _), (below_drewN (Below.refl _ _) q).trans B2.out⟩
  · have HG := hide (gapsV_no he)
    have hne : (errG xs != 0) = true := by simpa using he
    clear he
    go_enter Try.func37, Try.ntmps37
    go_wp2_with (go_at_call 68; refine (validateFinite_any _ _ _ xs _ H.out).mono ?_; rintro e w1 ⟨rfl, q, rfl⟩)
    go_ret2
    exact ⟨none, 0, 0, rfl, by rw [HG.out]; exact Own.nil _ _ _ _, below_drewN (Below.refl _ _) q⟩
set_option maxHeartbeats 400000 in
theorem Greatest_any (A : Option Addr) (n c : Nat) (xs : List Int) (w : World) (h : R E1 w A n c xs) :
    Calls Try.prog 39 #[.slice A n c] w fun e w' => e = .returned (.tuple #[.int .i64 (topG xs), .int .i64 (errG xs)]) ∧ Below w.heap.size w w' := by
  have H := hide h
  clear h
  by_cases he : errG xs = 0
  · have HE := hide he
    have HW := hide (errG_ok.1 he).1.wt
    have HG := hide (topG_ok he)
    clear he
    go_enter Try.func39, Try.ntmps39
    go_wp2_with (first
      | (go_at_call 68; refine (validateFinite_any _ _ _ xs _ H.out).mono ?_; rintro e w1 ⟨rfl, q, rfl⟩; rw [HE.out])
      | (go_at_call 70; refine (greatest_any _ _ _ xs _ (H.out.drewN _) HW.out).mono ?_; rintro e w2 ⟨rfl, b2⟩; have B2 := hide b2; clear b2))
    go_ret2
    exact ⟨by rw [HE.out, HG.out]; rfl, (below_drewN (Below.refl _ _) q).trans B2.out⟩
  · have HG := hide (topG_no he)
    have hne : (errG xs != 0) = true := by simpa using he
    clear he
    go_enter Try.func39, Try.ntmps39
    go_wp2_with (go_at_call 68; refine (validateFinite_any _ _ _ xs _ H.out).mono ?_; rintro e w1 ⟨rfl, q, rfl⟩)
    go_ret2
    exact ⟨by rw [HG.out]; rfl, below_drewN (Below.refl _ _) q⟩
set_option maxHeartbeats 1000000 in
theorem rGaps_any (A : Option Addr) (n c : Nat) (xs : List Int) (w : World) (h : R E1 w A n c xs) :
    Calls Try.prog 38 #[.slice A n c] w (RowPost (errG xs) (gapsV xs) w) := by
  have H := hide h
  clear h
  by_cases he : errW xs = 0
  · have HE := hide he
    have hV := errW_vw.1 he
    have HV := hide hV
    have hg := gcdL_rng hV
    have HF := hide (errG_fine he)
    have HI := hide (errG_inf he)
    have HGN := hide (gapsV_no (xs := xs))
    have HGO := hide (gapsV_ok (xs := xs))
    clear he hV
    generalize hge : gcdL xs = g at *
    have HGE := hide hge
    clear hge
    by_cases h1 : g = 1
    · subst h1
      have HGV := hide (HGO.out (HF.out (by first | rfl | trivial)))
      go_enter Try.func38, Try.ntmps38
      go_wp2_with (first
        | (go_at_call 26; refine (rValidate_any _ _ _ xs _ H.out).mono ?_; rintro e w1 ⟨rfl, q1, rfl⟩; rw [HE.out])
        | (go_at_call 57; refine (rmeasure_any _ _ _ xs _ (H.out.drewN _) HV.out.wt HV.out.ne).mono ?_; rintro e w1 ⟨rfl, q2, rfl⟩; rw [HGE.out])
        | (go_at_call 65; refine (few_any _ _ _ xs 900 _ (H.out.drewN _) HV.out.wt (by omega)).mono ?_; rintro e w1 ⟨Af, nf, cf, rfl, o1, b1⟩; obtain rfl : nf = 901 := (by rw [← o1.len, few_len]); obtain ⟨g1, rfl, hg1, hg2, hg3, hg4⟩ := o1.addr (by omega); have hg5 : cf ≤ 9223372036854775807 := hg4; clear hg4; have O1 := hide o1; have B1 := hide ((below_drewN (Below.refl w.heap.size w) (q1 + q2)).trans b1); clear o1 b1))
      have hg6 : w.heap.size ≤ g1 := hg1
      have HD1 := hide (fun k (hk : k ≤ 900) => (show (few xs 900).getD k 0 = fw xs k from by rw [getD_any (by rw [few_len]; omega) 0 (-1), few_at xs 900 k hk]))
      have HMU := hide (fun k => (show mu xs k = decide (fw xs k ≠ -1) from rfl))
      have HFG := hide (fun k => fw_ge HV.out.wt k)
      clear hg1
      go_loopw [6, 7] (fun v i wr => ∃ (k : Nat) (B : Option Addr) (m q : Nat), k ≤ 901 ∧ i = .int .i64 k ∧ v = .slice B m q ∧ Hid (Own E1 wr w1.heap.size 3 B m q (thV (fun n => !mu xs n) k)) ∧ Hid (m ≤ k) ∧ Hid (Below w1.heap.size w1 wr)) (fun _ i _ => 901 - (intOf i).toNat)
      case atStart => exact ⟨0, none, 0, 0, Nat.zero_le _, rfl, rfl, hide (Own.nil E1 _ _ _), hide (Nat.zero_le _), hide (Below.refl _ _)⟩
      case round =>
        obtain ⟨k, B, m, q, hk, rfl, rfl, HO, HM, HB⟩ := hrel
        by_cases hlt : k ≤ 900
        · have r1 := own1 (O1.out.below HB.out (Nat.le_refl _)) (k := k) (by omega)
          rw [HD1.out k hlt] at r1
          have hm := HM.out
          have hsz := HB.out.size
          have HS := hide (thV_succ (fun n => !mu xs n) k)
          have hv := HFG.out k
          have HMK := hide (HMU.out k)
          generalize fw xs k = v at *
          by_cases hvn : v < 0
          · have HP := hide (show mu xs k = false from by rw [HMK.out]; simp; omega)
            go_wp2_with (at_builtin; refine wpList_app1 (E := E1) wr (.int .i64 0) 8 rfl (.tmp 27) (.tmp 29) 22 3 rfl Try.underlying22 info_int rfl (by decide) (by omega) w1.heap.size m q B _ (k : Int) _ rfl rfl rfl HO.out (by omega) hsz ?_; intro A5 c5 w5 o5 b5 g5; have HO5 := hide o5; have B5 := hide (HB.out.trans b5); clear o5 b5 g5)
            go_roundw
            case rel => exact ⟨k + 1, A5, m + 1, c5, by omega, by go_num, rfl, hide (by rw [HS.out, HP.out]; exact HO5.out), hide (by omega), B5⟩
            case measure => simp [intOf]; omega
          · have HP := hide (show mu xs k = true from by rw [HMK.out]; simp; omega)
            go_wp2_with fail
            go_roundw
            case rel => exact ⟨k + 1, B, m, q, by omega, by go_num, rfl, hide (by rw [HS.out, HP.out]; simpa using HO.out), hide (by omega), HB⟩
            case measure => simp [intOf]; omega
        · obtain rfl : k = 901 := by omega
          go_wp2_with fail
          go_ret2
          exact ⟨B, m, q, by rw [HF.out (by first | rfl | trivial)]; rfl, by rw [HGV.out]; exact HO.out.more B1.out.size, B1.out.trans (HB.out.mono B1.out.size)⟩
    · have hg1 : ((g : Int) == 1) = false := by simpa using (by omega : ¬ (g : Int) = 1)
      have hg2 : ((g : Int) != 1) = true := by simpa using (by omega : ¬ (g : Int) = 1)
      have HGV := hide (HGN.out (by rw [HI.out h1]; decide))
      go_enter Try.func38, Try.ntmps38
      go_wp2_with (first
        | (go_at_call 26; refine (rValidate_any _ _ _ xs _ H.out).mono ?_; rintro e w1 ⟨rfl, q1, rfl⟩; rw [HE.out])
        | (go_at_call 57; refine (rmeasure_any _ _ _ xs _ (H.out.drewN _) HV.out.wt HV.out.ne).mono ?_; rintro e w1 ⟨rfl, q2, rfl⟩; rw [HGE.out]))
      go_ret2
      exact ⟨none, 0, 0, by rw [HI.out h1]; rfl, by rw [HGV.out]; exact Own.nil _ _ _ _, below_drewN (Below.refl _ _) (q1 + q2)⟩
  · have HM := hide (errG_no he)
    have HG := hide (gapsV_no (xs := xs) (by rw [errG_no he]; exact he))
    have hne : (errW xs != 0) = true := by simpa using he
    clear he
    go_enter Try.func38, Try.ntmps38
    go_wp2_with (go_at_call 26; refine (rValidate_any _ _ _ xs _ H.out).mono ?_; rintro e w1 ⟨rfl, q1, rfl⟩)
    go_ret2
    exact ⟨none, 0, 0, by rw [HM.out]; rfl, by rw [HG.out]; exact Own.nil _ _ _ _, below_drewN (Below.refl _ _) q1⟩
end Go.Proofs.Ytlhlcchimammlaa
