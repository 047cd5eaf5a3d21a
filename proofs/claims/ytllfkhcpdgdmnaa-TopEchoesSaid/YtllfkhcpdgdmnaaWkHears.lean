/- EchoHears: Heard on both sides, and the walk. -/
import Derived.Test.YtllfkhcpdgdmnaaWkScales
import Derived.Deep.RegionWith
namespace Go.Proofs.Ytllfkhcpdgdmnaa
open Go.RowKit

def heL (s : Int) (xs : List Int) : List Int := xs.map fun x => 2 * max (x - s) (s - x)
def heE (s : Int) (xs : List Int) : Int := if errC xs = 0 then (if -1000 ≤ s ∧ s ≤ 1000 then 0 else 1) else errC xs
def heV (s : Int) (xs : List Int) : List Int := if errC xs = 0 ∧ (-1000 ≤ s ∧ s ≤ 1000) then sortZ (heL s xs) else []
theorem heV_len (s : Int) (xs : List Int) : (heV s xs).length ≤ 36 := by
  unfold heV
  split
  · rename_i h
    rw [sortZ_len, heL, List.length_map]
    have := (errC_ok.1 h.1).2.1
    omega
  · simp
set_option maxHeartbeats 2000000 in
theorem Heard_any (A : Option Addr) (n c : Nat) (xs : List Int) (s : Int) (w : World) (h : R E1 w A n c xs) (hn : n ≤ 1000) :
    Calls Try.prog 46 #[.slice A n c, .int .i64 s] w (RowPost (heE s xs) (heV s xs) w) := by
  have HX := hide h
  have HL := hide h.length
  by_cases he : errC xs = 0
  · have HE := hide he
    obtain ⟨hn1, hn6, hv, _⟩ := errC_ok.1 he
    rw [HL.out] at hn1 hn6 hv
    have HVV := hide hv
    by_cases hs : -1000 ≤ s ∧ s ≤ 1000
    · have HS := hide (show heE s xs = 0 from by unfold heE; rw [if_pos he, if_pos hs])
      have HV := hide (show heV s xs = sortZ (heL s xs) from by unfold heV; rw [if_pos ⟨he, hs⟩])
      have q1 : ¬ s < -1000 := by omega
      have q2 : ¬ 1000 < s := by omega
      obtain ⟨g, off, hr⟩ := h
      obtain rfl := hr.at_ (by omega)
      have hgl := hr.lt (by omega)
      have HR := hide hr
      have hcap := hr.cap
      have hmax := hr.max
      clear hr he hv
      go_enter Try.func46, Try.ntmps46
      go_wp2_with (go_at_call 24; refine (Validate_any _ _ _ xs _ HX.out (by omega)).mono ?_; rintro e w1 ⟨rfl, b1⟩; rw [HE.out]; have D1 := hide b1; clear b1)
      go_loopw [7, 23] (fun v i wr => ∃ (k : Nat) (B : Option Addr) (q : Nat), k ≤ n ∧ i = .int .i64 k ∧ v = .slice B k q ∧ Hid (Own E1 wr w.heap.size 3 B k q ((xs.take k).map fun x => 2 * max (x - s) (s - x))) ∧ Hid (Below w.heap.size w wr)) (fun _ i _ => n - (intOf i).toNat)
      case atStart => exact ⟨0, none, 0, Nat.zero_le _, rfl, rfl, hide (Own.nil E1 _ _ _), D1⟩
      case round =>
        obtain ⟨k, B, q, hk, rfl, rfl, HO, HD⟩ := hrel
        by_cases hlt : k < n
        · have hck : wr.cell? ⟨g, off + k, none⟩ = some (.int .i64 (xs.getD k 0)) := c1 (HR.out.under HD.out fun _ => hgl) hlt
          have bk := okTo_bd HVV.out hlt
          have HST := hide (show ((xs.take (k + 1)).map fun x => 2 * max (x - s) (s - x)) = ((xs.take k).map fun x => 2 * max (x - s) (s - x)) ++ [2 * max (xs.getD k 0 - s) (s - xs.getD k 0)] from take_step (f := fun x => 2 * max (x - s) (s - x)) (by rw [HL.out]; exact hlt))
          generalize xs.getD k 0 = xk at hck bk HST
          have hsz := HD.out.size
          have i1 : (k : Int) < (n : Int) := by omega
          have v1 : IntKind.i64.wrap (xk - s) = xk - s := IntWalk.i64_in _ (by omega)
          have v2 : IntKind.i64.wrap (s - xk) = s - xk := IntWalk.i64_in _ (by omega)
          have v3 : IntKind.i64.wrap (2 * max (xk - s) (s - xk)) = 2 * max (xk - s) (s - xk) := IntWalk.i64_in _ (by omega)
          go_wp2_with ((at_builtin; refine wpList_app1 (E := E1) _ (.int .i64 0) 8 rfl (.tmp 27) (.tmp 36) 22 3 rfl Try.underlying22 info_int rfl (by decide) (by omega) _ _ _ _ _ (2 * max (xk - s) (s - xk)) _ rfl rfl rfl HO.out (by omega) hsz ?_; intro A2 c2 w5 o5 b5 g5))
          go_roundw
          case rel => exact ⟨k + 1, A2, c2, by omega, by go_num, rfl, hide (by rw [HST.out]; exact o5), hide (HD.out.trans b5)⟩
          case measure => simp [intOf]; omega
        · obtain rfl : k = n := by omega
          have HO2 := hide (show Own E1 wr w.heap.size 3 B k q (heL s xs) from by have := HO.out; rwa [List.take_of_length_le (by rw [HL.out]; exact Nat.le_refl _)] at this)
          clear HO
          go_wp2_with (go_at_call 84; refine (Sort_any _ _ _ _ _ _ HO2.out (by omega)).mono ?_; rintro e w3 ⟨rfl, o3, g3⟩; have HO3 := hide o3; have G3 := hide g3; clear o3 g3)
          go_ret2
          exact ⟨B, k, q, by rw [HS.out]; rfl, by rw [HV.out]; exact HO3.out, HD.out.trans (own_grown_below HO2.out HD.out.size G3.out)⟩
    · have HS := hide (show heE s xs = 1 from by unfold heE; rw [if_pos he, if_neg hs])
      have HV := hide (show heV s xs = [] from by unfold heV; rw [if_neg (fun hh => hs hh.2)])
      clear he hv h
      by_cases q1 : s < -1000
      · go_enter Try.func46, Try.ntmps46
        go_wp2_with (go_at_call 24; refine (Validate_any _ _ _ xs _ HX.out (by omega)).mono ?_; rintro e w1 ⟨rfl, b1⟩; rw [HE.out]; have D1 := hide b1; clear b1)
        go_ret2
        exact ⟨none, 0, 0, by rw [HS.out]; rfl, by rw [HV.out]; exact Own.nil _ _ _ _, D1.out⟩
      · have q2 : 1000 < s := by omega
        go_enter Try.func46, Try.ntmps46
        go_wp2_with (go_at_call 24; refine (Validate_any _ _ _ xs _ HX.out (by omega)).mono ?_; rintro e w1 ⟨rfl, b1⟩; rw [HE.out]; have D1 := hide b1; clear b1)
        go_ret2
        exact ⟨none, 0, 0, by rw [HS.out]; rfl, by rw [HV.out]; exact Own.nil _ _ _ _, D1.out⟩
  · have hne : (errC xs != 0) = true := by simpa using he
    have HS := hide (show heE s xs = errC xs from if_neg he)
    have HV := hide (show heV s xs = [] from by unfold heV; rw [if_neg (fun hh => he hh.1)])
    clear he h
    go_enter Try.func46, Try.ntmps46
    go_wp2_with (go_at_call 24; refine (Validate_any _ _ _ xs _ HX.out (by omega)).mono ?_; rintro e w1 ⟨rfl, b1⟩; have D1 := hide b1; clear b1)
    go_ret2
    exact ⟨none, 0, 0, by rw [HS.out]; rfl, by rw [HV.out]; exact Own.nil _ _ _ _, D1.out⟩
set_option maxRecDepth 100000 in
set_option maxHeartbeats 4000000 in
theorem rHeard_any (A : Option Addr) (n c : Nat) (xs : List Int) (s : Int) (w : World) (h : R E1 w A n c xs) (hn : n ≤ 1000) :
    Calls Try.prog 47 #[.slice A n c, .int .i64 s] w (RowPost (heE s xs) (heV s xs) w) := by
  have HX := hide h
  have HL := hide h.length
  by_cases he : errC xs = 0
  · have HE := hide he
    obtain ⟨hn1, hn6, hv, _⟩ := errC_ok.1 he
    rw [HL.out] at hn1 hn6 hv
    have HVV := hide hv
    rcases withinB_dec s (-1000) 1000 with ⟨hw, hs1, hs2⟩ | ⟨hw, hs⟩
    · have hs : -1000 ≤ s ∧ s ≤ 1000 := ⟨hs1, hs2⟩
      have HS := hide (show heE s xs = 0 from by unfold heE; rw [if_pos he, if_pos hs])
      have HV := hide (show heV s xs = sortZ (heL s xs) from by unfold heV; rw [if_pos ⟨he, hs⟩])
      obtain ⟨g, off, hr⟩ := h
      obtain rfl := hr.at_ (by omega)
      have hgl := hr.lt (by omega)
      have HR := hide hr
      have hcap := hr.cap
      have hmax := hr.max
      clear hr he hv hs
      go_enter Try.func47, Try.ntmps47
      go_wp2_with (first
        | (go_at_call 25; refine (rValidate_any _ _ _ xs _ HX.out (by omega)).mono ?_; rintro e w1 ⟨rfl, b1⟩; rw [HE.out]; have D1 := hide b1; clear b1)
        | (go_at_call 62; refine (within_any _ _ _ _).mono ?_; rintro e w2 ⟨rfl, rfl⟩; rw [hw]))
      go_loopw [7, 8] (fun v i wr => ∃ (k : Nat) (B : Option Addr) (q : Nat), k ≤ n ∧ i = .int .i64 k ∧ v = .slice B k q ∧ Hid (Own E1 wr w.heap.size 3 B k q ((xs.take k).map fun x => 2 * max (x - s) (s - x))) ∧ Hid (Below w.heap.size w wr)) (fun _ i _ => n - (intOf i).toNat)
      case atStart => exact ⟨0, none, 0, Nat.zero_le _, rfl, rfl, hide (Own.nil E1 _ _ _), D1⟩
      case round =>
        obtain ⟨k, B, q, hk, rfl, rfl, HO, HD⟩ := hrel
        by_cases hlt : k < n
        · have hck : wr.drew.cell? ⟨g, off + k, none⟩ = some (.int .i64 (xs.getD k 0)) := c1 (HR.out.under HD.out.drew fun _ => hgl) hlt
          have bk := okTo_bd HVV.out hlt
          have HST := hide (show ((xs.take (k + 1)).map fun x => 2 * max (x - s) (s - x)) = ((xs.take k).map fun x => 2 * max (x - s) (s - x)) ++ [2 * max (xs.getD k 0 - s) (s - xs.getD k 0)] from take_step (f := fun x => 2 * max (x - s) (s - x)) (by rw [HL.out]; exact hlt))
          generalize xs.getD k 0 = xk at hck bk HST
          have hsz := HD.out.size
          have HD2 := hide HD.out.drew
          have i1 : (k : Int) < (n : Int) := by omega
          have v1 : IntKind.i64.wrap (xk - s) = xk - s := IntWalk.i64_in _ (by omega)
          have v2 : IntKind.i64.wrap (s - xk) = s - xk := IntWalk.i64_in _ (by omega)
          have v3 : IntKind.i64.wrap (2 * max (xk - s) (s - xk)) = 2 * max (xk - s) (s - xk) := IntWalk.i64_in _ (by omega)
          go_wp2_with fail
          go_region_law (refine step_app1 (E := E1) wr.drew (.int .i64 0) 8 rfl (.tmp 23) (.tmp 38) 22 3 rfl Try.underlying22 info_int rfl (by decide) (by omega) w.heap.size _ _ _ _ (2 * max (xk - s) (s - xk)) _ rfl rfl rfl (HO.out.drew) (by omega) hsz ?_; intro A2 c2 w5 o5 b5)
          all_goals
            go_wp2_with fail
            go_roundw
            case rel => exact ⟨k + 1, A2, c2, by omega, by go_num, rfl, hide (by rw [HST.out]; exact o5), hide (HD2.out.trans b5)⟩
            case measure => simp [intOf]; omega
        · obtain rfl : k = n := by omega
          have HO2 := hide (show Own E1 wr w.heap.size 3 B k q (heL s xs) from by have := HO.out; rwa [List.take_of_length_le (by rw [HL.out]; exact Nat.le_refl _)] at this)
          clear HO
          go_wp2_with (go_at_call 85; refine (rsorted_any _ _ _ _ _ _ HO2.out (by omega)).mono ?_; rintro e w3 ⟨A3, n3, c3, rfl, o3, b3⟩; have HO3 := hide o3; have D3 := hide b3; clear o3 b3)
          go_ret2
          exact ⟨A3, n3, c3, by rw [HS.out]; rfl, by rw [HV.out]; exact HO3.out.more HD.out.size, le_call HD.out D3.out⟩
    · have HS := hide (show heE s xs = 1 from by unfold heE; rw [if_pos he, if_neg hs])
      have HV := hide (show heV s xs = [] from by unfold heV; rw [if_neg (fun hh => hs hh.2)])
      clear he hv h
      go_enter Try.func47, Try.ntmps47
      go_wp2_with (first
        | (go_at_call 25; refine (rValidate_any _ _ _ xs _ HX.out (by omega)).mono ?_; rintro e w1 ⟨rfl, b1⟩; rw [HE.out]; have D1 := hide b1; clear b1)
        | (go_at_call 62; refine (within_any _ _ _ _).mono ?_; rintro e w2 ⟨rfl, rfl⟩; rw [hw]))
      go_ret2
      exact ⟨none, 0, 0, by rw [HS.out]; rfl, by rw [HV.out]; exact Own.nil _ _ _ _, D1.out⟩
  · have hne : (errC xs != 0) = true := by simpa using he
    have HS := hide (show heE s xs = errC xs from if_neg he)
    have HV := hide (show heV s xs = [] from by unfold heV; rw [if_neg (fun hh => he hh.1)])
    clear he h
    go_enter Try.func47, Try.ntmps47
    go_wp2_with (go_at_call 25; refine (rValidate_any _ _ _ xs _ HX.out (by omega)).mono ?_; rintro e w1 ⟨rfl, b1⟩; have D1 := hide b1; clear b1)
    go_ret2
    exact ⟨none, 0, 0, by rw [HS.out]; rfl, by rw [HV.out]; exact Own.nil _ _ _ _, D1.out⟩
/-- From the mirrored place the mirrored cliffs are as far. -/
theorem he_mir {s : Int} {xs : List Int} (hc : errC xs = 0) (hs : -1000 ≤ s ∧ s ≤ 1000) (he : -1000 ≤ mirE xs - s ∧ mirE xs - s ≤ 1000) : heV (mirE xs - s) (mirV xs) = heV s xs := by
  have hm := errC_mir hc
  rw [mirV_ok hc]
  unfold heV
  rw [if_pos ⟨hm, he⟩, if_pos ⟨hc, hs⟩]
  apply sortZ_perm_eq
  unfold heL mir
  rw [List.map_map]
  refine List.Perm.trans (l₂ := xs.reverse.map fun x => 2 * max (x - s) (s - x)) ?_ ((List.reverse_perm xs).map _)
  refine List.Perm.of_eq (List.map_congr_left fun x _ => ?_)
  simp only [Function.comp_def]
  omega
set_option maxRecDepth 100000 in
set_option maxHeartbeats 4000000 in
theorem EchoHears_walk (A : Option Addr) (n c : Nat) (xs : List Int) (s : Int) (w : World) (h : R E1 w A n c xs) (_ : (Lit.int .i64 s).wf = true) :
    Calls Try.prog 11 #[.slice A n c, .int .i64 s] w fun e w' => e = .returned (.bool true) ∧ Below w.heap.size w w' := by
  have HX := hide h
  have HL := hide h.length
  have hm9 := h.le
  have HSL := hide (heV_len s xs)
  by_cases hn : 100 < n
  · have HLn := hide (show decide (100 < n) = true from by simpa using hn)
    clear h
    go_enter Try.func11, Try.ntmps11
    go_wp2_with (first
      | (go_at_call 18; refine (Long1_any A n c w hm9).mono ?_; rintro e w1 ⟨rfl, b1⟩; have D1 := hide b1; clear b1; rw [HLn.out])
      | (go_at_call 19; refine (sane_any _).mono ?_; rintro e w2 ⟨rfl, b2⟩; have D2 := hide b2; clear b2))
    go_ret
    exact ⟨rfl, (le_call D1.out D2.out)⟩
  · have HLn := hide (show decide (100 < n) = false from by simpa using hn)
    by_cases hz : heE s xs = 0
    · have HE0 := hide hz
      have hc : errC xs = 0 := by
        by_cases e : errC xs = 0
        · exact e
        · unfold heE at hz; rw [if_neg e] at hz; exact hz
      have hs : -1000 ≤ s ∧ s ≤ 1000 := by
        apply Classical.byContradiction
        intro hh
        unfold heE at hz
        rw [if_pos hc, if_neg hh] at hz
        cases hz
      have HEC := hide hc
      have HMC := hide (show errC (mirV xs) = 0 from by rw [mirV_ok hc]; exact errC_mir hc)
      have HML := hide (mirV_len xs)
      have hn1 := (errC_ok.1 hc).1
      have hn6 := (errC_ok.1 hc).2.1
      have hv := (errC_ok.1 hc).2.2.1
      rw [HL.out] at hn1 hn6 hv
      obtain ⟨g, off, hr⟩ := h
      obtain rfl := hr.at_ (by omega)
      have hgl := hr.lt (by omega)
      have hcap := hr.cap
      have hmax := hr.max
      have b0 := okTo_bd hv (i := 0) (by omega)
      have b1 := okTo_bd hv (i := n - 1) (by omega)
      have HC0 := hide (fun (W : World) (hW : Below w.heap.size w W) => (show W.cell? ⟨g, off, none⟩ = some (.int .i64 (xs.getD 0 0)) from by have := c1 (hr.under hW fun _ => hgl) (k := 0) (by omega); rwa [Nat.add_zero] at this))
      have HC1 := hide (fun (W : World) (hW : Below w.heap.size w W) => (show W.cell? ⟨g, off + (n - 1), none⟩ = some (.int .i64 (xs.getD (n - 1) 0)) from c1 (hr.under hW fun _ => hgl) (k := n - 1) (by omega)))
      have HME := hide (show mirE xs = xs.getD 0 0 + xs.getD (n - 1) 0 from by unfold mirE gi; rw [HL.out])
      have HHM := hide (fun he => he_mir (s := s) hc hs he)
      clear hr hz hc hv
      generalize xs.getD 0 0 = x0 at b0 HC0 HME
      generalize xs.getD (n - 1) 0 = x1 at b1 HC1 HME
      have i0n : 0 < n := by omega
      have i5n : (1 : Int) ≤ (n : Int) := by omega
      have i1 : (0 : Int) ≤ (n : Int) - 1 := by omega
      have i2 : (n : Int) - 1 < (n : Int) := by omega
      have i3 : ((n : Int) - 1).toNat = n - 1 := by omega
      have i4 : IntKind.i64.wrap ((n : Int) - 1) = (n : Int) - 1 := IntWalk.i64_in _ (by omega)
      have v1 : IntKind.i64.wrap (x0 + x1) = x0 + x1 := IntWalk.i64_in _ (by omega)
      have v2 : IntKind.i64.wrap (x0 + x1 - s) = x0 + x1 - s := IntWalk.i64_in _ (by omega)
      by_cases hin : -1000 ≤ x0 + x1 - s ∧ x0 + x1 - s ≤ 1000
      · have HO0 := hide (show heE (x0 + x1 - s) (mirV xs) = 0 from by unfold heE; rw [if_pos HMC.out, if_pos hin])
        have HEQ := hide (show heV (x0 + x1 - s) (mirV xs) = heV s xs from by have := HHM.out (by rw [HME.out]; exact hin); rwa [HME.out] at this)
        have HSL2 := hide (heV_len (x0 + x1 - s) (mirV xs))
        clear hin
        go_enter Try.func11, Try.ntmps11
        go_wp2_with (first
          | (go_at_call 18; refine (Long1_any _ n c w hm9).mono ?_; rintro e w1 ⟨rfl, b1⟩; have D1 := hide b1; clear b1; rw [HLn.out])
          | (go_at_call 46; refine (Heard_any _ n c xs s _ (HX.out.below D1.out (Nat.le_refl _)) (by omega)).mono ?_; rw [HE0.out]; rintro e w2 ⟨A2, n2, c2, rfl, o2, b2⟩; have D2 := hide b2; have O2 := hide o2; have HN2 := hide o2.len; clear o2 b2)
          | (go_at_call 47; refine (rHeard_any _ n c xs s _ ((HX.out.below D1.out (Nat.le_refl _)).below D2.out (Nat.le_refl _)) (by omega)).mono ?_; rw [HE0.out]; rintro e w3 ⟨A3, n3, c3, rfl, o3, b3⟩; have D3 := hide b3; have O3 := hide o3; have HN3 := hide o3.len; clear o3 b3)
          | (go_at_call 26; refine (SameInts_any A2 n2 c2 A3 n3 c3 (heV s xs) (heV s xs) _ (O2.out.row.below D3.out (Nat.le_refl _)) O3.out.row (by have h1 := HN2.out; have h2 := HSL.out; omega) (by have h1 := HN3.out; have h2 := HSL.out; omega)).mono ?_; rintro e w4 ⟨rfl, q4, hw4⟩; have D4 := hide (show Below w3.heap.size w3 w4 from by rw [hw4]; exact below_drewN (Below.refl _ _) q4); clear hw4; rw [beq_self_eq_true])
          | (go_at_call 33; refine (Mirror_any _ n c xs _ ((((HX.out.below D1.out (Nat.le_refl _)).below D2.out (Nat.le_refl _)).below D3.out (Nat.le_refl _)).below D4.out (Nat.le_refl _)) (by omega)).mono ?_; rw [HEC.out]; rintro e w5 ⟨A5, n5, c5, rfl, o5, b5⟩; have D5 := hide b5; have O5 := hide o5; have HN5 := hide o5.len; clear o5 b5))
        have a0 := HC0.out w5.drew (le_call (le_call (le_call (le_call (le_call D1.out D2.out) D3.out) D4.out) D5.out) (Below.refl _ w5).drew)
        have a1 := HC1.out w5.drew (le_call (le_call (le_call (le_call (le_call D1.out D2.out) D3.out) D4.out) D5.out) (Below.refl _ w5).drew)
        have D6 := hide ((Below.refl w5.heap.size w5).drew)
        have HM6 := hide (O5.out.row.below D6.out (Nat.le_refl _))
        have HA6 := hide ((((O2.out.row.below D3.out (Nat.le_refl _)).below D4.out (Nat.le_refl _)).below D5.out (Nat.le_refl _)).below D6.out (Nat.le_refl _))
        go_region_with (go_at_call 46; refine (Heard_any A5 n5 c5 (mirV xs) (x0 + x1 - s) _ HM6.out (by have h1 := HN5.out; have h2 := HML.out; omega)).mono ?_; rw [HO0.out]; rintro e w7 ⟨A7, n7, c7, rfl, o7, b7⟩; have D7 := hide b7; have O7 := hide o7; have HN7 := hide o7.len; clear o7 b7)
        all_goals
          go_wp2_with (first
            | (go_at_call 26; refine (SameInts_any A7 n7 c7 A2 n2 c2 (heV (x0 + x1 - s) (mirV xs)) (heV s xs) _ O7.out.row (HA6.out.below D7.out (Nat.le_refl _)) (by have h1 := HN7.out; have h2 := HSL2.out; omega) (by have h1 := HN2.out; have h2 := HSL.out; omega)).mono ?_; rintro e w8 ⟨rfl, q8, hw8⟩; have D8 := hide (show Below w7.heap.size w7 w8 from by rw [hw8]; exact below_drewN (Below.refl _ _) q8); clear hw8; rw [HEQ.out, beq_self_eq_true])
            | (go_at_call 19; refine (sane_any _).mono ?_; rintro e w9 ⟨rfl, b9⟩; have D9 := hide b9; clear b9))
          go_ret
          exact ⟨ret_bool (by simp), le_call (le_call (le_call (le_call (le_call (le_call D1.out D2.out) D3.out) D4.out) D5.out) D6.out) (le_call (le_call D7.out D8.out) D9.out)⟩
      · have HO0 := hide (show heE (x0 + x1 - s) (mirV xs) = 1 from by unfold heE; rw [if_pos HMC.out, if_neg hin])
        clear hin
        go_enter Try.func11, Try.ntmps11
        go_wp2_with (first
          | (go_at_call 18; refine (Long1_any _ n c w hm9).mono ?_; rintro e w1 ⟨rfl, b1⟩; have D1 := hide b1; clear b1; rw [HLn.out])
          | (go_at_call 46; refine (Heard_any _ n c xs s _ (HX.out.below D1.out (Nat.le_refl _)) (by omega)).mono ?_; rw [HE0.out]; rintro e w2 ⟨A2, n2, c2, rfl, o2, b2⟩; have D2 := hide b2; have O2 := hide o2; have HN2 := hide o2.len; clear o2 b2)
          | (go_at_call 47; refine (rHeard_any _ n c xs s _ ((HX.out.below D1.out (Nat.le_refl _)).below D2.out (Nat.le_refl _)) (by omega)).mono ?_; rw [HE0.out]; rintro e w3 ⟨A3, n3, c3, rfl, o3, b3⟩; have D3 := hide b3; have O3 := hide o3; have HN3 := hide o3.len; clear o3 b3)
          | (go_at_call 26; refine (SameInts_any A2 n2 c2 A3 n3 c3 (heV s xs) (heV s xs) _ (O2.out.row.below D3.out (Nat.le_refl _)) O3.out.row (by have h1 := HN2.out; have h2 := HSL.out; omega) (by have h1 := HN3.out; have h2 := HSL.out; omega)).mono ?_; rintro e w4 ⟨rfl, q4, hw4⟩; have D4 := hide (show Below w3.heap.size w3 w4 from by rw [hw4]; exact below_drewN (Below.refl _ _) q4); clear hw4; rw [beq_self_eq_true])
          | (go_at_call 33; refine (Mirror_any _ n c xs _ ((((HX.out.below D1.out (Nat.le_refl _)).below D2.out (Nat.le_refl _)).below D3.out (Nat.le_refl _)).below D4.out (Nat.le_refl _)) (by omega)).mono ?_; rw [HEC.out]; rintro e w5 ⟨A5, n5, c5, rfl, o5, b5⟩; have D5 := hide b5; have O5 := hide o5; have HN5 := hide o5.len; clear o5 b5))
        have a0 := HC0.out w5.drew (le_call (le_call (le_call (le_call (le_call D1.out D2.out) D3.out) D4.out) D5.out) (Below.refl _ w5).drew)
        have a1 := HC1.out w5.drew (le_call (le_call (le_call (le_call (le_call D1.out D2.out) D3.out) D4.out) D5.out) (Below.refl _ w5).drew)
        have D6 := hide ((Below.refl w5.heap.size w5).drew)
        have HM6 := hide (O5.out.row.below D6.out (Nat.le_refl _))
        have HA6 := hide ((((O2.out.row.below D3.out (Nat.le_refl _)).below D4.out (Nat.le_refl _)).below D5.out (Nat.le_refl _)).below D6.out (Nat.le_refl _))
        go_region_with (go_at_call 46; refine (Heard_any A5 n5 c5 (mirV xs) (x0 + x1 - s) _ HM6.out (by have h1 := HN5.out; have h2 := HML.out; omega)).mono ?_; rw [HO0.out]; rintro e w7 ⟨A7, n7, c7, rfl, o7, b7⟩; have D7 := hide b7; have O7 := hide o7; have HN7 := hide o7.len; clear o7 b7)
        all_goals
          go_wp2_with (first
            | (go_at_call 19; refine (sane_any _).mono ?_; rintro e w8 ⟨rfl, b8⟩; have D8 := hide b8; clear b8))
          go_ret
          exact ⟨ret_bool (by simp), le_call (le_call (le_call (le_call (le_call (le_call D1.out D2.out) D3.out) D4.out) D5.out) D6.out) (le_call D7.out D8.out)⟩
    · have hne : (heE s xs != 0) = true := by simpa using hz
      clear hz h
      go_enter Try.func11, Try.ntmps11
      go_wp2_with (first
        | (go_at_call 18; refine (Long1_any A n c w hm9).mono ?_; rintro e w1 ⟨rfl, b1⟩; have D1 := hide b1; clear b1; rw [HLn.out])
        | (go_at_call 46; refine (Heard_any A n c xs s _ (HX.out.below D1.out (Nat.le_refl _)) (by omega)).mono ?_; rintro e w2 ⟨A2, n2, c2, rfl, o2, b2⟩; have D2 := hide b2; have O2 := hide o2; have HN2 := hide o2.len; clear o2 b2)
        | (go_at_call 47; refine (rHeard_any A n c xs s _ ((HX.out.below D1.out (Nat.le_refl _)).below D2.out (Nat.le_refl _)) (by omega)).mono ?_; rintro e w3 ⟨A3, n3, c3, rfl, o3, b3⟩; have D3 := hide b3; have O3 := hide o3; have HN3 := hide o3.len; clear o3 b3)
        | (go_at_call 26; refine (SameInts_any A2 n2 c2 A3 n3 c3 (heV s xs) (heV s xs) _ (O2.out.row.below D3.out (Nat.le_refl _)) O3.out.row (by have h1 := HN2.out; have h2 := HSL.out; omega) (by have h1 := HN3.out; have h2 := HSL.out; omega)).mono ?_; rintro e w4 ⟨rfl, q4, hw4⟩; have D4 := hide (show Below w3.heap.size w3 w4 from by rw [hw4]; exact below_drewN (Below.refl _ _) q4); clear hw4; rw [beq_self_eq_true])
        | (go_at_call 19; refine (sane_any _).mono ?_; rintro e w5 ⟨rfl, b5⟩; have D5 := hide b5; clear b5))
      go_ret
      exact ⟨ret_bool (by simp), (le_call (le_call (le_call (le_call D1.out D2.out) D3.out) D4.out) D5.out)⟩
end Go.Proofs.Ytllfkhcpdgdmnaa
