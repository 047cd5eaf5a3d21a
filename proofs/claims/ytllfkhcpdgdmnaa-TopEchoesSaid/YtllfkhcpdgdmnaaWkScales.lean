/- EchoScales: Scale on both sides, and the walk. -/
import Derived.Test.YtllfkhcpdgdmnaaWkMirrors
namespace Go.Proofs.Ytllfkhcpdgdmnaa
open Go.RowKit

def scL (b : Int) (xs : List Int) : List Int := xs.map fun x => x * min b 61
def scE (b : Int) (xs : List Int) : Int := if errC xs = 0 then (if b ≤ 0 then 1 else errC (scL b xs)) else errC xs
def scV (b : Int) (xs : List Int) : List Int := if errC xs = 0 ∧ 0 < b then chkV (scL b xs) else []
theorem scV_len (b : Int) (xs : List Int) : (scV b xs).length ≤ 36 := by
  unfold scV
  split
  · have := chkV_len (l := scL b xs); omega
  · simp
theorem mul_bd {x m : Int} (h1 : -60 ≤ x) (h2 : x ≤ 60) (h3 : 0 ≤ m) (h4 : m ≤ 61) : -3660 ≤ x * m ∧ x * m ≤ 3660 := by
  have a1 : x * m ≤ 60 * m := Int.mul_le_mul_of_nonneg_right h2 h3
  have a2 : -60 * m ≤ x * m := Int.mul_le_mul_of_nonneg_right h1 h3
  omega
/-- Beyond the bound only the product of 0 is a place. -/
theorem sc_far {b : Int} {xs : List Int} (h : errC xs = 0) (hb : 60 < b) (h0 : ¬ (xs.length = 1 ∧ xs.getD 0 0 = 0)) : errC (scL b xs) = 1 := by
  obtain ⟨h1, h2, h3, h4⟩ := errC_ok.1 h
  have hm : min b 61 = 61 := by omega
  obtain ⟨k, hk, hne⟩ : ∃ k, k < xs.length ∧ xs.getD k 0 ≠ 0 := by
    by_cases e : xs.getD 0 0 = 0
    · have hl : 2 ≤ xs.length := by
        apply Classical.byContradiction
        intro hh
        exact h0 ⟨by omega, e⟩
      have := okTo_lt h3 (i := 0) (j := 1) (by omega) (by omega)
      unfold gi at this
      exact ⟨1, by omega, by omega⟩
    · exact ⟨0, by omega, e⟩
  refine errC_arg (k := k) (by simp [scL]; omega) (by simp [scL]; omega) (by simp [scL]; omega) ?_
  rw [← Bool.not_eq_true]
  intro hh
  have h5 := okB_iff.1 hh
  unfold scL at h5
  rw [map_getD hk, hm] at h5
  omega
theorem sc_zero {b : Int} {xs : List Int} (hb : 0 < b) (h0 : xs.length = 1 ∧ xs.getD 0 0 = 0) : scL b xs = [0] := by
  obtain ⟨x, rfl⟩ : ∃ x, xs = [x] := List.length_eq_one_iff.1 h0.1
  have : x = 0 := by simpa using h0.2
  subst this
  simp [scL]
set_option maxHeartbeats 2000000 in
theorem Scale_any (A : Option Addr) (n c : Nat) (xs : List Int) (b : Int) (w : World) (h : R E1 w A n c xs) (hn : n ≤ 1000) :
    Calls Try.prog 54 #[.slice A n c, .int .i64 b] w (RowPost (scE b xs) (scV b xs) w) := by
  have HX := hide h
  have HL := hide h.length
  by_cases he : errC xs = 0
  · have HE := hide he
    obtain ⟨hn1, hn6, hv, _⟩ := errC_ok.1 he
    rw [HL.out] at hn1 hn6 hv
    have HVV := hide hv
    by_cases hb : b ≤ 0
    · have HS := hide (show scE b xs = 1 from by unfold scE; rw [if_pos he, if_pos hb])
      have HV := hide (show scV b xs = [] from by unfold scV; rw [if_neg (by omega)])
      clear he hv h
      go_enter Try.func54, Try.ntmps54
      go_wp2_with (go_at_call 24; refine (Validate_any _ _ _ xs _ HX.out (by omega)).mono ?_; rintro e w1 ⟨rfl, b1⟩; rw [HE.out]; have D1 := hide b1; clear b1)
      go_ret2
      exact ⟨none, 0, 0, by rw [HS.out]; rfl, by rw [HV.out]; exact Own.nil _ _ _ _, D1.out⟩
    · have HS := hide (show scE b xs = errC (scL b xs) from by unfold scE; rw [if_pos he, if_neg hb])
      have HV := hide (show scV b xs = chkV (scL b xs) from by unfold scV; rw [if_pos ⟨he, by omega⟩])
      obtain ⟨g, off, hr⟩ := h
      obtain rfl := hr.at_ (by omega)
      have hgl := hr.lt (by omega)
      have HR := hide hr
      have hcap := hr.cap
      have hmax := hr.max
      clear hr he hv
      have hm1 : 0 < min b 61 := by omega
      have hm2 : min b 61 ≤ 61 := by omega
      have HMM := hide (show scL b xs = xs.map fun x => x * min b 61 from rfl)
      generalize hmm : min b 61 = m at hm1 hm2 HMM
      go_enter Try.func54, Try.ntmps54
      go_wp2_with (go_at_call 24; refine (Validate_any _ _ _ xs _ HX.out (by omega)).mono ?_; rintro e w1 ⟨rfl, b1⟩; rw [HE.out]; have D1 := hide b1; clear b1)
      go_loopw [7, 21] (fun v i wr => ∃ (k : Nat) (B : Option Addr) (q : Nat), k ≤ n ∧ i = .int .i64 k ∧ v = .slice B k q ∧ Hid (Own E1 wr w.heap.size 3 B k q ((xs.take k).map fun x => x * m)) ∧ Hid (Below w.heap.size w wr)) (fun _ i _ => n - (intOf i).toNat)
      case atStart => exact ⟨0, none, 0, Nat.zero_le _, rfl, rfl, hide (Own.nil E1 _ _ _), D1⟩
      case round =>
        obtain ⟨k, B, q, hk, rfl, rfl, HO, HD⟩ := hrel
        by_cases hlt : k < n
        · have hck : wr.cell? ⟨g, off + k, none⟩ = some (.int .i64 (xs.getD k 0)) := c1 (HR.out.under HD.out fun _ => hgl) hlt
          have bk := okTo_bd HVV.out hlt
          have HST := hide (show ((xs.take (k + 1)).map fun x => x * m) = ((xs.take k).map fun x => x * m) ++ [xs.getD k 0 * m] from take_step (f := fun x => x * m) (by rw [HL.out]; exact hlt))
          generalize xs.getD k 0 = xk at hck bk HST
          have hsz := HD.out.size
          have i1 : (k : Int) < (n : Int) := by omega
          have hpb := mul_bd bk.1 bk.2 (show 0 ≤ m by omega) hm2
          have w3 : IntKind.i64.wrap (xk * m) = xk * m := IntWalk.i64_in _ (by omega)
          go_wp2_with ((at_builtin; refine wpList_app1 (E := E1) _ (.int .i64 0) 8 rfl (.tmp 25) (.tmp 29) 22 3 rfl Try.underlying22 info_int rfl (by decide) (by omega) _ _ _ _ _ (xk * m) _ rfl rfl rfl HO.out (by omega) hsz ?_; intro A2 c2 w5 o5 b5 g5))
          go_roundw
          case rel => exact ⟨k + 1, A2, c2, by omega, by go_num, rfl, hide (by rw [HST.out]; exact o5), hide (HD.out.trans b5)⟩
          case measure => simp [intOf]; omega
        · obtain rfl : k = n := by omega
          have HO2 := hide (show Own E1 wr w.heap.size 3 B k q (scL b xs) from by have := HO.out; rwa [List.take_of_length_le (by rw [HL.out]; exact Nat.le_refl _), ← HMM.out] at this)
          clear HO
          go_wp2_with (go_at_call 90; refine (checked_any B k q (scL b xs) _ _ HO2.out (by omega)).mono ?_; rintro e w3 ⟨A3, n3, c3, rfl, o3, b3⟩; have HO3 := hide o3; have D3 := hide b3; clear o3 b3)
          go_ret2
          exact ⟨A3, n3, c3, by rw [HS.out]; rfl, by rw [HV.out]; exact HO3.out, le_call HD.out D3.out⟩
  · have hne : (errC xs != 0) = true := by simpa using he
    have HS := hide (show scE b xs = errC xs from if_neg he)
    have HV := hide (show scV b xs = [] from by unfold scV; rw [if_neg (fun hh => he hh.1)])
    clear he h
    go_enter Try.func54, Try.ntmps54
    go_wp2_with (go_at_call 24; refine (Validate_any _ _ _ xs _ HX.out (by omega)).mono ?_; rintro e w1 ⟨rfl, b1⟩; have D1 := hide b1; clear b1)
    go_ret2
    exact ⟨none, 0, 0, by rw [HS.out]; rfl, by rw [HV.out]; exact Own.nil _ _ _ _, D1.out⟩
set_option maxHeartbeats 2000000 in
theorem rScale_any (A : Option Addr) (n c : Nat) (xs : List Int) (b : Int) (w : World) (h : R E1 w A n c xs) (hn : n ≤ 1000) :
    Calls Try.prog 55 #[.slice A n c, .int .i64 b] w (RowPost (scE b xs) (scV b xs) w) := by
  have HX := hide h
  have HL := hide h.length
  by_cases he : errC xs = 0
  · have HE := hide he
    obtain ⟨hn1, hn6, hv, _⟩ := errC_ok.1 he
    rw [HL.out] at hn1 hn6 hv
    have HVV := hide hv
    by_cases hb : b ≤ 0
    · have HS := hide (show scE b xs = 1 from by unfold scE; rw [if_pos he, if_pos hb])
      have HV := hide (show scV b xs = [] from by unfold scV; rw [if_neg (by omega)])
      have hb' : b < 1 := by omega
      clear he hv h
      go_enter Try.func55, Try.ntmps55
      go_wp2_with (go_at_call 25; refine (rValidate_any _ _ _ xs _ HX.out (by omega)).mono ?_; rintro e w1 ⟨rfl, b1⟩; rw [HE.out]; have D1 := hide b1; clear b1)
      go_ret2
      exact ⟨none, 0, 0, by rw [HS.out]; rfl, by rw [HV.out]; exact Own.nil _ _ _ _, D1.out⟩
    · have hb' : ¬ b < 1 := by omega
      have HS := hide (show scE b xs = errC (scL b xs) from by unfold scE; rw [if_pos he, if_neg hb])
      have HV := hide (show scV b xs = chkV (scL b xs) from by unfold scV; rw [if_pos ⟨he, by omega⟩])
      have HSZ := hide (fun h0 => sc_zero (b := b) (xs := xs) (by omega) h0)
      have HSF := hide (fun h1 h0 => sc_far (b := b) he h1 h0)
      obtain ⟨g, off, hr⟩ := h
      obtain rfl := hr.at_ (by omega)
      have hgl := hr.lt (by omega)
      have HR := hide hr
      have hcap := hr.cap
      have hmax := hr.max
      have H1c := hide (fun (W : World) (hW : Below w.heap.size w W) => (show W.cell? ⟨g, off, none⟩ = some (.int .i64 (xs.getD 0 0)) from by have := c1 (hr.under hW fun _ => hgl) (k := 0) (by omega); rwa [Nat.add_zero] at this))
      have i0n : 0 < n := by omega
      have i0 : (0 : Int) < (n : Int) := by omega
      clear hr he hv
      by_cases h0 : xs.length = 1 ∧ xs.getD 0 0 = 0
      · obtain rfl : n = 1 := by rw [← HL.out]; exact h0.1
        have hz := HSZ.out h0
        have HS2 := hide (show errC (scL b xs) = 0 from by rw [hz]; decide +kernel)
        have HV2 := hide (show chkV (scL b xs) = [0] from by rw [hz]; decide +kernel)
        have hx0 := h0.2
        rw [hx0] at H1c
        clear hz h0 hx0
        go_enter Try.func55, Try.ntmps55
        go_wp2_with (go_at_call 25; refine (rValidate_any _ _ _ xs _ HX.out (by omega)).mono ?_; rintro e w1 ⟨rfl, b1⟩; rw [HE.out]; have D1 := hide b1; have hc0 := H1c.out _ b1; clear b1)
        go_ret2
        exact ⟨_, 1, 1, by rw [HS.out, HS2.out]; rfl, by rw [HV.out, HV2.out]; exact Own.lit w1 [0] D1.out.size (by decide), le_two D1.out _⟩
      · have hcond : ((n : Int) == 1) = true → (xs.getD 0 0 == 0) = false := by
          intro e
          rw [beq_iff_eq] at e
          rw [beq_eq_false_iff_ne]
          intro e2
          exact h0 ⟨by rw [HL.out]; omega, e2⟩
        by_cases hb6 : 60 < b
        · have HF := hide (HSF.out hb6 h0)
          clear h0
          by_cases hn1' : n = 1
          · subst hn1'
            have hx0 := hcond (by decide)
            generalize xs.getD 0 0 = x0 at hx0 H1c
            clear hcond
            go_enter Try.func55, Try.ntmps55
            go_wp2_with (go_at_call 25; refine (rValidate_any _ _ _ xs _ HX.out (by omega)).mono ?_; rintro e w1 ⟨rfl, b1⟩; rw [HE.out]; have D1 := hide b1; have hc0 := H1c.out _ b1; clear b1)
            go_ret2
            exact ⟨none, 0, 0, by rw [HS.out, HF.out]; rfl, by rw [HV.out]; unfold chkV; rw [if_neg (by rw [HF.out]; decide)]; exact Own.nil _ _ _ _, D1.out⟩
          · have hne1 : ((n : Int) == 1) = false := by rw [beq_eq_false_iff_ne]; omega
            clear hcond
            go_enter Try.func55, Try.ntmps55
            go_wp2_with (go_at_call 25; refine (rValidate_any _ _ _ xs _ HX.out (by omega)).mono ?_; rintro e w1 ⟨rfl, b1⟩; rw [HE.out]; have D1 := hide b1; clear b1)
            go_ret2
            exact ⟨none, 0, 0, by rw [HS.out, HF.out]; rfl, by rw [HV.out]; unfold chkV; rw [if_neg (by rw [HF.out]; decide)]; exact Own.nil _ _ _ _, D1.out⟩
        · have HMM := hide (show scL b xs = xs.map fun x => x * b from by unfold scL; rw [show min b 61 = b by omega])
          have HLS := hide (show (scL b xs).length = n from by unfold scL; rw [List.length_map, HL.out])
          have hb0 : 0 ≤ b := by omega
          have hb61 : b ≤ 61 := by omega
          clear h0
          by_cases hn1' : n = 1
          · subst hn1'
            have hx0 := hcond (by decide)
            generalize xs.getD 0 0 = x0 at hx0 H1c
            clear hcond
            go_enter Try.func55, Try.ntmps55
            go_wp2_with (go_at_call 25; refine (rValidate_any _ _ _ xs _ HX.out (by omega)).mono ?_; rintro e w1 ⟨rfl, b1⟩; rw [HE.out]; have D1 := hide b1; have hc0 := H1c.out _ b1; clear b1)
            go_loopw [7, 8] (fun v i wr => ∃ (k : Nat) (B : Option Addr) (q : Nat), k ≤ 1 ∧ i = .int .i64 k ∧ v = .slice B k q ∧ Hid (Own E1 wr w.heap.size 3 B k q ((xs.take k).map fun x => x * b)) ∧ Hid (Below w.heap.size w wr)) (fun _ i _ => 1 - (intOf i).toNat)
            case atStart => exact ⟨0, none, 0, Nat.zero_le _, rfl, rfl, hide (Own.nil E1 _ _ _), D1⟩
            case round =>
              obtain ⟨k, B, q, hk, rfl, rfl, HO, HD⟩ := hrel
              by_cases hlt : k < 1
              · have hck : wr.cell? ⟨g, off + k, none⟩ = some (.int .i64 (xs.getD k 0)) := c1 (HR.out.under HD.out fun _ => hgl) hlt
                have bk := okTo_bd HVV.out hlt
                have HST := hide (show ((xs.take (k + 1)).map fun x => x * b) = ((xs.take k).map fun x => x * b) ++ [xs.getD k 0 * b] from take_step (f := fun x => x * b) (by rw [HL.out]; exact hlt))
                generalize xs.getD k 0 = xk at hck bk HST
                have hsz := HD.out.size
                have i1 : (k : Int) < (1 : Int) := by omega
                have hpb := mul_bd bk.1 bk.2 hb0 hb61
                have w3 : IntKind.i64.wrap (xk * b) = xk * b := IntWalk.i64_in _ (by omega)
                go_wp2_with ((at_builtin; refine wpList_app1 (E := E1) _ (.int .i64 0) 8 rfl (.tmp 34) (.tmp 41) 22 3 rfl Try.underlying22 info_int rfl (by decide) (by omega) _ _ _ _ _ (xk * b) _ rfl rfl rfl HO.out (by omega) hsz ?_; intro A2 c2 w5 o5 b5 g5))
                go_roundw
                case rel => exact ⟨k + 1, A2, c2, by omega, by go_num, rfl, hide (by rw [HST.out]; exact o5), hide (HD.out.trans b5)⟩
                case measure => simp [intOf]; omega
              · obtain rfl : k = 1 := by omega
                have HO2 := hide (show Own E1 wr w.heap.size 3 B _ q (scL b xs) from by have := HO.out; rwa [List.take_of_length_le (by rw [HL.out]; exact Nat.le_refl _), ← HMM.out] at this)
                clear HO
                by_cases hs : errC (scL b xs) = 0
                · have HZ := hide hs
                  clear hs
                  go_wp2_with (go_at_call 25; refine (rValidate_any _ _ _ (scL b xs) _ HO2.out.row (by omega)).mono ?_; rintro e w6 ⟨rfl, b6⟩; rw [HZ.out]; have D6 := hide b6; clear b6)
                  go_ret2
                  exact ⟨B, _, q, by rw [HS.out, HZ.out]; rfl, by rw [HV.out]; unfold chkV; rw [if_pos HZ.out]; exact HO2.out.below D6.out (Nat.le_refl _), le_call HD.out D6.out⟩
                · have HZ := hide (errC_one (l := scL b xs) (by rw [HLS.out]; omega) (by rw [HLS.out]; omega) hs)
                  have HZ0 := hide hs
                  clear hs
                  go_wp2_with (go_at_call 25; refine (rValidate_any _ _ _ (scL b xs) _ HO2.out.row (by omega)).mono ?_; rintro e w6 ⟨rfl, b6⟩; rw [HZ.out]; have D6 := hide b6; clear b6)
                  go_ret2
                  exact ⟨none, 0, 0, by rw [HS.out, HZ.out]; rfl, by rw [HV.out]; unfold chkV; rw [if_neg HZ0.out]; exact Own.nil _ _ _ _, le_call HD.out D6.out⟩
          · have hne1 : ((n : Int) == 1) = false := by rw [beq_eq_false_iff_ne]; omega
            clear hcond
            go_enter Try.func55, Try.ntmps55
            go_wp2_with (go_at_call 25; refine (rValidate_any _ _ _ xs _ HX.out (by omega)).mono ?_; rintro e w1 ⟨rfl, b1⟩; rw [HE.out]; have D1 := hide b1; clear b1)
            go_loopw [7, 8] (fun v i wr => ∃ (k : Nat) (B : Option Addr) (q : Nat), k ≤ n ∧ i = .int .i64 k ∧ v = .slice B k q ∧ Hid (Own E1 wr w.heap.size 3 B k q ((xs.take k).map fun x => x * b)) ∧ Hid (Below w.heap.size w wr)) (fun _ i _ => n - (intOf i).toNat)
            case atStart => exact ⟨0, none, 0, Nat.zero_le _, rfl, rfl, hide (Own.nil E1 _ _ _), D1⟩
            case round =>
              obtain ⟨k, B, q, hk, rfl, rfl, HO, HD⟩ := hrel
              by_cases hlt : k < n
              · have hck : wr.cell? ⟨g, off + k, none⟩ = some (.int .i64 (xs.getD k 0)) := c1 (HR.out.under HD.out fun _ => hgl) hlt
                have bk := okTo_bd HVV.out hlt
                have HST := hide (show ((xs.take (k + 1)).map fun x => x * b) = ((xs.take k).map fun x => x * b) ++ [xs.getD k 0 * b] from take_step (f := fun x => x * b) (by rw [HL.out]; exact hlt))
                generalize xs.getD k 0 = xk at hck bk HST
                have hsz := HD.out.size
                have i1 : (k : Int) < (n : Int) := by omega
                have hpb := mul_bd bk.1 bk.2 hb0 hb61
                have w3 : IntKind.i64.wrap (xk * b) = xk * b := IntWalk.i64_in _ (by omega)
                go_wp2_with ((at_builtin; refine wpList_app1 (E := E1) _ (.int .i64 0) 8 rfl (.tmp 34) (.tmp 41) 22 3 rfl Try.underlying22 info_int rfl (by decide) (by omega) _ _ _ _ _ (xk * b) _ rfl rfl rfl HO.out (by omega) hsz ?_; intro A2 c2 w5 o5 b5 g5))
                go_roundw
                case rel => exact ⟨k + 1, A2, c2, by omega, by go_num, rfl, hide (by rw [HST.out]; exact o5), hide (HD.out.trans b5)⟩
                case measure => simp [intOf]; omega
              · obtain rfl : k = n := by omega
                have HO2 := hide (show Own E1 wr w.heap.size 3 B _ q (scL b xs) from by have := HO.out; rwa [List.take_of_length_le (by rw [HL.out]; exact Nat.le_refl _), ← HMM.out] at this)
                clear HO
                by_cases hs : errC (scL b xs) = 0
                · have HZ := hide hs
                  clear hs
                  go_wp2_with (go_at_call 25; refine (rValidate_any _ _ _ (scL b xs) _ HO2.out.row (by omega)).mono ?_; rintro e w6 ⟨rfl, b6⟩; rw [HZ.out]; have D6 := hide b6; clear b6)
                  go_ret2
                  exact ⟨B, _, q, by rw [HS.out, HZ.out]; rfl, by rw [HV.out]; unfold chkV; rw [if_pos HZ.out]; exact HO2.out.below D6.out (Nat.le_refl _), le_call HD.out D6.out⟩
                · have HZ := hide (errC_one (l := scL b xs) (by rw [HLS.out]; omega) (by rw [HLS.out]; omega) hs)
                  have HZ0 := hide hs
                  clear hs
                  go_wp2_with (go_at_call 25; refine (rValidate_any _ _ _ (scL b xs) _ HO2.out.row (by omega)).mono ?_; rintro e w6 ⟨rfl, b6⟩; rw [HZ.out]; have D6 := hide b6; clear b6)
                  go_ret2
                  exact ⟨none, 0, 0, by rw [HS.out, HZ.out]; rfl, by rw [HV.out]; unfold chkV; rw [if_neg HZ0.out]; exact Own.nil _ _ _ _, le_call HD.out D6.out⟩
  · have hne : (errC xs != 0) = true := by simpa using he
    have HS := hide (show scE b xs = errC xs from if_neg he)
    have HV := hide (show scV b xs = [] from by unfold scV; rw [if_neg (fun hh => he hh.1)])
    clear he h
    go_enter Try.func55, Try.ntmps55
    go_wp2_with (go_at_call 25; refine (rValidate_any _ _ _ xs _ HX.out (by omega)).mono ?_; rintro e w1 ⟨rfl, b1⟩; have D1 := hide b1; clear b1)
    go_ret2
    exact ⟨none, 0, 0, by rw [HS.out]; rfl, by rw [HV.out]; exact Own.nil _ _ _ _, D1.out⟩
theorem dif_map (b : Int) : ∀ (n : Nat) (l : List Int), l.length = n → dif (l.map fun x => x * b) = (dif l).map fun d => b * d
  | 0, l, hn => by
    obtain rfl := List.eq_nil_of_length_eq_zero hn
    rfl
  | n + 1, l, hn => by
    have hne : l ≠ [] := by intro e; subst e; simp at hn
    obtain ⟨l, x, rfl⟩ : ∃ ini c, l = ini ++ [c] := ⟨l.dropLast, l.getLast hne, (List.dropLast_concat_getLast hne).symm⟩
    rw [List.map_append, List.map_cons, List.map_nil, dif_snoc, dif_snoc, dif_map b n l (by simpa using hn), List.map_append, List.map_map, List.map_map]
    congr 1
    apply List.map_congr_left
    intro v _
    simp only [Function.comp_def]
    rw [← Int.sub_mul, Int.mul_comm]
theorem sortZ_map (b : Int) (hb : 0 ≤ b) (l : List Int) : sortZ (l.map fun d => b * d) = (sortZ l).map fun d => b * d := by
  refine sorted_unique ((sortZ_perm _).trans ((sortZ_perm l).map _).symm) (sortZ_sorted _) ?_
  rw [List.pairwise_map]
  exact (sortZ_sorted l).imp fun h => Int.mul_le_mul_of_nonneg_left h hb
theorem dif_bd {xs : List Int} (h : OkTo xs xs.length) : ∀ d ∈ dif xs, -120 ≤ d ∧ d ≤ 120 := by
  intro d hd
  unfold dif difTo at hd
  obtain ⟨i, hi, hd⟩ := List.mem_flatMap.1 hd
  have hi := List.mem_range.1 hi
  unfold rowD at hd
  obtain ⟨j, hj, rfl⟩ := List.mem_map.1 hd
  have hj := List.mem_range.1 hj
  have h1 := okTo_bd h hi
  have h2 := okTo_bd h (i := j) (by omega)
  omega
theorem sc_delays {b : Int} {xs : List Int} (h : scE b xs = 0) : errC xs = 0 ∧ errC (scV b xs) = 0 ∧ (delV (scV b xs)).length = (delV xs).length ∧
    ∀ i, i < (delV xs).length → (delV (scV b xs)).getD i 0 = b * (delV xs).getD i 0 ∧ IntKind.i64.wrap (b * (delV xs).getD i 0) = b * (delV xs).getD i 0 := by
  have hc : errC xs = 0 := by
    by_cases e : errC xs = 0
    · exact e
    · unfold scE at h
      rw [if_neg e] at h
      exact h
  have hb : 0 < b := by
    apply Classical.byContradiction
    intro hh
    unfold scE at h
    rw [if_pos hc, if_pos (by omega)] at h
    cases h
  have hl : errC (scL b xs) = 0 := by
    unfold scE at h
    rw [if_pos hc, if_neg (by omega)] at h
    exact h
  have hv : scV b xs = scL b xs := by
    unfold scV chkV
    rw [if_pos ⟨hc, hb⟩, if_pos hl]
  rw [hv, delV_ok hl, delV_ok hc]
  obtain ⟨h1, h2, h3, h4⟩ := errC_ok.1 hl
  by_cases hb6 : b ≤ 60
  · have e : scL b xs = xs.map fun x => x * b := by unfold scL; rw [show min b 61 = b by omega]
    have e2 : sortZ (dif (scL b xs)) = (sortZ (dif xs)).map fun d => b * d := by rw [e, dif_map b _ xs rfl, sortZ_map b (by omega)]
    refine ⟨hc, hl, by rw [e2, List.length_map], fun i hi => ?_⟩
    have e3 : (sortZ (dif (scL b xs))).getD i 0 = b * (sortZ (dif xs)).getD i 0 := by rw [e2, map_getD hi]
    refine ⟨e3, ?_⟩
    have hm : (sortZ (dif (scL b xs))).getD i 0 ∈ dif (scL b xs) := by
      have hi' : i < (sortZ (dif (scL b xs))).length := by rw [e2, List.length_map]; exact hi
      rw [List.getD_eq_getElem?_getD, List.getElem?_eq_getElem hi', Option.getD_some]
      exact (sortZ_perm _).mem_iff.1 (List.getElem_mem hi')
    have := dif_bd h3 _ hm
    rw [e3] at this
    exact IntWalk.i64_in _ (by omega)
  · have h0 : xs.length = 1 ∧ xs.getD 0 0 = 0 := by
      apply Classical.byContradiction
      intro hh
      rw [sc_far hc (by omega) hh] at hl
      cases hl
    have hs := sc_zero hb h0
    obtain ⟨x, rfl⟩ : ∃ x, xs = [x] := List.length_eq_one_iff.1 h0.1
    have hx : x = 0 := by simpa using h0.2
    subst hx
    rw [hs]
    have e4 : sortZ (dif [0]) = [] := List.eq_nil_of_length_eq_zero (by rw [sortZ_len]; rfl)
    refine ⟨by decide +kernel, by decide +kernel, rfl, fun i hi => ?_⟩
    rw [e4] at hi
    simp at hi
set_option maxRecDepth 100000 in
set_option maxHeartbeats 4000000 in
theorem EchoScales_walk (A : Option Addr) (n c : Nat) (xs : List Int) (b : Int) (w : World) (h : R E1 w A n c xs) (_ : (Lit.int .i64 b).wf = true) :
    Calls Try.prog 15 #[.slice A n c, .int .i64 b] w fun e w' => e = .returned (.bool true) ∧ Below w.heap.size w w' := by
  have HX := hide h
  have hm9 := h.le
  have HSL := hide (scV_len b xs)
  clear h
  by_cases hn : 100 < n
  · have HLn := hide (show decide (100 < n) = true from by simpa using hn)
    go_enter Try.func15, Try.ntmps15
    go_wp2_with (first
      | (go_at_call 18; refine (Long1_any A n c w hm9).mono ?_; rintro e w1 ⟨rfl, b1⟩; have D1 := hide b1; clear b1; rw [HLn.out])
      | (go_at_call 19; refine (sane_any _).mono ?_; rintro e w2 ⟨rfl, b2⟩; have D2 := hide b2; clear b2))
    go_ret
    exact ⟨rfl, (le_call D1.out D2.out)⟩
  · have HLn := hide (show decide (100 < n) = false from by simpa using hn)
    by_cases hz : scE b xs = 0
    · have HE0 := hide hz
      have HSD := hide (sc_delays hz)
      have HDL := hide (delV_len xs)
      clear hz
      go_enter Try.func15, Try.ntmps15
      go_wp2_with (first
        | (go_at_call 18; refine (Long1_any A n c w hm9).mono ?_; rintro e w1 ⟨rfl, b1⟩; have D1 := hide b1; clear b1; rw [HLn.out])
        | (go_at_call 54; refine (Scale_any A n c xs b _ (HX.out.below D1.out (Nat.le_refl _)) (by omega)).mono ?_; rw [HE0.out]; rintro e w2 ⟨A2, n2, c2, rfl, o2, b2⟩; have D2 := hide b2; have O2 := hide o2; have HN2 := hide o2.len; clear o2 b2)
        | (go_at_call 55; refine (rScale_any A n c xs b _ ((HX.out.below D1.out (Nat.le_refl _)).below D2.out (Nat.le_refl _)) (by omega)).mono ?_; rw [HE0.out]; rintro e w3 ⟨A3, n3, c3, rfl, o3, b3⟩; have D3 := hide b3; have O3 := hide o3; have HN3 := hide o3.len; clear o3 b3)
        | (go_at_call 26; refine (SameInts_any A2 n2 c2 A3 n3 c3 (scV b xs) (scV b xs) _ (O2.out.row.below D3.out (Nat.le_refl _)) O3.out.row (by have h1 := HN2.out; have h2 := HSL.out; omega) (by have h1 := HN3.out; have h2 := HSL.out; omega)).mono ?_; rintro e w4 ⟨rfl, q4, hw4⟩; have D4 := hide (show Below w3.heap.size w3 w4 from by rw [hw4]; exact below_drewN (Below.refl _ _) q4); clear hw4; rw [beq_self_eq_true])
        | (go_at_call_of 20 (Value.slice A n c); refine (Delays_any A n c xs _ ((((HX.out.below D1.out (Nat.le_refl _)).below D2.out (Nat.le_refl _)).below D3.out (Nat.le_refl _)).below D4.out (Nat.le_refl _)) (by omega)).mono ?_; rw [HSD.out.1]; rintro e w5 ⟨A5, n5, c5, rfl, o5, b5⟩; have D5 := hide b5; have O5 := hide o5; have HN5 := hide o5.len; clear o5 b5)
        | (go_at_call_of 20 (Value.slice A2 n2 c2); refine (Delays_any A2 n2 c2 (scV b xs) _ (((O2.out.row.below D3.out (Nat.le_refl _)).below D4.out (Nat.le_refl _)).below D5.out (Nat.le_refl _)) (by have h1 := HN2.out; have h2 := HSL.out; omega)).mono ?_; rw [HSD.out.2.1]; rintro e w6 ⟨A6, n6, c6, rfl, o6, b6⟩; have D6 := hide b6; have O6 := hide o6; have HN6 := hide o6.len; clear o6 b6; obtain rfl : n6 = n5 := (by rw [← HN5.out, ← HN6.out]; exact HSD.out.2.2.1)))
      have hn5 : n6 ≤ 1000 := by have h1 := HN5.out; have h2 := HDL.out; omega
      have HRx := hide ((O5.out.row.below D6.out (Nat.le_refl _)))
      have HRy := hide (O6.out.row)
      go_loopw [13] (fun i wr => ∃ (k : Nat), k ≤ n6 ∧ i = .int .i64 k ∧ Hid (Below w6.heap.size w6 wr)) (fun i _ => n6 - (intOf i).toNat)
      case atStart => exact ⟨0, Nat.zero_le _, rfl, hide (Below.refl _ _)⟩
      case round =>
        obtain ⟨k, hk, rfl, HD⟩ := hrel
        by_cases hlt : k < n6
        · obtain ⟨gx, ox, rx⟩ := HRx.out
          obtain ⟨gy, oy, ry⟩ := HRy.out
          obtain rfl := rx.at_ (by omega)
          obtain rfl := ry.at_ (by omega)
          have lx := rx.lt (by omega)
          have ly := ry.lt (by omega)
          have kx := rx.cap
          have ky := ry.cap
          have mx := rx.max
          have my := ry.max
          have a1 := c1 (rx.below HD.out (Nat.le_refl _)) hlt
          have a2 := c1 (ry.below HD.out (Nat.le_refl _)) hlt
          obtain ⟨f1, f2⟩ := HSD.out.2.2.2 k (by rw [HN5.out]; exact hlt)
          clear rx ry
          rw [f1] at a2
          generalize (delV xs).getD k 0 = dx at a1 a2 f2
          have i1 : (k : Int) < (n6 : Int) := by omega
          have hbb : (b * dx != b * dx) = false := by simp
          clear f1
          go_wp2_with fail
          go_quiet (fail)
          go_wp2_with fail
          go_roundw
          case rel => exact ⟨k + 1, by omega, by go_num, hide (below_drewN HD.out _)⟩
          case measure => simp [intOf]; omega
        · obtain rfl : k = n6 := by omega
          go_wp2_with (go_at_call 19; refine (sane_any _).mono ?_; rintro e w8 ⟨rfl, b8⟩; have D8 := hide b8; clear b8)
          go_ret
          exact ⟨rfl, le_call (le_call (le_call (le_call (le_call (le_call (le_call D1.out D2.out) D3.out) D4.out) D5.out) D6.out) HD.out) D8.out⟩
    · have hne : (scE b xs != 0) = true := by simpa using hz
      clear hz
      go_enter Try.func15, Try.ntmps15
      go_wp2_with (first
        | (go_at_call 18; refine (Long1_any A n c w hm9).mono ?_; rintro e w1 ⟨rfl, b1⟩; have D1 := hide b1; clear b1; rw [HLn.out])
        | (go_at_call 54; refine (Scale_any A n c xs b _ (HX.out.below D1.out (Nat.le_refl _)) (by omega)).mono ?_; rintro e w2 ⟨A2, n2, c2, rfl, o2, b2⟩; have D2 := hide b2; have O2 := hide o2; have HN2 := hide o2.len; clear o2 b2)
        | (go_at_call 55; refine (rScale_any A n c xs b _ ((HX.out.below D1.out (Nat.le_refl _)).below D2.out (Nat.le_refl _)) (by omega)).mono ?_; rintro e w3 ⟨A3, n3, c3, rfl, o3, b3⟩; have D3 := hide b3; have O3 := hide o3; have HN3 := hide o3.len; clear o3 b3)
        | (go_at_call 26; refine (SameInts_any A2 n2 c2 A3 n3 c3 (scV b xs) (scV b xs) _ (O2.out.row.below D3.out (Nat.le_refl _)) O3.out.row (by have h1 := HN2.out; have h2 := HSL.out; omega) (by have h1 := HN3.out; have h2 := HSL.out; omega)).mono ?_; rintro e w4 ⟨rfl, q4, hw4⟩; have D4 := hide (show Below w3.heap.size w3 w4 from by rw [hw4]; exact below_drewN (Below.refl _ _) q4); clear hw4; rw [beq_self_eq_true])
        | (go_at_call 19; refine (sane_any _).mono ?_; rintro e w5 ⟨rfl, b5⟩; have D5 := hide b5; clear b5))
      go_ret
      exact ⟨ret_bool (by simp), (le_call (le_call (le_call (le_call D1.out D2.out) D3.out) D4.out) D5.out)⟩
end Go.Proofs.Ytllfkhcpdgdmnaa
