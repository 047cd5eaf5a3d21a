/- EchoShifts: Shift on both sides, and the walk. -/
import Derived.Test.YtllfkhcpdgdmnaaWkChecks
namespace Go.Proofs.Ytllfkhcpdgdmnaa
open Go.RowKit

theorem wf_bd {b : Int} (hb : (Lit.int .i64 b).wf = true) : -9223372036854775808 ≤ b ∧ b ≤ 9223372036854775807 := by
  have h := hb
  have hmin : IntKind.i64.min = -9223372036854775808 := rfl
  have hmax : IntKind.i64.max = 9223372036854775807 := rfl
  simp only [Lit.wf, Bool.and_eq_true, decide_eq_true_eq] at h
  omega
def shfL (b : Int) (xs : List Int) : List Int := xs.map (addW b)
def shfE (b : Int) (xs : List Int) : Int := if errC xs = 0 then errC (shfL b xs) else errC xs
def shfV (b : Int) (xs : List Int) : List Int := if errC xs = 0 then chkV (shfL b xs) else []
theorem chkV_len {l : List Int} : (chkV l).length ≤ 6 := by
  unfold chkV
  split
  · exact (errC_ok.1 (by assumption)).2.1
  · simp
theorem shfV_len (b : Int) (xs : List Int) : (shfV b xs).length ≤ 36 := by
  unfold shfV
  split
  · have := chkV_len (l := shfL b xs); omega
  · simp
theorem shf_far {b : Int} {xs : List Int} (hb : (Lit.int .i64 b).wf = true) (h : errC xs = 0) (hf : ¬ (-120 ≤ b ∧ b ≤ 120)) : errC (shfL b xs) = 1 := by
  obtain ⟨h1, h2, h3, h4⟩ := errC_ok.1 h
  have hx := okTo_bd h3 (i := 0) (by omega)
  have hbb := wf_bd hb
  refine errC_arg (k := 0) (by simp [shfL]; omega) (by simp [shfL]; omega) (by simp [shfL]; omega) ?_
  rw [← Bool.not_eq_true]
  intro hh
  have h5 := okB_iff.1 hh
  unfold shfL at h5
  rw [map_getD (by omega)] at h5
  unfold addW wrap64 at h5
  omega
theorem shf_near {b : Int} {xs : List Int} (h : errC xs = 0) (hf : -120 ≤ b ∧ b ≤ 120) : shfL b xs = xs.map fun x => x + b := by
  obtain ⟨h1, h2, h3, h4⟩ := errC_ok.1 h
  unfold shfL
  apply List.map_congr_left
  intro x hx
  obtain ⟨k, hk, e⟩ := List.getElem_of_mem hx
  have h5 := okTo_bd h3 hk
  have e1 : xs.getD k 0 = x := by rw [List.getD_eq_getElem?_getD, List.getElem?_eq_getElem hk]; exact e
  rw [e1] at h5
  unfold addW wrap64
  omega
theorem errC_one {l : List Int} (h1 : 1 ≤ l.length) (h2 : l.length ≤ 6) (h : errC l ≠ 0) : errC l = 1 := by
  unfold errC at h ⊢
  rw [if_neg (by omega)] at h ⊢
  split at h
  · exact absurd rfl h
  · rename_i h3
    rw [if_neg h3]
theorem sh0_shift (b : Int) {xs : List Int} (h : 1 ≤ xs.length) : sh0 (xs.map fun x => x + b) = sh0 xs := by
  unfold sh0
  rw [List.map_map]
  apply List.map_congr_left
  intro x _
  have : gi (xs.map fun x => x + b) 0 = gi xs 0 + b := by unfold gi; rw [map_getD (by omega)]
  simp only [Function.comp_def]
  rw [this]
  omega
theorem shf_alike {b : Int} {xs : List Int} (hb : (Lit.int .i64 b).wf = true) (h : shfE b xs = 0) : alkV xs (shfV b xs) = true ∧ errB xs (shfV b xs) = 0 := by
  have hc : errC xs = 0 := by
    by_cases e : errC xs = 0
    · exact e
    · unfold shfE at h
      rw [if_neg e] at h
      exact h
  have hl : errC (shfL b xs) = 0 := by
    unfold shfE at h
    rw [if_pos hc] at h
    exact h
  have hv : shfV b xs = shfL b xs := by
    unfold shfV chkV
    rw [if_pos hc, if_pos hl]
  have hn : -120 ≤ b ∧ b ≤ 120 := by
    apply Classical.byContradiction
    intro hf
    rw [shf_far hb hc hf] at hl
    cases hl
  have he : errB xs (shfV b xs) = 0 := by unfold errB; rw [if_pos hc, hv]; exact hl
  refine ⟨?_, he⟩
  rw [alkV_ok he, hv, shf_near hc hn, beq_iff_eq]
  unfold norF
  rw [sh0_shift b (errC_ok.1 hc).1]
set_option maxHeartbeats 1000000 in
theorem Shift_any (A : Option Addr) (n c : Nat) (xs : List Int) (b : Int) (w : World) (h : R E1 w A n c xs) (hn : n ≤ 1000) :
    Calls Try.prog 52 #[.slice A n c, .int .i64 b] w (RowPost (shfE b xs) (shfV b xs) w) := by
  have HX := hide h
  have HL := hide h.length
  clear h
  by_cases he : errC xs = 0
  · have HE := hide he
    have hn6 := (errC_ok.1 he).2.1
    rw [HL.out] at hn6
    have HS := hide (show shfE b xs = errC (shfL b xs) from if_pos he)
    have HV := hide (show shfV b xs = chkV (shfL b xs) from if_pos he)
    clear he
    go_enter Try.func52, Try.ntmps52
    go_wp2_with (first
      | (go_at_call 24; refine (Validate_any _ _ _ xs _ HX.out (by omega)).mono ?_; rintro e w1 ⟨rfl, b1⟩; rw [HE.out]; have D1 := hide b1; clear b1)
      | (go_at_call 91; refine (shift_any A n c xs b _ (HX.out.below D1.out (Nat.le_refl _)) hn).mono ?_; rintro e w2 ⟨A2, n2, c2, rfl, o2, b2⟩; have HO2 := hide o2; have HN2 := hide o2.len; have D2 := hide b2; clear o2 b2)
      | (go_at_call 90; refine (checked_any A2 n2 c2 (shfL b xs) _ _ HO2.out (by have h1 := HN2.out; rw [List.length_map, HL.out] at h1; omega)).mono ?_; rintro e w3 ⟨A3, n3, c3, rfl, o3, b3⟩; have HO3 := hide o3; have D3 := hide b3; clear o3 b3))
    go_ret2
    exact ⟨A3, n3, c3, by rw [HS.out]; rfl, by rw [HV.out]; exact HO3.out.more D1.out.size, le_call (le_call D1.out D2.out) D3.out⟩
  · have hne : (errC xs != 0) = true := by simpa using he
    have HS := hide (show shfE b xs = errC xs from if_neg he)
    have HV := hide (show shfV b xs = [] from if_neg he)
    clear he
    go_enter Try.func52, Try.ntmps52
    go_wp2_with (go_at_call 24; refine (Validate_any _ _ _ xs _ HX.out (by omega)).mono ?_; rintro e w1 ⟨rfl, b1⟩; have D1 := hide b1; clear b1)
    go_ret2
    exact ⟨none, 0, 0, by rw [HS.out]; rfl, by rw [HV.out]; exact Own.nil _ _ _ _, D1.out⟩
set_option maxHeartbeats 2000000 in
theorem rShift_any (A : Option Addr) (n c : Nat) (xs : List Int) (b : Int) (w : World) (h : R E1 w A n c xs) (hn : n ≤ 1000) (hb : (Lit.int .i64 b).wf = true) :
    Calls Try.prog 53 #[.slice A n c, .int .i64 b] w (RowPost (shfE b xs) (shfV b xs) w) := by
  have HX := hide h
  have HL := hide h.length
  by_cases he : errC xs = 0
  · have HE := hide he
    obtain ⟨hn1, hn6, hv, _⟩ := errC_ok.1 he
    rw [HL.out] at hn1 hn6 hv
    have HVV := hide hv
    have HS := hide (show shfE b xs = errC (shfL b xs) from if_pos he)
    have HV := hide (show shfV b xs = chkV (shfL b xs) from if_pos he)
    have HSL := hide (show (shfL b xs).length = n from by unfold shfL; rw [List.length_map, HL.out])
    rcases withinB_dec b (-120) 120 with ⟨hw, hb1, hb2⟩ | ⟨hw, hbf⟩
    · have HNR := hide (shf_near he ⟨hb1, hb2⟩)
      obtain ⟨g, off, hr⟩ := h
      obtain rfl := hr.at_ (by omega)
      have hgl := hr.lt (by omega)
      have HR := hide hr
      have hcap := hr.cap
      have hmax := hr.max
      clear hr he hv
      go_enter Try.func53, Try.ntmps53
      go_wp2_with (first
        | (go_at_call 25; refine (rValidate_any _ _ _ xs _ HX.out (by omega)).mono ?_; rintro e w1 ⟨rfl, b1⟩; rw [HE.out]; have D1 := hide b1; clear b1)
        | (go_at_call 62; refine (within_any _ _ _ _).mono ?_; rintro e w2 ⟨rfl, rfl⟩; rw [hw]))
      go_loopw [7, 8] (fun v i wr => ∃ (k : Nat) (B : Option Addr) (q : Nat), k ≤ n ∧ i = .int .i64 k ∧ v = .slice B k q ∧ Hid (Own E1 wr w.heap.size 3 B k q ((xs.take k).map fun x => x + b)) ∧ Hid (Below w.heap.size w wr)) (fun _ i _ => n - (intOf i).toNat)
      case atStart => exact ⟨0, none, 0, Nat.zero_le _, rfl, rfl, hide (Own.nil E1 _ _ _), D1⟩
      case round =>
        obtain ⟨k, B, q, hk, rfl, rfl, HO, HD⟩ := hrel
        by_cases hlt : k < n
        · have hck : wr.cell? ⟨g, off + k, none⟩ = some (.int .i64 (xs.getD k 0)) := c1 (HR.out.under HD.out fun _ => hgl) hlt
          have bk := okTo_bd HVV.out hlt
          have HST := hide (show ((xs.take (k + 1)).map fun x => x + b) = ((xs.take k).map fun x => x + b) ++ [xs.getD k 0 + b] from take_step (f := fun x => x + b) (by rw [HL.out]; exact hlt))
          generalize xs.getD k 0 = xk at hck bk HST
          have hsz := HD.out.size
          have i1 : (k : Int) < (n : Int) := by omega
          have w3 : IntKind.i64.wrap (xk + b) = xk + b := IntWalk.i64_in _ (by omega)
          go_wp2_with ((at_builtin; refine wpList_app1 (E := E1) _ (.int .i64 0) 8 rfl (.tmp 23) (.tmp 30) 22 3 rfl Try.underlying22 info_int rfl (by decide) (by omega) _ _ _ _ _ (xk + b) _ rfl rfl rfl HO.out (by omega) hsz ?_; intro A2 c2 w5 o5 b5 g5))
          go_roundw
          case rel => exact ⟨k + 1, A2, c2, by omega, by go_num, rfl, hide (by rw [HST.out]; exact o5), hide (HD.out.trans b5)⟩
          case measure => simp [intOf]; omega
        · obtain rfl : k = n := by omega
          have HO2 := hide (show Own E1 wr w.heap.size 3 B k q (shfL b xs) from by have := HO.out; rwa [List.take_of_length_le (by rw [HL.out]; exact Nat.le_refl _), ← HNR.out] at this)
          clear HO
          by_cases hs : errC (shfL b xs) = 0
          · have HZ := hide hs
            clear hs
            go_wp2_with (go_at_call 25; refine (rValidate_any _ _ _ (shfL b xs) _ HO2.out.row (by omega)).mono ?_; rintro e w6 ⟨rfl, b6⟩; rw [HZ.out]; have D6 := hide b6; clear b6)
            go_ret2
            exact ⟨B, _, q, by rw [HS.out, HZ.out]; rfl, by rw [HV.out]; unfold chkV; rw [if_pos HZ.out]; exact HO2.out.below D6.out (Nat.le_refl _), le_call HD.out D6.out⟩
          · have HZ := hide (errC_one (l := shfL b xs) (by rw [HSL.out]; omega) (by rw [HSL.out]; omega) hs)
            have HZ0 := hide hs
            clear hs
            go_wp2_with (go_at_call 25; refine (rValidate_any _ _ _ (shfL b xs) _ HO2.out.row (by omega)).mono ?_; rintro e w6 ⟨rfl, b6⟩; rw [HZ.out]; have D6 := hide b6; clear b6)
            go_ret2
            exact ⟨none, 0, 0, by rw [HS.out, HZ.out]; rfl, by rw [HV.out]; unfold chkV; rw [if_neg HZ0.out]; exact Own.nil _ _ _ _, le_call HD.out D6.out⟩
    · have HF := hide (shf_far hb he hbf)
      clear he hv h
      go_enter Try.func53, Try.ntmps53
      go_wp2_with (first
        | (go_at_call 25; refine (rValidate_any _ _ _ xs _ HX.out (by omega)).mono ?_; rintro e w1 ⟨rfl, b1⟩; rw [HE.out]; have D1 := hide b1; clear b1)
        | (go_at_call 62; refine (within_any _ _ _ _).mono ?_; rintro e w2 ⟨rfl, rfl⟩; rw [hw]))
      go_ret2
      exact ⟨none, 0, 0, by rw [HS.out, HF.out]; rfl, by rw [HV.out]; unfold chkV; rw [if_neg (by rw [HF.out]; decide)]; exact Own.nil _ _ _ _, D1.out⟩
  · have hne : (errC xs != 0) = true := by simpa using he
    have HS := hide (show shfE b xs = errC xs from if_neg he)
    have HV := hide (show shfV b xs = [] from if_neg he)
    clear he h
    go_enter Try.func53, Try.ntmps53
    go_wp2_with (go_at_call 25; refine (rValidate_any _ _ _ xs _ HX.out (by omega)).mono ?_; rintro e w1 ⟨rfl, b1⟩; have D1 := hide b1; clear b1)
    go_ret2
    exact ⟨none, 0, 0, by rw [HS.out]; rfl, by rw [HV.out]; exact Own.nil _ _ _ _, D1.out⟩
set_option maxRecDepth 100000 in
set_option maxHeartbeats 4000000 in
theorem EchoShifts_walk (A : Option Addr) (n c : Nat) (xs : List Int) (b : Int) (w : World) (h : R E1 w A n c xs) (hb : (Lit.int .i64 b).wf = true) :
    Calls Try.prog 14 #[.slice A n c, .int .i64 b] w fun e w' => e = .returned (.bool true) ∧ Below w.heap.size w w' := by
  have HX := hide h
  have hm9 := h.le
  have HSL := hide (shfV_len b xs)
  clear h
  by_cases hn : 100 < n
  · have HLn := hide (show decide (100 < n) = true from by simpa using hn)
    go_enter Try.func14, Try.ntmps14
    go_wp2_with (first
      | (go_at_call 18; refine (Long1_any A n c w hm9).mono ?_; rintro e w1 ⟨rfl, b1⟩; have D1 := hide b1; clear b1; rw [HLn.out])
      | (go_at_call 19; refine (sane_any _).mono ?_; rintro e w2 ⟨rfl, b2⟩; have D2 := hide b2; clear b2))
    go_ret
    exact ⟨rfl, (le_call D1.out D2.out)⟩
  · have HLn := hide (show decide (100 < n) = false from by simpa using hn)
    by_cases hz : shfE b xs = 0
    · have HE0 := hide hz
      have HAK := hide (shf_alike hb hz)
      clear hz
      go_enter Try.func14, Try.ntmps14
      go_wp2_with (first
        | (go_at_call 18; refine (Long1_any A n c w hm9).mono ?_; rintro e w1 ⟨rfl, b1⟩; have D1 := hide b1; clear b1; rw [HLn.out])
        | (go_at_call 52; refine (Shift_any A n c xs b _ (HX.out.below D1.out (Nat.le_refl _)) (by omega)).mono ?_; rw [HE0.out]; rintro e w2 ⟨A2, n2, c2, rfl, o2, b2⟩; have D2 := hide b2; have O2 := hide o2; have HN2 := hide o2.len; clear o2 b2)
        | (go_at_call 53; refine (rShift_any A n c xs b _ ((HX.out.below D1.out (Nat.le_refl _)).below D2.out (Nat.le_refl _)) (by omega) hb).mono ?_; rw [HE0.out]; rintro e w3 ⟨A3, n3, c3, rfl, o3, b3⟩; have D3 := hide b3; have O3 := hide o3; have HN3 := hide o3.len; clear o3 b3)
        | (go_at_call 26; refine (SameInts_any A2 n2 c2 A3 n3 c3 (shfV b xs) (shfV b xs) _ (O2.out.row.below D3.out (Nat.le_refl _)) O3.out.row (by have h1 := HN2.out; have h2 := HSL.out; omega) (by have h1 := HN3.out; have h2 := HSL.out; omega)).mono ?_; rintro e w4 ⟨rfl, q4, hw4⟩; have D4 := hide (show Below w3.heap.size w3 w4 from by rw [hw4]; exact below_drewN (Below.refl _ _) q4); clear hw4; rw [beq_self_eq_true])
        | (go_at_call 31; refine (Alike_any A n c xs A2 n2 c2 (shfV b xs) _ ((((HX.out.below D1.out (Nat.le_refl _)).below D2.out (Nat.le_refl _)).below D3.out (Nat.le_refl _)).below D4.out (Nat.le_refl _)) ((O2.out.row.below D3.out (Nat.le_refl _)).below D4.out (Nat.le_refl _)) (by omega) (by have h1 := HN2.out; have h2 := HSL.out; omega)).mono ?_; rw [HAK.out.1, HAK.out.2]; rintro e w5 ⟨rfl, b5⟩; have D5 := hide b5; clear b5)
        | (go_at_call 19; refine (sane_any _).mono ?_; rintro e w6 ⟨rfl, b6⟩; have D6 := hide b6; clear b6))
      go_ret
      exact ⟨ret_bool (by simp), (le_call (le_call (le_call (le_call (le_call D1.out D2.out) D3.out) D4.out) D5.out) D6.out)⟩
    · have hne : (shfE b xs != 0) = true := by simpa using hz
      clear hz
      go_enter Try.func14, Try.ntmps14
      go_wp2_with (first
        | (go_at_call 18; refine (Long1_any A n c w hm9).mono ?_; rintro e w1 ⟨rfl, b1⟩; have D1 := hide b1; clear b1; rw [HLn.out])
        | (go_at_call 52; refine (Shift_any A n c xs b _ (HX.out.below D1.out (Nat.le_refl _)) (by omega)).mono ?_; rintro e w2 ⟨A2, n2, c2, rfl, o2, b2⟩; have D2 := hide b2; have O2 := hide o2; have HN2 := hide o2.len; clear o2 b2)
        | (go_at_call 53; refine (rShift_any A n c xs b _ ((HX.out.below D1.out (Nat.le_refl _)).below D2.out (Nat.le_refl _)) (by omega) hb).mono ?_; rintro e w3 ⟨A3, n3, c3, rfl, o3, b3⟩; have D3 := hide b3; have O3 := hide o3; have HN3 := hide o3.len; clear o3 b3)
        | (go_at_call 26; refine (SameInts_any A2 n2 c2 A3 n3 c3 (shfV b xs) (shfV b xs) _ (O2.out.row.below D3.out (Nat.le_refl _)) O3.out.row (by have h1 := HN2.out; have h2 := HSL.out; omega) (by have h1 := HN3.out; have h2 := HSL.out; omega)).mono ?_; rintro e w4 ⟨rfl, q4, hw4⟩; have D4 := hide (show Below w3.heap.size w3 w4 from by rw [hw4]; exact below_drewN (Below.refl _ _) q4); clear hw4; rw [beq_self_eq_true])
        | (go_at_call 19; refine (sane_any _).mono ?_; rintro e w5 ⟨rfl, b5⟩; have D5 := hide b5; clear b5))
      go_ret
      exact ⟨ret_bool (by simp), (le_call (le_call (le_call (le_call D1.out D2.out) D3.out) D4.out) D5.out)⟩
end Go.Proofs.Ytllfkhcpdgdmnaa
