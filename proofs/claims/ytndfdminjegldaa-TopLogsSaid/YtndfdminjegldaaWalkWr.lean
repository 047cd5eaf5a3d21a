/- Walks: the window, the document. -/
import Derived.Test.YtndfdminjegldaaWalkWi
import Derived.Deep.RegionHeld3
namespace Go.Proofs.Ytndfdminjegldaa
open Go.RowKit Go.Shelf
attribute [local go_sem] Oper.semAt_some

set_option maxRecDepth 100000 in
set_option maxHeartbeats 8000000 in
theorem rWindow_any (A : Option Addr) (n c : Nat) (xs : List Int) (A' : Option Addr) (n' c' : Nat) (ys : List Int) (o i h : Int) (w : World) (hx : R E1 w A n c xs) (hy : R E1 w A' n' c' ys) :
    Calls Try.prog 46 #[.slice A n c, .slice A' n' c', cV o i h] w (WinPost xs ys ⟨o, i, h⟩ w) := by
  have BX := hide ((Below.refl w.heap.size w).alloc (Nat.le_refl _) (.cells #[.int .i64 o, .int .i64 i, .int .i64 h] 24))
  have HBK := hide (Bk.born w 24 #[.int .i64 o, .int .i64 i, .int .i64 h])
  have HX := hide (hx.below BX.out (Nat.le_refl _))
  have HY := hide (hy.below BX.out (Nat.le_refl _))
  have HLX := hide hx.length
  have HLY := hide hy.length
  have hz : w.heap.size < (w.alloc (.cells #[.int .i64 o, .int .i64 i, .int .i64 h] 24)).heap.size := by simp
  by_cases he : errD xs ys ⟨o, i, h⟩ = 0
  · have HE := hide he
    have HV := hide (winV_ok he)
    rw [← win_last, HLY.out] at HV
    obtain ⟨h1, h2, h3⟩ := errD_ok.1 he
    have hn : n ≤ 10 := by rw [← hx.length]; exact (errL_ok.1 h1).1
    have hn' : n' ≤ 10 := by rw [← hy.length]; exact (errL_ok.1 h2).1
    obtain ⟨ho, hi, hh⟩ := h3
    simp only at ho hi hh
    have HS0 := hide (show winS xs ys ⟨o, i, h⟩ 0 = (0, 0, dist xs [] ⟨o, i, h⟩) from rfl)
    clear hx hy he h1 h2
    go_enter Try.func46, Try.ntmps46
    go_wp2_with (first
      | (go_at_call 57; refine (rcosted_any A n c xs A' n' c' ys o i h _ HX.out HY.out).mono ?_; rintro e1 w1 ⟨rfl, b1⟩; rw [HE.out]; have B1 := hide b1; clear b1; have k0 := (HBK.out.keep B1.out hz).at_ 0; have k1 := (HBK.out.keep B1.out hz).at_ 1; have k2 := (HBK.out.keep B1.out hz).at_ 2; simp at k0 k1 k2)
      | (go_at_call 62; refine (rdistance_any A n c xs none 0 0 [] o i h _ (HX.out.below B1.out (Nat.le_refl _)) (R.nil E1 _) hn (by omega) ho hi hh).mono ?_; rintro e2 w2 ⟨rfl, b2⟩; have B2 := hide (B1.out.trans (b2.mono B1.out.size)); clear b2))
    have BW := hide (BX.out.trans (B2.out.mono (Nat.le_of_lt hz)))
    have HX2 := hide (HX.out.below B2.out (Nat.le_refl _))
    have HY2 := hide (HY.out.below B2.out (Nat.le_refl _))
    have HBK2 := hide (HBK.out.keep B2.out hz)
    have hz2 : w.heap.size < w2.heap.size := Nat.lt_of_lt_of_le hz B2.out.size
    have hyc : n' ≤ c' := by obtain ⟨_, _, hr⟩ := HY2.out; exact hr.cap
    clear HX HY HBK BX B1 B2 hz k0 k1 k2
    obtain ⟨d0, hd0⟩ : ∃ d0, dist xs [] ⟨o, i, h⟩ = d0 := ⟨_, rfl⟩
    rw [hd0] at HS0
    rw [hd0]
    have HD0 := hide hd0
    clear hd0
    go_loopw [10, 11, 12, 13] (fun a10 a11 a12 a13 wr => ∃ a : Nat, a ≤ n' + 1 ∧ a10 = .int .i64 ((winS xs ys ⟨o, i, h⟩ a).1 : Nat) ∧ a11 = .int .i64 ((winS xs ys ⟨o, i, h⟩ a).2.1 : Nat) ∧ a12 = .int .i64 (winS xs ys ⟨o, i, h⟩ a).2.2 ∧ a13 = .int .i64 a ∧ Hid (Below w2.heap.size w2 wr)) (fun _ _ _ a13 _ => n' + 1 - (intOf a13).toNat)
    case atStart => exact ⟨0, Nat.zero_le _, by rw [HS0.out]; rfl, by rw [HS0.out]; rfl, by rw [HS0.out], rfl, hide (Below.refl _ _)⟩
    case round =>
      obtain ⟨a, ha, rfl, rfl, rfl, rfl, HB⟩ := hrel
      by_cases hla : a < n' + 1
      · have han : (a : Int) ≤ (n' : Int) := by omega
        have HSS := hide (show winS xs ys ⟨o, i, h⟩ (a + 1) = wrow (dWi xs ys ⟨o, i, h⟩) (winS xs ys ⟨o, i, h⟩ a) a (n' + 1 - a) from by unfold winS; rw [wall, HLY.out])
        generalize winS xs ys ⟨o, i, h⟩ a = S at *
        obtain ⟨s1, s2, s3⟩ := S
        dsimp only
        go_wp2_with fail
        go_loopg [10, 11, 12, 14] (n' + 1 - a) (fun gg a10 a11 a12 a14 wr => ∃ t : Nat, t ≤ n' + 1 - a ∧ n' + 1 - a - t ≤ gg ∧ a10 = .int .i64 ((wrow (dWi xs ys ⟨o, i, h⟩) (s1, s2, s3) a t).1 : Nat) ∧ a11 = .int .i64 ((wrow (dWi xs ys ⟨o, i, h⟩) (s1, s2, s3) a t).2.1 : Nat) ∧ a12 = .int .i64 (wrow (dWi xs ys ⟨o, i, h⟩) (s1, s2, s3) a t).2.2 ∧ a14 = .int .i64 (a + t : Nat) ∧ Hid (Below w2.heap.size w2 wr))
        case atStart => exact ⟨0, Nat.zero_le _, by omega, rfl, rfl, rfl, rfl, HB⟩
        case round =>
          clear HB
          obtain ⟨t, ht, hgg, rfl, rfl, rfl, rfl, HB⟩ := hrel
          by_cases hlt : t < n' + 1 - a
          · have htn : ((a + t : Nat) : Int) ≤ (n' : Int) := by omega
            have hz1 : ((a + t : Nat) : Int) - (a : Int) = (t : Int) := by omega
            have hz3 : (a : Int) ≤ ((a + t : Nat) : Int) := by omega
            have hz4 : ((a + t : Nat) : Int) ≤ (c' : Int) := by omega
            have HWL := hide (fun (hq : dWi xs ys ⟨o, i, h⟩ a (a + t) < (wrow (dWi xs ys ⟨o, i, h⟩) (s1, s2, s3) a t).2.2) => show wrow (dWi xs ys ⟨o, i, h⟩) (s1, s2, s3) a (t + 1) = (a, a + t, dWi xs ys ⟨o, i, h⟩ a (a + t)) from wst_less hq)
            have HWM := hide (fun (hq : ¬ dWi xs ys ⟨o, i, h⟩ a (a + t) < (wrow (dWi xs ys ⟨o, i, h⟩) (s1, s2, s3) a t).2.2) => show wrow (dWi xs ys ⟨o, i, h⟩) (s1, s2, s3) a (t + 1) = wrow (dWi xs ys ⟨o, i, h⟩) (s1, s2, s3) a t from wst_more hq)
            generalize wrow (dWi xs ys ⟨o, i, h⟩) (s1, s2, s3) a t = S at *
            obtain ⟨p1, p2, p3⟩ := S
            dsimp only at HWL HWM ⊢
            have HDU := hide (show dist xs ((ys.drop a).take t) ⟨o, i, h⟩ = dWi xs ys ⟨o, i, h⟩ a (a + t) from by unfold dWi; rw [Nat.add_sub_cancel_left])
            have hzr : w.heap.size < wr.heap.size := Nat.lt_of_lt_of_le hz2 HB.out.size
            go_upto_region 11 with fail
            go_cut [15] from 33 to 51 (fun a15 wx => a15 = .int .i64 (dWi xs ys ⟨o, i, h⟩ a (a + t)) ∧ Hid (Below w2.heap.size w2 wx))
            case first =>
              have kk0 := (HBK2.out.keep HB.out hz2).at_ 0
              have kk1 := (HBK2.out.keep HB.out hz2).at_ 1
              have kk2 := (HBK2.out.keep HB.out hz2).at_ 2
              simp at kk0 kk1 kk2
              have HXR := hide (show R E1 wr.drew A n c xs from (HX2.out.below HB.out (Nat.le_refl _)).drewN 1)
              rcases Nat.eq_zero_or_pos t with h0 | h0
              · subst h0
                have HNI := hide (show (ys.drop a).take 0 = [] from List.take_zero)
                rw [HNI.out] at HDU
                have e0 : ((a + 0 : Nat) : Int) = (a : Int) := by omega
                have hmc : c' ≤ 9223372036854775807 := by obtain ⟨_, _, hr⟩ := HY2.out; exact hr.max
                have hz7 : a ≤ c' := by omega
                have hz8 : (a : Int) ≤ (c' : Int) := by omega
                have hz10 : (a : Int) - (a : Int) = 0 := by omega
                have hz11 : a - a = 0 := by omega
                rw [e0] at hz1 hz3 hz4 htn
                rw [e0]
                cases A' with
                | none =>
                  go_region_held3 (fun w' => w'.cell? ⟨w.heap.size, 0, none⟩ = some (.int .i64 o) ∧ w'.cell? ⟨w.heap.size, 1, none⟩ = some (.int .i64 i) ∧ w'.cell? ⟨w.heap.size, 2, none⟩ = some (.int .i64 h))
                    (first
                      | go_keep
                      | (go_split_ands
                         refine ⟨?_, ?_, ?_⟩ <;> (rw [b8.cell (by simp; omega)]; assumption)))
                    (first
                      | (go_at_call 62; refine (rdistance_any A n c xs _ 0 _ [] o i h wr.drew HXR.out (R.none _ _ (by omega)) hn (by omega) ho hi hh).mono ?_; rw [HDU.out]; rintro e8 w8 ⟨rfl, b8⟩))
                  all_goals
                    go_wp2_with fail
                    go_meet
                    exact ⟨rfl, hide (HB.out.trans ((below_undrew b8).mono HB.out.size))⟩
                | some ad =>
                  by_cases hna : c' = a
                  · subst hna
                    have hca0 : c' - c' = 0 := by omega
                    go_region_held3 (fun w' => w'.cell? ⟨w.heap.size, 0, none⟩ = some (.int .i64 o) ∧ w'.cell? ⟨w.heap.size, 1, none⟩ = some (.int .i64 i) ∧ w'.cell? ⟨w.heap.size, 2, none⟩ = some (.int .i64 h))
                      (first
                        | go_keep
                        | (go_split_ands
                           refine ⟨?_, ?_, ?_⟩ <;> (rw [b8.cell (by simp; omega)]; assumption)))
                      (first
                        | (go_at_call 62; refine (rdistance_any A n c xs _ 0 _ [] o i h wr.drew HXR.out (R.none _ _ (by omega)) hn (by omega) ho hi hh).mono ?_; rw [HDU.out]; rintro e8 w8 ⟨rfl, b8⟩))
                    all_goals
                      go_wp2_with fail
                      go_meet
                      exact ⟨rfl, hide (HB.out.trans ((below_undrew b8).mono HB.out.size))⟩
                  · have hca1 : ¬ c' - a = 0 := by omega
                    go_region_held3 (fun w' => w'.cell? ⟨w.heap.size, 0, none⟩ = some (.int .i64 o) ∧ w'.cell? ⟨w.heap.size, 1, none⟩ = some (.int .i64 i) ∧ w'.cell? ⟨w.heap.size, 2, none⟩ = some (.int .i64 h))
                      (first
                        | go_keep
                        | (go_split_ands
                           refine ⟨?_, ?_, ?_⟩ <;> (rw [b8.cell (by simp; omega)]; assumption)))
                      (first
                        | (go_at_call 62; refine (rdistance_any A n c xs _ 0 _ [] o i h wr.drew HXR.out (R.none _ _ (by omega)) hn (by omega) ho hi hh).mono ?_; rw [HDU.out]; rintro e8 w8 ⟨rfl, b8⟩))
                    all_goals
                      go_wp2_with fail
                      go_meet
                      exact ⟨rfl, hide (HB.out.trans ((below_undrew b8).mono HB.out.size))⟩
              · obtain ⟨by', oy, hry⟩ := HY2.out.below HB.out (Nat.le_refl _)
                obtain rfl := hry.at_ (by omega)
                have hcy := hry.cap
                have hmy := hry.max
                have HYR := hide (show R E1 wr.drew (some ⟨by', oy + a, none⟩) t (c' - a) ((ys.drop a).take t) from ((hry.rest2 (t := a) (by omega)).front (t := t) (by omega)).drewN 1)
                have hna : ¬ c' = a := by omega
                have hz2' : a + t - a = t := by omega
                have hz5 : ¬ (a + t = a) := by omega
                have hz6 : a + t ≤ c' := by omega
                have hz7 : a ≤ c' := by omega
                have hz8 : (a : Int) + (t : Int) ≤ (c' : Int) := by omega
                have hz9 : (a : Int) ≤ (a : Int) + (t : Int) := by omega
                have hz10 : (a : Int) + (t : Int) - (a : Int) = (t : Int) := by omega
                have hz11 : (0 : Int) ≤ (t : Int) := by omega
                have hz12 : ((a : Int) + (t : Int)).toNat = a + t := by omega
                clear hry
                go_region_held3 (fun w' => w'.cell? ⟨w.heap.size, 0, none⟩ = some (.int .i64 o) ∧ w'.cell? ⟨w.heap.size, 1, none⟩ = some (.int .i64 i) ∧ w'.cell? ⟨w.heap.size, 2, none⟩ = some (.int .i64 h))
                  (first
                    | go_keep
                    | (go_split_ands
                       refine ⟨?_, ?_, ?_⟩ <;> (rw [b8.cell (by simp; omega)]; assumption)))
                  (first
                    | (go_at_call 62; refine (rdistance_any A n c xs _ t _ ((ys.drop a).take t) o i h wr.drew HXR.out HYR.out hn (by omega) ho hi hh).mono ?_; rw [HDU.out]; rintro e8 w8 ⟨rfl, b8⟩))
                all_goals
                  go_wp2_with fail
                  go_meet
                  exact ⟨rfl, hide (HB.out.trans ((below_undrew b8).mono HB.out.size))⟩
            case rest =>
            obtain ⟨rfl, HB2⟩ := hcut
            clear HB
            by_cases hq : dWi xs ys ⟨o, i, h⟩ a (a + t) < p3
            · have HW := hide (HWL.out hq)
              clear HWL HWM HDU
              generalize dWi xs ys ⟨o, i, h⟩ a (a + t) = u at *
              go_wp2_with fail
              go_roundg (n' + 1 - a - (t + 1))
              case measure => omega
              case rel => exact ⟨t + 1, by omega, by omega, by rw [HW.out], by rw [HW.out], by rw [HW.out], by first | rfl | go_num, HB2⟩
            · have hq2 : p3 ≤ dWi xs ys ⟨o, i, h⟩ a (a + t) := by omega
              have HW := hide (HWM.out hq)
              clear HWL HWM HDU hq
              generalize dWi xs ys ⟨o, i, h⟩ a (a + t) = u at *
              go_wp2_with fail
              go_roundg (n' + 1 - a - (t + 1))
              case measure => omega
              case rel => exact ⟨t + 1, by omega, by omega, by rw [HW.out], by rw [HW.out], by rw [HW.out], by first | rfl | go_num, HB2⟩
          · obtain rfl : t = n' + 1 - a := by omega
            have htn : (n' : Int) < ((a + (n' + 1 - a) : Nat) : Int) := by omega
            go_wp2_with fail
            go_roundw
            case rel => exact ⟨a + 1, by omega, by rw [HSS.out], by rw [HSS.out], by rw [HSS.out], by go_num, HB⟩
            case measure => simp [intOf]; omega
      · obtain rfl : a = n' + 1 := by omega
        have han : (n' : Int) < ((n' + 1 : Nat) : Int) := by omega
        go_wp2_with fail
        refine bodyPost_ret (v := .tuple #[.int .i64 ((winS xs ys ⟨o, i, h⟩ (n' + 1)).1 : Nat), .int .i64 ((winS xs ys ⟨o, i, h⟩ (n' + 1)).2.1 : Nat), .int .i64 0]) ?_ rfl ⟨by rw [HV.out, HE.out], BW.out.trans (HB.out.mono (Nat.le_of_lt hz2))⟩
        simp [results, Try.results46, go_sem]
  · have HV := hide (winV_no he)
    have hne : (errD xs ys ⟨o, i, h⟩ != 0) = true := by simpa using he
    clear hx hy he
    go_enter Try.func46, Try.ntmps46
    go_wp2_with (go_at_call 57; refine (rcosted_any A n c xs A' n' c' ys o i h _ HX.out HY.out).mono ?_; rintro e1 w1 ⟨rfl, b1⟩; have B1 := hide b1; clear b1)
    refine bodyPost_ret (v := .tuple #[.int .i64 0, .int .i64 0, .int .i64 (errD xs ys ⟨o, i, h⟩)]) ?_ rfl ⟨by rw [HV.out], le_call BX.out B1.out⟩
    simp [results, Try.results46, go_sem]
end Go.Proofs.Ytndfdminjegldaa
