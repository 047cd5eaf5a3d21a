/- The walk of TopWatches. -/
import Derived.Test.YtpkjgnllkaafkaaWalkKe
import Derived.Test.YtpkjgnllkaafkaaWalkCw
namespace Go.Proofs.Ytpkjgnllkaafkaa
open Go.RowKit

theorem peak_run {xs : Ls} (he : errV xs = 0) : errRun xs (peak xs).1 = 0 ∧ (runV xs (peak xs).1).length = (peak xs).2 := by
  have hpk := scan_pk (cnt xs) (moms 1001) (moms_sorted _)
  have hp : peak xs = scan (cnt xs) (moms 1001) := by unfold peak; rw [if_pos he]
  rw [hp]
  have hr : errRun xs (scan (cnt xs) (moms 1001)).1 = 0 := by
    unfold errRun
    rw [if_pos he]
    rcases hpk.at_ with ⟨_, h0⟩ | ⟨_, h1, _, _⟩
    · rw [h0]; rfl
    · have := mem_moms.1 h1
      rw [if_pos (by omega)]
  refine ⟨hr, ?_⟩
  rw [runV_ok hr, runIx_len]
  rcases hpk.at_ with ⟨h0, h1⟩ | ⟨_, _, h1, _⟩
  · have := hpk.top 0 (mem_moms.2 (by omega))
    rw [h1]; omega
  · exact h1
set_option maxHeartbeats 400000 in
theorem Long2_any (A : Option Addr) (n c g : Nat) (A' : Option Addr) (n' c' : Nat) (A2 : Option Addr) (n2 c2 : Nat) (w : World) (hc : w.cell? ⟨g, 0, none⟩ = some (.slice A' n' c')) (hc2 : w.cell? ⟨g, 1, none⟩ = some (.slice A2 n2 c2)) (hg : g < w.heap.size) (b : Bool) (hb : (decide (100 < n') || decide (100 < n2) || decide (50 < n)) = b) :
    Calls Try.prog 19 #[.slice A n c, .slice (some ⟨g, 0, none⟩) 2 2] w (LongPost b w) := by
  have HB := hide hb
  clear hb
  go_enter Try.func19, Try.ntmps19
  go_wp2_with fail
  go_loopw [5] (fun i wr => ∃ k : Nat, k ≤ 2 ∧ i = .int .i64 k ∧ w = wr ∧ (1 ≤ k → ¬ 100 < n') ∧ (2 ≤ k → ¬ 100 < n2)) (fun i _ => 2 - (intOf i).toNat)
  case atStart => exact ⟨0, by omega, rfl, rfl, fun h => by omega, fun h => by omega⟩
  case round =>
    obtain ⟨k, hk, rfl, rfl, h1, h2⟩ := hrel
    by_cases hk0 : k = 0
    · subst hk0
      by_cases hbig : 100 < n'
      · have hbig' : (100 : Int) < (n' : Int) := by omega
        clear h1 h2
        go_wp2_with fail
        all_goals first
          | omega
          | (go_ret; exact ⟨ret_bool (by rw [← HB.out]; simp; omega), rfl⟩)
      · have hbig' : ¬ (100 : Int) < (n' : Int) := by omega
        clear h1 h2
        go_wp2_with fail
        all_goals first
          | omega
          | (go_roundw
             case rel => exact ⟨1, by omega, by go_num, trivial, fun _ => hbig, fun h => by omega⟩
             case measure => simp [intOf])
    · by_cases hk1 : k = 1
      · subst hk1
        have h1' := h1 (by omega)
        by_cases hbig : 100 < n2
        · have hbig' : (100 : Int) < (n2 : Int) := by omega
          clear h1 h2
          go_wp2_with fail
          all_goals first
            | omega
            | (go_ret; exact ⟨ret_bool (by rw [← HB.out]; simp; omega), rfl⟩)
        · have hbig' : ¬ (100 : Int) < (n2 : Int) := by omega
          clear h1 h2
          go_wp2_with fail
          all_goals first
            | omega
            | (go_roundw
               case rel => exact ⟨2, by omega, by go_num, trivial, fun _ => h1', fun _ => hbig⟩
               case measure => simp [intOf])
      · obtain rfl : k = 2 := by omega
        have h3 := h1 (by omega)
        have h4 := h2 (by omega)
        clear h1 h2
        go_wp2_with fail
        go_ret
        exact ⟨ret_bool (by rw [← HB.out]; simp [h3, h4] <;> omega), rfl⟩
def twoL : Ls := [(3, 5, 0), (4, 9, 0)]
theorem two_ok : errV twoL = 0 ∧ covV twoL = 6 := by decide +kernel
def bestL (xs : Ls) : Int := best lenI (setsTo xs xs.length)
theorem bestL_chosen {xs : Ls} (he : errV xs = 0) {L : Ns} {J : List Int} (hL : Ord kt (ones xs) L) (hJ : Chosen (ones xs) L J) : (J.length : Int) = bestL xs ∧ Asc xs.length J ∧ Alone (pick xs J) := by
  obtain ⟨h1, h2, h3⟩ := best_len he hL hJ
  exact ⟨h1.symm, h2, h3⟩

set_option maxRecDepth 100000 in
set_option maxHeartbeats 4000000 in
theorem TopWatches_walk (A : Option Addr) (n c : Nat) (xs : Ls) (A' : Option Addr) (n' c' : Nat) (r : List Int) (A2 : Option Addr) (n2 c2 : Nat) (I : List Int) (w : World) (h : R E3 w A n c xs) (h' : R E1 w A' n' c' r) (h2 : R E1 w A2 n2 c2 I) :
    Calls Try.prog 18 #[.slice A n c, .slice A' n' c', .slice A2 n2 c2] w fun e w' => e = .returned (.bool true) ∧ Below w.heap.size w w' := by
  have HLX := hide h.length
  have HX := hide h
  have HR := hide h'
  have HM := hide h2
  clear h h' h2
  have RT := hide (show R E3 (w.alloc (.cells #[.int .i64 3, .int .i64 5, .int .i64 0, .int .i64 4, .int .i64 9, .int .i64 0] 57)) (some ⟨w.heap.size, 0, none⟩) 2 2 twoL from (Own.lit (E := E3) (e := 57) w twoL (Nat.le_refl w.heap.size) (by unfold maxLen; simp [twoL])).row)
  have B0 := hide ((Below.refl w.heap.size w).alloc (Nat.le_refl _) (.cells #[.int .i64 3, .int .i64 5, .int .i64 0, .int .i64 4, .int .i64 9, .int .i64 0] 57))
  by_cases hn : 100 < n' ∨ 100 < n2 ∨ 50 < n
  · have hb : (decide (100 < n') || decide (100 < n2) || decide (50 < n)) = true := by simp only [Bool.or_eq_true, decide_eq_true_eq]; omega
    have HB := hide hb
    clear hb hn
    go_enter Try.func18, Try.ntmps18
    go_wp2_with fail
    refine (Covered_any _ _ _ twoL _ RT.out (by omega)).mono ?_
    rintro e w1 ⟨rfl, b1⟩
    rw [two_ok.1, two_ok.2]
    have B1 := hide (B0.out.trans (b1.mono B0.out.size))
    clear b1
    have K1 := hide (Bk.born w1 30 #[.slice A' n' c', .slice A2 n2 c2])
    go_wp2_with fail
    refine (Long2_any _ _ _ _ _ _ _ _ _ _ _ (K1.out.at_ 0) (K1.out.at_ 1) (by simp) _ HB.out).mono ?_
    rintro e w' ⟨rfl, rfl⟩
    go_wp2_with fail
    go_ret
    exact ⟨rfl, B1.out.alloc B1.out.size _⟩
  · have hb : (decide (100 < n') || decide (100 < n2) || decide (50 < n)) = false := by simp only [Bool.or_eq_false_iff, decide_eq_false_iff_not]; omega
    have HB := hide hb
    have hn2 : n ≤ 1000 := by omega
    have hn3 : n' ≤ 1000 := by omega
    have hn4 : n2 ≤ 1000 := by omega
    clear hb hn
    go_enter Try.func18, Try.ntmps18
    go_wp2_with fail
    refine (Covered_any _ _ _ twoL _ RT.out (by omega)).mono ?_
    rintro e w1 ⟨rfl, b1⟩
    rw [two_ok.1, two_ok.2]
    have B1 := hide (B0.out.trans (b1.mono B0.out.size))
    clear b1
    have K1 := hide (Bk.born w1 30 #[.slice A' n' c', .slice A2 n2 c2])
    have B2 := hide (B1.out.alloc B1.out.size (.cells #[.slice A' n' c', .slice A2 n2 c2] 30))
    go_wp2_with fail
    refine (Long2_any _ _ _ _ _ _ _ _ _ _ _ (K1.out.at_ 0) (K1.out.at_ 1) (by simp) _ HB.out).mono ?_
    rintro e w' ⟨rfl, rfl⟩
    clear K1 B1 B0 RT
    by_cases he : errV xs = 0
    · have HE := hide he
      have HOK := hide (errV_ok.1 he).2
      have HPR := hide (peak_run he)
      clear he
      go_wp2_with fail
      refine (Peak_any _ _ _ xs _ (HX.out.below B2.out (Nat.le_refl _)) hn2).mono ?_
      rintro e w3 ⟨rfl, b3⟩
      rw [HE.out]
      have B3 := hide (B2.out.trans (b3.mono B2.out.size))
      clear b3
      go_wp2_with fail
      refine (Roster_any _ _ _ xs _ (HX.out.below B3.out (Nat.le_refl _)) hn2).mono ?_
      rintro e w4 ⟨A4, n4, c4, ro, rfl, hro, _, o4, b4⟩
      rw [HE.out]
      have HRO := hide (roster_right HE.out (hro HE.out))
      have hn5 : n4 ≤ 1000 := by have h1 := (hro HE.out).1; have h2 := o4.len; have h3 := HLX.out; omega
      have ORO := hide o4
      have B4 := hide (B3.out.trans (b4.mono B3.out.size))
      clear b4
      clear hro o4
      go_wp2_with fail
      refine (Alone_any _ _ _ xs _ (HX.out.below B4.out (Nat.le_refl _)) hn2).mono ?_
      rintro e w5 ⟨A5, n5, c5, J, rfl, hJ, _, o5, b5⟩
      rw [HE.out]
      obtain ⟨LJ, hLJ, hCJ⟩ := hJ HE.out
      have HJB := hide (bestL_chosen HE.out hLJ hCJ)
      have HCJ := hide hCJ
      have hn6 : n5 ≤ 1000 := by have h1 := asc_len HJB.out.2.1; have h2 := o5.len; have h3 := HLX.out; omega
      have HNJ := hide (show (n5 : Int) = bestL xs by rw [← HJB.out.1, o5.len])
      have ORO5 := hide (ORO.out.below b5 (Nat.le_refl _))
      have OJ := hide o5
      have B5 := hide (B4.out.trans (b5.mono B4.out.size))
      clear b5
      clear hJ hLJ hCJ o5 ORO
      go_wp2_with fail
      refine (Moments_any _ _ _ xs _ (HX.out.below B5.out (Nat.le_refl _)) hn2).mono ?_
      rintro e w6 ⟨A6, n6, c6, M, rfl, hM, _, o6, b6⟩
      rw [HE.out]
      obtain ⟨ml, hml, hMe⟩ := hM HE.out
      have HMR := hide (moments_right HE.out hml)
      rw [← hMe] at HMR
      have hn7 : n6 ≤ 1000 := by have h1 := (psts_len (errV_ones HE.out) hml).1; have h2 := o6.len; have h3 := HLX.out; rw [ones_len] at h1; rw [hMe, List.length_map] at h2; omega
      have ORO6 := hide (ORO5.out.below b6 (Nat.le_refl _))
      have OJ6 := hide (OJ.out.below b6 (Nat.le_refl _))
      have OM := hide o6
      have B6 := hide (B5.out.trans (b6.mono B5.out.size))
      clear b6
      clear hM hml hMe o6 ORO5 OJ
      go_wp2_with fail
      refine (Earn_any _ _ _ xs _ (HX.out.below B6.out (Nat.le_refl _)) hn2).mono ?_
      rintro e w7 ⟨A7, n7, c7, K, rfl, hK, _, o7, b7⟩
      rw [HE.out]
      obtain ⟨LK, hLK, hCK⟩ := hK HE.out
      have HKB := hide (earns_best HOK.out hLK hCK)
      have HKA := hide (And.intro hCK.asc hCK.alone)
      have hn8 : n7 ≤ 1000 := by have h1 := asc_len hCK.asc; have h2 := o7.len; have h3 := HLX.out; omega
      have HNK := hide o7.len
      have ORO7 := hide (ORO6.out.below b7 (Nat.le_refl _))
      have OJ7 := hide (OJ6.out.below b7 (Nat.le_refl _))
      have OM7 := hide (OM.out.below b7 (Nat.le_refl _))
      have OK7 := hide o7
      have B7 := hide (B6.out.trans (b7.mono B6.out.size))
      clear b7
      clear hK hLK hCK o7 ORO6 OJ6 OM
      go_wp2_with fail
      refine (Posts_any _ _ _ xs _ (HX.out.below B7.out (Nat.le_refl _)) hn2).mono ?_
      rintro e w8 ⟨A8, n8, c8, ps, rfl, hps, _, o8, b8⟩
      rw [HE.out]
      have HPS := hide (pays_right HE.out (hps HE.out))
      have hn9 : n8 ≤ 1000 := by have h1 := (psts_len HE.out (hps HE.out)).1; have h2 := o8.len; have h3 := HLX.out; omega
      have ORO8 := hide (ORO7.out.below b8 (Nat.le_refl _))
      have OJ8 := hide (OJ7.out.below b8 (Nat.le_refl _))
      have OM8 := hide (OM7.out.below b8 (Nat.le_refl _))
      have OK8 := hide (OK7.out.below b8 (Nat.le_refl _))
      have OP8 := hide o8
      have B8 := hide (B7.out.trans (b8.mono B7.out.size))
      clear b8
      clear hps o8 ORO7 OJ7 OM7 OK7
      have HRL := hide HPR.out.2
      have HRE := hide HPR.out.1
      have HPKS := hide (fun hh : rosE xs r = 0 => (ros_peak hh).2)
      have HLW := hide (fun hh : errM xs I = 0 => looks_weak hh HCJ.out)
      have HKJ := hide (show (n7 : Int) ≤ (n5 : Int) by
        have h1 := (best_spec lenI _ (setsTo xs xs.length) rfl).1 K (mem_setsTo.2 HKA.out)
        have h2 := HNJ.out
        unfold bestL at h2
        unfold lenI at h1
        rw [HNK.out] at h1
        unfold lenI at h2
        omega)
      have HPJ := hide (show payI xs J ≤ payI xs K by
        rw [← HKB.out]
        exact (best_spec (payI xs) _ (setsTo xs xs.length) rfl).1 J (mem_setsTo.2 HJB.out.2))
      have HSJ := hide (set_right HE.out HJB.out.2.1 HJB.out.2.2)
      have HSK := hide (set_right HE.out HKA.out.1 HKA.out.2)
      have HJR := hide (show ∀ x ∈ J, 0 ≤ x ∧ x < n from fun x hx => by have := HJB.out.2.1.rng x hx; have h3 := HLX.out; omega)
      go_wp2_with fail
      refine (Running_any _ _ _ xs _ _ (HX.out.below B8.out (Nat.le_refl _)) hn2).mono ?_
      rintro e w9 ⟨A9, n9, c9, rfl, o9, b9⟩
      rw [HRE.out]
      have hl9 : n9 = (peak xs).2 := by rw [← HRL.out, ← o9.len]
      have ORO9 := hide (ORO8.out.below b9 (Nat.le_refl _))
      have OJ9 := hide (OJ8.out.below b9 (Nat.le_refl _))
      have OM9 := hide (OM8.out.below b9 (Nat.le_refl _))
      have OK9 := hide (OK8.out.below b9 (Nat.le_refl _))
      have OP9 := hide (OP8.out.below b9 (Nat.le_refl _))
      have B9 := hide (B8.out.trans (b9.mono B8.out.size))
      clear b9
      clear o9 ORO8 OJ8 OM8 OK8 OP8
      subst hl9
      go_wp2_with fail
      refine (CheckRoster_any _ _ _ xs _ _ _ ro _ (HX.out.below B9.out (Nat.le_refl _)) hn2 ORO9.out.row hn5).mono ?_
      rintro e w10 ⟨rfl, b10⟩
      rw [HRO.out.1, HRO.out.2]
      have OJ10 := hide (OJ9.out.below b10 (Nat.le_refl _))
      have OM10 := hide (OM9.out.below b10 (Nat.le_refl _))
      have OK10 := hide (OK9.out.below b10 (Nat.le_refl _))
      have OP10 := hide (OP9.out.below b10 (Nat.le_refl _))
      have B10 := hide (B9.out.trans (b10.mono B9.out.size))
      clear b10
      clear ORO9 OJ9 OM9 OK9 OP9
      go_wp2_with fail
      refine (CheckAlone_any _ _ _ xs _ _ _ J _ (HX.out.below B10.out (Nat.le_refl _)) hn2 OJ10.out.row hn6).mono ?_
      rintro e w11 ⟨rfl, b11⟩
      rw [HSJ.out.1, HSJ.out.2, HJB.out.1]
      have OJ11 := hide (OJ10.out.below b11 (Nat.le_refl _))
      have OM11 := hide (OM10.out.below b11 (Nat.le_refl _))
      have OK11 := hide (OK10.out.below b11 (Nat.le_refl _))
      have OP11 := hide (OP10.out.below b11 (Nat.le_refl _))
      have B11 := hide (B10.out.trans (b11.mono B10.out.size))
      clear b11
      clear OJ10 OM10 OK10 OP10
      go_wp2_with fail
      refine (CheckMoments_any _ _ _ xs _ _ _ M _ (HX.out.below B11.out (Nat.le_refl _)) hn2 OM11.out.row hn7).mono ?_
      rintro e w12 ⟨rfl, b12⟩
      rw [HMR.out.1, HMR.out.2]
      have OJ12 := hide (OJ11.out.below b12 (Nat.le_refl _))
      have OK12 := hide (OK11.out.below b12 (Nat.le_refl _))
      have OP12 := hide (OP11.out.below b12 (Nat.le_refl _))
      have B12 := hide (B11.out.trans (b12.mono B11.out.size))
      clear b12
      clear OJ11 OM11 OK11 OP11
      go_wp2_with fail
      refine (CheckAlone_any _ _ _ xs _ _ _ K _ (HX.out.below B12.out (Nat.le_refl _)) hn2 OK12.out.row hn8).mono ?_
      rintro e w13 ⟨rfl, b13⟩
      rw [HSK.out.1]
      have OJ13 := hide (OJ12.out.below b13 (Nat.le_refl _))
      have OP13 := hide (OP12.out.below b13 (Nat.le_refl _))
      have B13 := hide (B12.out.trans (b13.mono B12.out.size))
      clear b13
      clear OJ12 OK12 OP12
      go_wp2_with fail
      refine (CheckPosts_any _ _ _ xs _ _ _ ps _ (HX.out.below B13.out (Nat.le_refl _)) hn2 OP13.out.row hn9).mono ?_
      rintro e w14 ⟨rfl, b14⟩
      rw [HPS.out.1, HPS.out.2]
      have OJ14 := hide (OJ13.out.below b14 (Nat.le_refl _))
      have B14 := hide (B13.out.trans (b14.mono B13.out.size))
      clear b14
      clear OJ13 OP13
      have HBK := hide (show best (payI xs) (setsTo xs xs.length) = payI xs K from HKB.out)
      rw [HBK.out]
      have HBLL := hide (show best lenI (setsTo xs xs.length) = bestL xs from rfl)
      rw [HBLL.out]
      have HLW2 := hide (fun hh : errM xs I = 0 => show bestL xs ≤ lenM xs I by rw [← HJB.out.1]; exact HLW.out hh)
      clear HLW HPR HRL HRE HRO HPS HMR HSJ HSK HKB HBK HBLL
      generalize peak xs = pk at *
      obtain ⟨pk1, pk2⟩ := pk
      dsimp only at *
      go_wp2_with fail
      refine (CheckRoster_any _ _ _ xs _ _ _ r _ (HX.out.below B14.out (Nat.le_refl _)) hn2 (HR.out.below B14.out (Nat.le_refl _)) hn3).mono ?_
      rintro e w15 ⟨rfl, b15⟩
      have OJ15 := hide (OJ14.out.below b15 (Nat.le_refl _))
      have B15 := hide (B14.out.trans (b15.mono B14.out.size))
      clear b15
      clear OJ14
      by_cases hr : rosE xs r = 0
      · have hle2 := HPKS.out hr
        rw [hr]
        clear hr
        generalize rosV xs r = rv at *
        go_wp2_with fail
        refine (CheckMoments_any _ _ _ xs _ _ _ I _ (HX.out.below B15.out (Nat.le_refl _)) hn2 (HM.out.below B15.out (Nat.le_refl _)) hn4).mono ?_
        rintro e w18 ⟨rfl, b18⟩
        have HJ18 := hide (OJ15.out.below b18 (Nat.le_refl _))
        have B18 := hide (B15.out.trans (b18.mono B15.out.size))
        clear b18
        by_cases hm : errM xs I = 0
        · have hle := HLW2.out hm
          rw [hm]
          clear hm
          generalize lenM xs I = lm at *
          generalize bestL xs = bl at *
          go_wp2_with fail
          refine (Spells_any _ _ _ xs _ (HX.out.below B18.out (Nat.le_refl _)) hn2).mono ?_
          rintro e w19 ⟨A19, n19, c19, P, rfl, hP, _, o19, b19⟩
          rw [HE.out]
          have HP := hide (hP HE.out)
          have O19 := hide o19
          have HJ19 := hide (HJ18.out.below b19 (Nat.le_refl _))
          have B19 := hide (B18.out.trans (b19.mono B18.out.size))
          clear b19
          clear hP o19
          go_wp2_with fail
          refine (Covered_any _ _ _ xs _ (HX.out.below B19.out (Nat.le_refl _)) hn2).mono ?_
          rintro e w20 ⟨rfl, b20⟩
          rw [HE.out]
          have O20 := hide (O19.out.below b20 (Nat.le_refl _))
          have HJ20 := hide (HJ19.out.below b20 (Nat.le_refl _))
          have B20 := hide (B19.out.trans (b20.mono B19.out.size))
          clear b20
          clear O19
          have HL20 := hide O20.out.len
          have hn20 : n19 ≤ 12 := by have h1 := HP.out.len; have h2 := HL20.out; have h3 := HLX.out; have h4 := errV_le HE.out; omega
          have HSUM := hide (show lenTo P n19 = covV xs by rw [lenTo_all HL20.out, HP.out.sum, covV_ok HE.out])
          generalize covV xs = cv at *
          go_wp2_with fail
          go_loopw [26, 33] (fun a i wr => ∃ k q : Nat, k ≤ n19 ∧ i = .int .i64 k ∧ a = .int .i64 (lenTo P k) ∧ wr = w20.drewN q) (fun _ i _ => n19 - (intOf i).toNat)
          case atStart => exact ⟨0, 0, Nat.zero_le _, rfl, by rw [lenTo_zero], rfl⟩
          case round =>
            obtain ⟨k, q, hk, rfl, rfl, rfl⟩ := hrel
            by_cases hlt : k < n19
            · obtain ⟨g, rfl, hg1, hg2, hg3, hg4⟩ := O20.out.addr (by omega)
              have hg4' : c19 ≤ 9223372036854775807 := hg4
              obtain ⟨a1, a2, a3⟩ := own3 O20.out hlt
              have HS := hide (@lenTo_succ P k (by rw [HL20.out]; exact hlt))
              have hb := lenTo_bd HP.out.gap k
              have hy := gap_get HP.out.gap (k := k) (by rw [HL20.out]; exact hlt)
              generalize lenTo P k = z at *
              generalize P.getD k sh0 = y at *
              obtain ⟨y1, y2, y3⟩ := y
              dsimp only at *
              clear hg4
              have i1 : (k : Int) < (n19 : Int) := by omega
              have hw1 : IntKind.i64.wrap (y2 - y1) = y2 - y1 := IntWalk.i64_in _ (by omega)
              have hw2 : IntKind.i64.wrap (z + (y2 - y1)) = z + (y2 - y1) := IntWalk.i64_in _ (by omega)
              go_wp2_with fail
              go_quiet (fail)
              go_wp2_with fail
              go_roundw
              case rel => exact ⟨k + 1, q + nq, by omega, by go_num, by rw [HS.out], by first | rfl | (rw [World.drewN_drewN])⟩
              case measure => simp [intOf]; omega
            · obtain rfl : k = n19 := by omega
              rw [HSUM.out]
              go_wp2_with (first
                | (go_at_call 37; refine (rPay_any _ _ _ xs _ _ _ J _ (HX.out.below (below_drewN B20.out q) (Nat.le_refl _)) HOK.out (HJ20.out.drewN q).row (by omega) HJR.out).mono ?_; rintro e w21 ⟨rfl, rfl⟩))
              go_ret
              exact ⟨(show Ending.returned (.bool (decide (n7 ≤ n5))) = .returned (.bool true) from ret_bool (decide_eq_true (by have := HKJ.out; omega))), below_drewN B20.out q⟩
        · have hmne : (errM xs I == 0) = false := by simpa using hm
          clear hm HLW2
          generalize errM xs I = em at *
          generalize lenM xs I = lm at *
          generalize bestL xs = bl at *
          go_wp2_with fail
          refine (Spells_any _ _ _ xs _ (HX.out.below B18.out (Nat.le_refl _)) hn2).mono ?_
          rintro e w19 ⟨A19, n19, c19, P, rfl, hP, _, o19, b19⟩
          rw [HE.out]
          have HP := hide (hP HE.out)
          have O19 := hide o19
          have HJ19 := hide (HJ18.out.below b19 (Nat.le_refl _))
          have B19 := hide (B18.out.trans (b19.mono B18.out.size))
          clear b19
          clear hP o19
          go_wp2_with fail
          refine (Covered_any _ _ _ xs _ (HX.out.below B19.out (Nat.le_refl _)) hn2).mono ?_
          rintro e w20 ⟨rfl, b20⟩
          rw [HE.out]
          have O20 := hide (O19.out.below b20 (Nat.le_refl _))
          have HJ20 := hide (HJ19.out.below b20 (Nat.le_refl _))
          have B20 := hide (B19.out.trans (b20.mono B19.out.size))
          clear b20
          clear O19
          have HL20 := hide O20.out.len
          have hn20 : n19 ≤ 12 := by have h1 := HP.out.len; have h2 := HL20.out; have h3 := HLX.out; have h4 := errV_le HE.out; omega
          have HSUM := hide (show lenTo P n19 = covV xs by rw [lenTo_all HL20.out, HP.out.sum, covV_ok HE.out])
          generalize covV xs = cv at *
          go_wp2_with fail
          go_loopw [26, 33] (fun a i wr => ∃ k q : Nat, k ≤ n19 ∧ i = .int .i64 k ∧ a = .int .i64 (lenTo P k) ∧ wr = w20.drewN q) (fun _ i _ => n19 - (intOf i).toNat)
          case atStart => exact ⟨0, 0, Nat.zero_le _, rfl, by rw [lenTo_zero], rfl⟩
          case round =>
            obtain ⟨k, q, hk, rfl, rfl, rfl⟩ := hrel
            by_cases hlt : k < n19
            · obtain ⟨g, rfl, hg1, hg2, hg3, hg4⟩ := O20.out.addr (by omega)
              have hg4' : c19 ≤ 9223372036854775807 := hg4
              obtain ⟨a1, a2, a3⟩ := own3 O20.out hlt
              have HS := hide (@lenTo_succ P k (by rw [HL20.out]; exact hlt))
              have hb := lenTo_bd HP.out.gap k
              have hy := gap_get HP.out.gap (k := k) (by rw [HL20.out]; exact hlt)
              generalize lenTo P k = z at *
              generalize P.getD k sh0 = y at *
              obtain ⟨y1, y2, y3⟩ := y
              dsimp only at *
              clear hg4
              have i1 : (k : Int) < (n19 : Int) := by omega
              have hw1 : IntKind.i64.wrap (y2 - y1) = y2 - y1 := IntWalk.i64_in _ (by omega)
              have hw2 : IntKind.i64.wrap (z + (y2 - y1)) = z + (y2 - y1) := IntWalk.i64_in _ (by omega)
              go_wp2_with fail
              go_quiet (fail)
              go_wp2_with fail
              go_roundw
              case rel => exact ⟨k + 1, q + nq, by omega, by go_num, by rw [HS.out], by first | rfl | (rw [World.drewN_drewN])⟩
              case measure => simp [intOf]; omega
            · obtain rfl : k = n19 := by omega
              rw [HSUM.out]
              go_wp2_with (first
                | (go_at_call 37; refine (rPay_any _ _ _ xs _ _ _ J _ (HX.out.below (below_drewN B20.out q) (Nat.le_refl _)) HOK.out (HJ20.out.drewN q).row (by omega) HJR.out).mono ?_; rintro e w21 ⟨rfl, rfl⟩))
              go_ret
              exact ⟨(show Ending.returned (.bool (decide (n7 ≤ n5))) = .returned (.bool true) from ret_bool (decide_eq_true (by have := HKJ.out; omega))), below_drewN B20.out q⟩
      · have hrne : (rosE xs r == 0) = false := by simpa using hr
        clear hr HPKS
        generalize rosE xs r = re at *
        generalize rosV xs r = rv at *
        go_wp2_with fail
        refine (CheckMoments_any _ _ _ xs _ _ _ I _ (HX.out.below B15.out (Nat.le_refl _)) hn2 (HM.out.below B15.out (Nat.le_refl _)) hn4).mono ?_
        rintro e w18 ⟨rfl, b18⟩
        have HJ18 := hide (OJ15.out.below b18 (Nat.le_refl _))
        have B18 := hide (B15.out.trans (b18.mono B15.out.size))
        clear b18
        by_cases hm : errM xs I = 0
        · have hle := HLW2.out hm
          rw [hm]
          clear hm
          generalize lenM xs I = lm at *
          generalize bestL xs = bl at *
          go_wp2_with fail
          refine (Spells_any _ _ _ xs _ (HX.out.below B18.out (Nat.le_refl _)) hn2).mono ?_
          rintro e w19 ⟨A19, n19, c19, P, rfl, hP, _, o19, b19⟩
          rw [HE.out]
          have HP := hide (hP HE.out)
          have O19 := hide o19
          have HJ19 := hide (HJ18.out.below b19 (Nat.le_refl _))
          have B19 := hide (B18.out.trans (b19.mono B18.out.size))
          clear b19
          clear hP o19
          go_wp2_with fail
          refine (Covered_any _ _ _ xs _ (HX.out.below B19.out (Nat.le_refl _)) hn2).mono ?_
          rintro e w20 ⟨rfl, b20⟩
          rw [HE.out]
          have O20 := hide (O19.out.below b20 (Nat.le_refl _))
          have HJ20 := hide (HJ19.out.below b20 (Nat.le_refl _))
          have B20 := hide (B19.out.trans (b20.mono B19.out.size))
          clear b20
          clear O19
          have HL20 := hide O20.out.len
          have hn20 : n19 ≤ 12 := by have h1 := HP.out.len; have h2 := HL20.out; have h3 := HLX.out; have h4 := errV_le HE.out; omega
          have HSUM := hide (show lenTo P n19 = covV xs by rw [lenTo_all HL20.out, HP.out.sum, covV_ok HE.out])
          generalize covV xs = cv at *
          go_wp2_with fail
          go_loopw [26, 33] (fun a i wr => ∃ k q : Nat, k ≤ n19 ∧ i = .int .i64 k ∧ a = .int .i64 (lenTo P k) ∧ wr = w20.drewN q) (fun _ i _ => n19 - (intOf i).toNat)
          case atStart => exact ⟨0, 0, Nat.zero_le _, rfl, by rw [lenTo_zero], rfl⟩
          case round =>
            obtain ⟨k, q, hk, rfl, rfl, rfl⟩ := hrel
            by_cases hlt : k < n19
            · obtain ⟨g, rfl, hg1, hg2, hg3, hg4⟩ := O20.out.addr (by omega)
              have hg4' : c19 ≤ 9223372036854775807 := hg4
              obtain ⟨a1, a2, a3⟩ := own3 O20.out hlt
              have HS := hide (@lenTo_succ P k (by rw [HL20.out]; exact hlt))
              have hb := lenTo_bd HP.out.gap k
              have hy := gap_get HP.out.gap (k := k) (by rw [HL20.out]; exact hlt)
              generalize lenTo P k = z at *
              generalize P.getD k sh0 = y at *
              obtain ⟨y1, y2, y3⟩ := y
              dsimp only at *
              clear hg4
              have i1 : (k : Int) < (n19 : Int) := by omega
              have hw1 : IntKind.i64.wrap (y2 - y1) = y2 - y1 := IntWalk.i64_in _ (by omega)
              have hw2 : IntKind.i64.wrap (z + (y2 - y1)) = z + (y2 - y1) := IntWalk.i64_in _ (by omega)
              go_wp2_with fail
              go_quiet (fail)
              go_wp2_with fail
              go_roundw
              case rel => exact ⟨k + 1, q + nq, by omega, by go_num, by rw [HS.out], by first | rfl | (rw [World.drewN_drewN])⟩
              case measure => simp [intOf]; omega
            · obtain rfl : k = n19 := by omega
              rw [HSUM.out]
              go_wp2_with (first
                | (go_at_call 37; refine (rPay_any _ _ _ xs _ _ _ J _ (HX.out.below (below_drewN B20.out q) (Nat.le_refl _)) HOK.out (HJ20.out.drewN q).row (by omega) HJR.out).mono ?_; rintro e w21 ⟨rfl, rfl⟩))
              go_ret
              exact ⟨(show Ending.returned (.bool (decide (n7 ≤ n5))) = .returned (.bool true) from ret_bool (decide_eq_true (by have := HKJ.out; omega))), below_drewN B20.out q⟩
        · have hmne : (errM xs I == 0) = false := by simpa using hm
          clear hm HLW2
          generalize errM xs I = em at *
          generalize lenM xs I = lm at *
          generalize bestL xs = bl at *
          go_wp2_with fail
          refine (Spells_any _ _ _ xs _ (HX.out.below B18.out (Nat.le_refl _)) hn2).mono ?_
          rintro e w19 ⟨A19, n19, c19, P, rfl, hP, _, o19, b19⟩
          rw [HE.out]
          have HP := hide (hP HE.out)
          have O19 := hide o19
          have HJ19 := hide (HJ18.out.below b19 (Nat.le_refl _))
          have B19 := hide (B18.out.trans (b19.mono B18.out.size))
          clear b19
          clear hP o19
          go_wp2_with fail
          refine (Covered_any _ _ _ xs _ (HX.out.below B19.out (Nat.le_refl _)) hn2).mono ?_
          rintro e w20 ⟨rfl, b20⟩
          rw [HE.out]
          have O20 := hide (O19.out.below b20 (Nat.le_refl _))
          have HJ20 := hide (HJ19.out.below b20 (Nat.le_refl _))
          have B20 := hide (B19.out.trans (b20.mono B19.out.size))
          clear b20
          clear O19
          have HL20 := hide O20.out.len
          have hn20 : n19 ≤ 12 := by have h1 := HP.out.len; have h2 := HL20.out; have h3 := HLX.out; have h4 := errV_le HE.out; omega
          have HSUM := hide (show lenTo P n19 = covV xs by rw [lenTo_all HL20.out, HP.out.sum, covV_ok HE.out])
          generalize covV xs = cv at *
          go_wp2_with fail
          go_loopw [26, 33] (fun a i wr => ∃ k q : Nat, k ≤ n19 ∧ i = .int .i64 k ∧ a = .int .i64 (lenTo P k) ∧ wr = w20.drewN q) (fun _ i _ => n19 - (intOf i).toNat)
          case atStart => exact ⟨0, 0, Nat.zero_le _, rfl, by rw [lenTo_zero], rfl⟩
          case round =>
            obtain ⟨k, q, hk, rfl, rfl, rfl⟩ := hrel
            by_cases hlt : k < n19
            · obtain ⟨g, rfl, hg1, hg2, hg3, hg4⟩ := O20.out.addr (by omega)
              have hg4' : c19 ≤ 9223372036854775807 := hg4
              obtain ⟨a1, a2, a3⟩ := own3 O20.out hlt
              have HS := hide (@lenTo_succ P k (by rw [HL20.out]; exact hlt))
              have hb := lenTo_bd HP.out.gap k
              have hy := gap_get HP.out.gap (k := k) (by rw [HL20.out]; exact hlt)
              generalize lenTo P k = z at *
              generalize P.getD k sh0 = y at *
              obtain ⟨y1, y2, y3⟩ := y
              dsimp only at *
              clear hg4
              have i1 : (k : Int) < (n19 : Int) := by omega
              have hw1 : IntKind.i64.wrap (y2 - y1) = y2 - y1 := IntWalk.i64_in _ (by omega)
              have hw2 : IntKind.i64.wrap (z + (y2 - y1)) = z + (y2 - y1) := IntWalk.i64_in _ (by omega)
              go_wp2_with fail
              go_quiet (fail)
              go_wp2_with fail
              go_roundw
              case rel => exact ⟨k + 1, q + nq, by omega, by go_num, by rw [HS.out], by first | rfl | (rw [World.drewN_drewN])⟩
              case measure => simp [intOf]; omega
            · obtain rfl : k = n19 := by omega
              rw [HSUM.out]
              go_wp2_with (first
                | (go_at_call 37; refine (rPay_any _ _ _ xs _ _ _ J _ (HX.out.below (below_drewN B20.out q) (Nat.le_refl _)) HOK.out (HJ20.out.drewN q).row (by omega) HJR.out).mono ?_; rintro e w21 ⟨rfl, rfl⟩))
              go_ret
              exact ⟨(show Ending.returned (.bool (decide (n7 ≤ n5))) = .returned (.bool true) from ret_bool (decide_eq_true (by have := HKJ.out; omega))), below_drewN B20.out q⟩
    · have HE := hide he
      have hne : (errV xs != 0) = true := by simpa using he
      clear he
      go_wp2_with fail
      refine (Peak_any _ _ _ xs _ (HX.out.below B2.out (Nat.le_refl _)) hn2).mono ?_
      rintro e w3 ⟨rfl, b3⟩
      have B3 := hide (B2.out.trans (b3.mono B2.out.size))
      clear b3
      go_wp2_with fail
      refine (Roster_any _ _ _ xs _ (HX.out.below B3.out (Nat.le_refl _)) hn2).mono ?_
      rintro e w4 ⟨A4, n4, c4, ro, rfl, _, _, _, b4⟩
      have B4 := hide (B3.out.trans (b4.mono B3.out.size))
      clear b4
      go_wp2_with fail
      refine (Alone_any _ _ _ xs _ (HX.out.below B4.out (Nat.le_refl _)) hn2).mono ?_
      rintro e w5 ⟨A5, n5, c5, J, rfl, _, _, _, b5⟩
      have B5 := hide (B4.out.trans (b5.mono B4.out.size))
      clear b5
      go_wp2_with fail
      refine (Moments_any _ _ _ xs _ (HX.out.below B5.out (Nat.le_refl _)) hn2).mono ?_
      rintro e w6 ⟨A6, n6, c6, M, rfl, _, _, _, b6⟩
      have B6 := hide (B5.out.trans (b6.mono B5.out.size))
      clear b6
      go_wp2_with fail
      refine (Earn_any _ _ _ xs _ (HX.out.below B6.out (Nat.le_refl _)) hn2).mono ?_
      rintro e w7 ⟨A7, n7, c7, K, rfl, _, _, _, b7⟩
      have B7 := hide (B6.out.trans (b7.mono B6.out.size))
      clear b7
      go_wp2_with fail
      refine (Posts_any _ _ _ xs _ (HX.out.below B7.out (Nat.le_refl _)) hn2).mono ?_
      rintro e w8 ⟨A8, n8, c8, ps, rfl, _, _, _, b8⟩
      have B8 := hide (B7.out.trans (b8.mono B7.out.size))
      clear b8
      go_wp2_with fail
      refine (Validate_any _ _ _ xs _ (HX.out.below B8.out (Nat.le_refl _)) hn2).mono ?_
      rintro e w9 ⟨rfl, b9⟩
      have B9 := hide (B8.out.trans (b9.mono B8.out.size))
      clear b9
      generalize errV xs = ev at *
      go_wp2_with fail
      go_ret
      exact ⟨ret_bool (by simp), B9.out⟩
end Go.Proofs.Ytpkjgnllkaafkaa
