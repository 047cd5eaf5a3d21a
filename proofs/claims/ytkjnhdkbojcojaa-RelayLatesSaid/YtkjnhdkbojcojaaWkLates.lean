/- What RelayLates does at any box and word. -/
import Derived.Test.YtkjnhdkbojcojaaWkRuns
import Derived.Test.YtkjnhdkbojcojaaWalkLb
namespace Go.Proofs.Ytkjnhdkbojcojaa
open Go.RowKit Go.Shelf
attribute [local go_sem] Oper.semAt_some

theorem lateF_len {b : Bx} {n n' : Nat} (h1 : b.1.length = n) (h2 : b.2.length = n') : (lateF b).1.length ≤ 50 ∧ (lateF b).2.length ≤ 50 := by
  by_cases e : errLt b = 0
  · have := (errLt_ok e).1.n6; have h3 := (errLt_ok e).1.len; rw [lateF_ok e]; simp [lateB]; omega
  · rw [lateF_no e]; simp
theorem late_word {b : Bx} {x : Int} {t : List Int} (h : errLt b = 0) (hw : errW (lateB b) (x :: t) = 0) : errW b t = 0 := by
  obtain ⟨_, hl, hi⟩ := errW_ok hw
  refine errW_fine (errX_ok (errLt_ok h).1) (by simp at hl; omega) fun i hi' => ?_
  have := hi (i + 1) (by simp; omega)
  simpa using this
set_option maxRecDepth 100000 in
set_option maxHeartbeats 8000000 in
theorem RelayLates_walk (A : Option Addr) (n c : Nat) (A' : Option Addr) (n' c' : Nat) (b : Bx) (L : Option Addr) (m d : Nat) (l : List Int) (w : World) (h : BxR w A n c A' n' c' b) (hw : R E1 w L m d l) :
    Calls Try.prog 15 #[bV A n c A' n' c', .slice L m d] w fun e w' => e = .returned (.bool true) ∧ Below w.heap.size w w' := by
  have D0 := hide ((Below.refl w.heap.size w).alloc (Nat.le_refl _) (.cells #[.slice A n c, .slice A' n' c'] 25))
  have K0 := hide (Bk.born w 25 #[.slice A n c, .slice A' n' c'])
  have HB := hide (h.below D0.out (Nat.le_refl _))
  have H0 := hide (Below.refl (w.alloc (.cells #[.slice A n c, .slice A' n' c'] 25)).heap.size (w.alloc (.cells #[.slice A n c, .slice A' n' c'] 25)))
  have hle := h.nx.le
  have hle' := h.ou.le
  have HW := hide (hw.below D0.out (Nat.le_refl _))
  have HML := hide hw.length
  have HH1 := hide (show R EH ((w.alloc (.cells #[.slice A n c, .slice A' n' c'] 25)).alloc (.cells #[.slice L m d] 23)) (some ⟨w.heap.size + 1, 0, none⟩) 1 1 [(L, m, d)] from by
    have := hd_one (w.alloc (.cells #[.slice A n c, .slice A' n' c'] 25)) (L, m, d)
    rwa [show (w.alloc (.cells #[.slice A n c, .slice A' n' c'] 25)).heap.size = w.heap.size + 1 from by simp] at this)
  have HTL := hide (lateF_len (b := b) h.nx.length h.ou.length)
  clear h hw
  cases hlg : longB n n' [(L, m, d)] with
  | true =>
    have HLG := hide hlg
    clear hlg
    go_enter Try.func15, Try.ntmps15
    go_wp2_with (first
      | (have hgd := H1; clear hgd; go_at_call 20; refine (sane_any _).mono ?_; rintro e2 w2 ⟨rfl, b2⟩; have H2 := hide (le_call H1.out b2); have f0_2 := bk_two (K0.out.keep H2.out K0.out.in_); clear b2)
      | (have hgd := H0; clear hgd; go_at_call 19; refine (Long_any A n c A' n' c' _ 1 1 [(L, m, d)] _ HH1.out hle hle').mono ?_; rintro e1 w1 ⟨rfl, b1⟩; rw [HLG.out]; have H1 := hide (le_call (le_two H0.out (.cells #[.slice L m d] 23)) b1); have f0_1 := bk_two (K0.out.keep H1.out K0.out.in_); clear b1))
    go_ret
    exact ⟨rfl, le_call D0.out H2.out⟩
  | false =>
    have HLG := hide hlg
    have hm : m ≤ 100 := (longB_no hlg).2.2 (L, m, d) (by simp)
    clear hlg
    have q1 : (errLt b != errLt b) = false := bne_self_eq_false _
    by_cases he : errLt b = 0
    · have HE := hide he
      have hee : (errLt b != 0) = false := by simp [he]
      by_cases hg : errW (lateF b) l = 0
      · have hgg : (errW (lateF b) l != 0) = false := by simp [hg]
        by_cases hm0 : m = 0
        · have hmm : ((m : Int) == 0) = true := by simp [hm0]
          clear he hg hm0
          go_enter Try.func15, Try.ntmps15
          go_wp2_with (first
            | (have hgd := H5; clear hgd; go_at_call 20; refine (sane_any _).mono ?_; rintro e6 w6 ⟨rfl, b6⟩; have H6 := hide (le_call H5.out b6); have B2_6 := hide (le_call B2_5.out b6); have B3_6 := hide (le_call B3_5.out b6); have R5_6 := hide (le_call R5_5.out b6); have f0_6 := bk_two (K0.out.keep H6.out K0.out.in_); have f2_6 := bk_two (K2.out.keep B2_6.out K2.out.in_); have f3_6 := bk_two (K3.out.keep B3_6.out K3.out.in_); clear b6)
            | (have hgd := H4; clear hgd; go_at_call 21; refine (Run_any A2 n2 c2 B2 m2 d2 (lateF b) L m d l _ ((O2.out.below (le_two (Below.refl _ _) (.cells #[.slice A2 n2 c2, .slice B2 m2 d2] 25)) (Nat.le_refl _)).below B2_4.out (Nat.le_refl _)).row (HW.out.below H4.out (Nat.le_refl _))).mono ?_; rintro e5 w5 ⟨A5, n5, c5, rfl, o5, b5⟩; have H5 := hide (le_call H4.out b5); have B2_5 := hide (le_call B2_4.out b5); have B3_5 := hide (le_call B3_4.out b5); have f0_5 := bk_two (K0.out.keep H5.out K0.out.in_); have f2_5 := bk_two (K2.out.keep B2_5.out K2.out.in_); have f3_5 := bk_two (K3.out.keep B3_5.out K3.out.in_); have O5 := hide o5; have LN5 := hide o5.len; have R5_5 := hide (Below.refl w5.heap.size w5); clear o5; clear b5)
            | (have hgd := H3; clear hgd; go_at_call 36; refine (SameBox_any A2 n2 c2 B2 m2 d2 A3 n3 c3 B3 m3 d3 (lateF b) _ ((O2.out.below (le_two (Below.refl _ _) (.cells #[.slice A2 n2 c2, .slice B2 m2 d2] 25)) (Nat.le_refl _)).below B2_3.out (Nat.le_refl _)).row (O3.out.below (le_two (Below.refl _ _) (.cells #[.slice A3 n3 c3, .slice B3 m3 d3] 25)) (Nat.le_refl _)).row (by have h1 := LN2.out; have h2 := HTL.out; omega) (by have h1 := LM2.out; have h2 := HTL.out; omega)).mono ?_; rintro e4 w4 ⟨rfl, b4⟩; have H4 := hide (le_call H3.out b4); have B2_4 := hide (le_call B2_3.out b4); have B3_4 := hide (le_call B3_3.out b4); have f0_4 := bk_two (K0.out.keep H4.out K0.out.in_); have f2_4 := bk_two (K2.out.keep B2_4.out K2.out.in_); have f3_4 := bk_two (K3.out.keep B3_4.out K3.out.in_); clear b4)
            | (have hgd := H2; clear hgd; go_at_call 53; refine (rLate_any _ _ _ _ _ _ b _ (HB.out.below H2.out (Nat.le_refl _))).mono ?_; rintro e3 w3 ⟨A3, n3, c3, B3, m3, d3, rfl, o3, b3⟩; have H3 := hide (le_two (le_call H2.out b3) (.cells #[.slice A3 n3 c3, .slice B3 m3 d3] 25)); have B2_3 := hide (le_two (le_call B2_2.out b3) (.cells #[.slice A3 n3 c3, .slice B3 m3 d3] 25)); have f0_3 := bk_two (K0.out.keep H3.out K0.out.in_); have f2_3 := bk_two (K2.out.keep B2_3.out K2.out.in_); have O3 := hide o3; have LN3 := hide o3.1.len; have LM3 := hide o3.2.len; have K3 := hide (Bk.born w3 25 #[.slice A3 n3 c3, .slice B3 m3 d3]); have f3_3 := bk_two K3.out; have B3_3 := hide (Below.refl (w3.alloc (.cells #[.slice A3 n3 c3, .slice B3 m3 d3] 25)).heap.size (w3.alloc (.cells #[.slice A3 n3 c3, .slice B3 m3 d3] 25))); clear o3; clear b3)
            | (have hgd := H1; clear hgd; go_at_call 52; refine (Late_any _ _ _ _ _ _ b _ (HB.out.below H1.out (Nat.le_refl _))).mono ?_; rintro e2 w2 ⟨A2, n2, c2, B2, m2, d2, rfl, o2, b2⟩; have H2 := hide (le_two (le_call H1.out b2) (.cells #[.slice A2 n2 c2, .slice B2 m2 d2] 25)); have f0_2 := bk_two (K0.out.keep H2.out K0.out.in_); have O2 := hide o2; have LN2 := hide o2.1.len; have LM2 := hide o2.2.len; have K2 := hide (Bk.born w2 25 #[.slice A2 n2 c2, .slice B2 m2 d2]); have f2_2 := bk_two K2.out; have B2_2 := hide (Below.refl (w2.alloc (.cells #[.slice A2 n2 c2, .slice B2 m2 d2] 25)).heap.size (w2.alloc (.cells #[.slice A2 n2 c2, .slice B2 m2 d2] 25))); clear o2; clear b2)
            | (have hgd := H0; clear hgd; go_at_call 19; refine (Long_any A n c A' n' c' _ 1 1 [(L, m, d)] _ HH1.out hle hle').mono ?_; rintro e1 w1 ⟨rfl, b1⟩; rw [HLG.out]; have H1 := hide (le_call (le_two H0.out (.cells #[.slice L m d] 23)) b1); have f0_1 := bk_two (K0.out.keep H1.out K0.out.in_); clear b1))
          go_ret
          exact ⟨rfl, le_call D0.out H6.out⟩
        · have hmm : ((m : Int) == 0) = false := by rw [beq_eq_false_iff_ne]; omega
          obtain ⟨x, t, rfl⟩ : ∃ x t, l = x :: t := by
            cases l with
            | nil => exact absurd HML.out.symm hm0
            | cons x t => exact ⟨x, t, rfl⟩
          have HTL2 := hide (show t.length + 1 = m from by have := HML.out; simpa using this)
          rw [lateF_ok he] at hg
          have HWT := hide (late_word he hg)
          have HRL := hide (show runF (lateF b) (x :: t) = 0 :: runV b t from by rw [lateF_ok he, runF_ok hg, late_run (errLt_ok he).1])
          have HRB := hide (runF_ok HWT.out)
          have HM1 := hide (show 1 ≤ m by omega)
          obtain ⟨bL, oL, hrL⟩ := HW.out
          obtain rfl := hrL.at_ (by omega)
          have hmd : (m : Int) ≤ (d : Int) := by have := hrL.cap; omega
          have hd9 : (d : Int) ≤ 9223372036854775807 := by have := hrL.cap; have := hrL.max; unfold maxLen at this; omega
          have im1 : (1 : Int) ≤ (m : Int) := by omega
          by_cases hd1 : d = 1
          · subst hd1
            have HSUB := hide (show R E1 (w.alloc (.cells #[.slice A n c, .slice A' n' c'] 25)) (some ⟨bL, oL, none⟩) (m - 1) 0 t from by
              have ht : t = [] := List.eq_nil_of_length_eq_zero (by have := HTL2.out; have := hrL.cap; omega)
              rw [ht]
              have hm1 : m - 1 = 0 := by have := hrL.cap; omega
              rw [hm1]
              exact ⟨0, 0, rfl, by omega, by omega, fun h => by omega, fun h => by omega, fun k hk => by omega⟩)
            clear he hg hm0 hrL 
            go_enter Try.func15, Try.ntmps15
            go_upto_region 10 with (first
              | (have hgd := H4; clear hgd; go_at_call 21; refine (Run_any A2 n2 c2 B2 m2 d2 (lateF b) _ m 1 (x :: t) _ ((O2.out.below (le_two (Below.refl _ _) (.cells #[.slice A2 n2 c2, .slice B2 m2 d2] 25)) (Nat.le_refl _)).below B2_4.out (Nat.le_refl _)).row (HW.out.below H4.out (Nat.le_refl _))).mono ?_; rintro e5 w5 ⟨A5, n5, c5, rfl, o5, b5⟩; have H5 := hide (le_call H4.out b5); have B2_5 := hide (le_call B2_4.out b5); have B3_5 := hide (le_call B3_4.out b5); have f0_5 := bk_two (K0.out.keep H5.out K0.out.in_); have f2_5 := bk_two (K2.out.keep B2_5.out K2.out.in_); have f3_5 := bk_two (K3.out.keep B3_5.out K3.out.in_); have O5 := hide o5; have LN5 := hide o5.len; have R5_5 := hide (Below.refl w5.heap.size w5); clear o5; clear b5)
              | (have hgd := H3; clear hgd; go_at_call 36; refine (SameBox_any A2 n2 c2 B2 m2 d2 A3 n3 c3 B3 m3 d3 (lateF b) _ ((O2.out.below (le_two (Below.refl _ _) (.cells #[.slice A2 n2 c2, .slice B2 m2 d2] 25)) (Nat.le_refl _)).below B2_3.out (Nat.le_refl _)).row (O3.out.below (le_two (Below.refl _ _) (.cells #[.slice A3 n3 c3, .slice B3 m3 d3] 25)) (Nat.le_refl _)).row (by have h1 := LN2.out; have h2 := HTL.out; omega) (by have h1 := LM2.out; have h2 := HTL.out; omega)).mono ?_; rintro e4 w4 ⟨rfl, b4⟩; have H4 := hide (le_call H3.out b4); have B2_4 := hide (le_call B2_3.out b4); have B3_4 := hide (le_call B3_3.out b4); have f0_4 := bk_two (K0.out.keep H4.out K0.out.in_); have f2_4 := bk_two (K2.out.keep B2_4.out K2.out.in_); have f3_4 := bk_two (K3.out.keep B3_4.out K3.out.in_); clear b4)
              | (have hgd := H2; clear hgd; go_at_call 53; refine (rLate_any _ _ _ _ _ _ b _ (HB.out.below H2.out (Nat.le_refl _))).mono ?_; rintro e3 w3 ⟨A3, n3, c3, B3, m3, d3, rfl, o3, b3⟩; have H3 := hide (le_two (le_call H2.out b3) (.cells #[.slice A3 n3 c3, .slice B3 m3 d3] 25)); have B2_3 := hide (le_two (le_call B2_2.out b3) (.cells #[.slice A3 n3 c3, .slice B3 m3 d3] 25)); have f0_3 := bk_two (K0.out.keep H3.out K0.out.in_); have f2_3 := bk_two (K2.out.keep B2_3.out K2.out.in_); have O3 := hide o3; have LN3 := hide o3.1.len; have LM3 := hide o3.2.len; have K3 := hide (Bk.born w3 25 #[.slice A3 n3 c3, .slice B3 m3 d3]); have f3_3 := bk_two K3.out; have B3_3 := hide (Below.refl (w3.alloc (.cells #[.slice A3 n3 c3, .slice B3 m3 d3] 25)).heap.size (w3.alloc (.cells #[.slice A3 n3 c3, .slice B3 m3 d3] 25))); clear o3; clear b3)
              | (have hgd := H1; clear hgd; go_at_call 52; refine (Late_any _ _ _ _ _ _ b _ (HB.out.below H1.out (Nat.le_refl _))).mono ?_; rintro e2 w2 ⟨A2, n2, c2, B2, m2, d2, rfl, o2, b2⟩; have H2 := hide (le_two (le_call H1.out b2) (.cells #[.slice A2 n2 c2, .slice B2 m2 d2] 25)); have f0_2 := bk_two (K0.out.keep H2.out K0.out.in_); have O2 := hide o2; have LN2 := hide o2.1.len; have LM2 := hide o2.2.len; have K2 := hide (Bk.born w2 25 #[.slice A2 n2 c2, .slice B2 m2 d2]); have f2_2 := bk_two K2.out; have B2_2 := hide (Below.refl (w2.alloc (.cells #[.slice A2 n2 c2, .slice B2 m2 d2] 25)).heap.size (w2.alloc (.cells #[.slice A2 n2 c2, .slice B2 m2 d2] 25))); clear o2; clear b2)
              | (have hgd := H0; clear hgd; go_at_call 19; refine (Long_any A n c A' n' c' _ 1 1 [(some ⟨bL, oL, none⟩, m, 1)] _ HH1.out hle hle').mono ?_; rintro e1 w1 ⟨rfl, b1⟩; rw [HLG.out]; have H1 := hide (le_call (le_two H0.out (.cells #[.slice (some ⟨bL, oL, none⟩) m 1] 23)) b1); have f0_1 := bk_two (K0.out.keep H1.out K0.out.in_); clear b1))
            have HX5 := hide (HB.out.below H5.out (Nat.le_refl _))
            have HS5 := hide (HSUB.out.below H5.out (Nat.le_refl _))
            have HSC := hide (fun u (hu : Below w5.heap.size w5 u) => bk_two ((K0.out.keep H5.out K0.out.in_).keep hu (Nat.lt_of_lt_of_le K0.out.in_ H5.out.size)))
            have d1 := hide (show Below w5.heap.size w5 w5.drew from below_drewN (Below.refl _ _) 1)
            have g1 := HSC.out _ d1.out
            have hn5 : n5 = m + 1 := by rw [← LN5.out, HRL.out, List.length_cons, run_len, HTL2.out]
            have O5x := hide (show Own E1 w5 w4.heap.size 3 A5 n5 c5 (0 :: runV b t) from by rw [← HRL.out]; exact O5.out)
            obtain ⟨g5, rfl, hg5, hg5b, hc5, hc5m⟩ := O5x.out.addr (by omega)
            go_region_held_law (fun w' => w'.cell? ⟨w.heap.size, 0, none⟩ = some (.slice A n c) ∧ w'.cell? ⟨w.heap.size, 1, none⟩ = some (.slice A' n' c'))
              (first
                | exact M7.out
                | exact ⟨g1.1, g1.2⟩
                | go_keep)
              (first
                | (go_at_call 21; refine (Run_any A n c A' n' c' b (some ⟨bL, oL, none⟩) (m - 1) 0 t _ (HX5.out.below d1.out (Nat.le_refl _)) (HS5.out.below d1.out (Nat.le_refl _))).mono ?_; rw [HWT.out, HRB.out]; rintro e7 w7 ⟨A7, n7, c7, rfl, o7, b7⟩; have O7 := hide o7; have B7 := hide (le_call d1.out b7); have M7 := hide (HSC.out _ B7.out); clear o7 b7))
            all_goals
              have hn7 : n7 = m := by rw [← O7.out.len, run_len, HTL2.out]
              subst hn5
              subst hn7
              have O57 := hide (O5x.out.below B7.out (Nat.le_refl _))
              have k0 : w7.cell? ⟨g5, 0, none⟩ = some (.int .i64 0) := own1 O57.out (k := 0) (by omega)
              have HSR := hide (show R E1 w7 (some ⟨g5, 1, none⟩) n7 (c5 - 1) (runV b t) from by
                have := O57.out.rowAt.sub (i := 1) (m := n7) (by omega)
                rwa [show ((0 :: runV b t).drop 1).take n7 = runV b t from by simp only [List.drop_succ_cons, List.drop_zero]; exact List.take_of_length_le (by rw [O7.out.len]; exact Nat.le_refl _)] at this)
              have wv : IntKind.i64.wrap ((n7 : Int) + 1) = (n7 : Int) + 1 := IntWalk.i64_in _ (by omega)
              have qe : (((n7 + 1 : Nat) : Int) == (n7 : Int) + 1) = true := by simp
              have hc5n : ¬ c5 = 1 := by omega
              have hc5i : ((n7 + 1 : Nat) : Int) ≤ (c5 : Int) := by omega
              have hc5j : (c5 : Int) ≤ 9223372036854775807 := by unfold maxLen at hc5m; omega
              go_wp2_with (first
                | (have hgd := B8; clear hgd; go_at_call 20; refine (sane_any _).mono ?_; rintro e9 w9 ⟨rfl, b9⟩; have B9 := hide (le_call B8.out b9); clear b9)
                | (go_at_call 27; refine (SameInts_any (some ⟨g5, 1, none⟩) n7 (c5 - 1) A7 n7 c7 (runV b t) (runV b t) w7 HSR.out O7.out.row (by omega) (by omega)).mono ?_; rintro e8 w8 ⟨rfl, q8, hw8⟩; have B8 := hide (show Below w5.heap.size w5 w8 from (by rw [hw8]; exact below_drewN B7.out q8)); clear hw8; rw [beq_self_eq_true]))
              go_ret
              exact ⟨rfl, le_call (le_call D0.out H5.out) B9.out⟩
          · have HD1 := hide hd1
            have HSUB := hide (show R E1 (w.alloc (.cells #[.slice A n c, .slice A' n' c'] 25)) (some ⟨bL, oL + 1, none⟩) (m - 1) (d - 1) t from by
              have := hrL.sub (i := 1) (m := m - 1) (by omega)
              rwa [show ((x :: t).drop 1).take (m - 1) = t from by simp only [List.drop_succ_cons, List.drop_zero]; exact List.take_of_length_le (by have := HTL2.out; omega)] at this)
            clear he hg hm0 hrL 
            go_enter Try.func15, Try.ntmps15
            go_upto_region 10 with (first
              | (have hgd := H4; clear hgd; go_at_call 21; refine (Run_any A2 n2 c2 B2 m2 d2 (lateF b) _ m d (x :: t) _ ((O2.out.below (le_two (Below.refl _ _) (.cells #[.slice A2 n2 c2, .slice B2 m2 d2] 25)) (Nat.le_refl _)).below B2_4.out (Nat.le_refl _)).row (HW.out.below H4.out (Nat.le_refl _))).mono ?_; rintro e5 w5 ⟨A5, n5, c5, rfl, o5, b5⟩; have H5 := hide (le_call H4.out b5); have B2_5 := hide (le_call B2_4.out b5); have B3_5 := hide (le_call B3_4.out b5); have f0_5 := bk_two (K0.out.keep H5.out K0.out.in_); have f2_5 := bk_two (K2.out.keep B2_5.out K2.out.in_); have f3_5 := bk_two (K3.out.keep B3_5.out K3.out.in_); have O5 := hide o5; have LN5 := hide o5.len; have R5_5 := hide (Below.refl w5.heap.size w5); clear o5; clear b5)
              | (have hgd := H3; clear hgd; go_at_call 36; refine (SameBox_any A2 n2 c2 B2 m2 d2 A3 n3 c3 B3 m3 d3 (lateF b) _ ((O2.out.below (le_two (Below.refl _ _) (.cells #[.slice A2 n2 c2, .slice B2 m2 d2] 25)) (Nat.le_refl _)).below B2_3.out (Nat.le_refl _)).row (O3.out.below (le_two (Below.refl _ _) (.cells #[.slice A3 n3 c3, .slice B3 m3 d3] 25)) (Nat.le_refl _)).row (by have h1 := LN2.out; have h2 := HTL.out; omega) (by have h1 := LM2.out; have h2 := HTL.out; omega)).mono ?_; rintro e4 w4 ⟨rfl, b4⟩; have H4 := hide (le_call H3.out b4); have B2_4 := hide (le_call B2_3.out b4); have B3_4 := hide (le_call B3_3.out b4); have f0_4 := bk_two (K0.out.keep H4.out K0.out.in_); have f2_4 := bk_two (K2.out.keep B2_4.out K2.out.in_); have f3_4 := bk_two (K3.out.keep B3_4.out K3.out.in_); clear b4)
              | (have hgd := H2; clear hgd; go_at_call 53; refine (rLate_any _ _ _ _ _ _ b _ (HB.out.below H2.out (Nat.le_refl _))).mono ?_; rintro e3 w3 ⟨A3, n3, c3, B3, m3, d3, rfl, o3, b3⟩; have H3 := hide (le_two (le_call H2.out b3) (.cells #[.slice A3 n3 c3, .slice B3 m3 d3] 25)); have B2_3 := hide (le_two (le_call B2_2.out b3) (.cells #[.slice A3 n3 c3, .slice B3 m3 d3] 25)); have f0_3 := bk_two (K0.out.keep H3.out K0.out.in_); have f2_3 := bk_two (K2.out.keep B2_3.out K2.out.in_); have O3 := hide o3; have LN3 := hide o3.1.len; have LM3 := hide o3.2.len; have K3 := hide (Bk.born w3 25 #[.slice A3 n3 c3, .slice B3 m3 d3]); have f3_3 := bk_two K3.out; have B3_3 := hide (Below.refl (w3.alloc (.cells #[.slice A3 n3 c3, .slice B3 m3 d3] 25)).heap.size (w3.alloc (.cells #[.slice A3 n3 c3, .slice B3 m3 d3] 25))); clear o3; clear b3)
              | (have hgd := H1; clear hgd; go_at_call 52; refine (Late_any _ _ _ _ _ _ b _ (HB.out.below H1.out (Nat.le_refl _))).mono ?_; rintro e2 w2 ⟨A2, n2, c2, B2, m2, d2, rfl, o2, b2⟩; have H2 := hide (le_two (le_call H1.out b2) (.cells #[.slice A2 n2 c2, .slice B2 m2 d2] 25)); have f0_2 := bk_two (K0.out.keep H2.out K0.out.in_); have O2 := hide o2; have LN2 := hide o2.1.len; have LM2 := hide o2.2.len; have K2 := hide (Bk.born w2 25 #[.slice A2 n2 c2, .slice B2 m2 d2]); have f2_2 := bk_two K2.out; have B2_2 := hide (Below.refl (w2.alloc (.cells #[.slice A2 n2 c2, .slice B2 m2 d2] 25)).heap.size (w2.alloc (.cells #[.slice A2 n2 c2, .slice B2 m2 d2] 25))); clear o2; clear b2)
              | (have hgd := H0; clear hgd; go_at_call 19; refine (Long_any A n c A' n' c' _ 1 1 [(some ⟨bL, oL, none⟩, m, d)] _ HH1.out hle hle').mono ?_; rintro e1 w1 ⟨rfl, b1⟩; rw [HLG.out]; have H1 := hide (le_call (le_two H0.out (.cells #[.slice (some ⟨bL, oL, none⟩) m d] 23)) b1); have f0_1 := bk_two (K0.out.keep H1.out K0.out.in_); clear b1))
            have HX5 := hide (HB.out.below H5.out (Nat.le_refl _))
            have HS5 := hide (HSUB.out.below H5.out (Nat.le_refl _))
            have HSC := hide (fun u (hu : Below w5.heap.size w5 u) => bk_two ((K0.out.keep H5.out K0.out.in_).keep hu (Nat.lt_of_lt_of_le K0.out.in_ H5.out.size)))
            have d1 := hide (show Below w5.heap.size w5 w5.drew from below_drewN (Below.refl _ _) 1)
            have g1 := HSC.out _ d1.out
            have hn5 : n5 = m + 1 := by rw [← LN5.out, HRL.out, List.length_cons, run_len, HTL2.out]
            have O5x := hide (show Own E1 w5 w4.heap.size 3 A5 n5 c5 (0 :: runV b t) from by rw [← HRL.out]; exact O5.out)
            obtain ⟨g5, rfl, hg5, hg5b, hc5, hc5m⟩ := O5x.out.addr (by omega)
            go_region_held_law (fun w' => w'.cell? ⟨w.heap.size, 0, none⟩ = some (.slice A n c) ∧ w'.cell? ⟨w.heap.size, 1, none⟩ = some (.slice A' n' c'))
              (first
                | exact M7.out
                | exact ⟨g1.1, g1.2⟩
                | go_keep)
              (first
                | (go_at_call 21; refine (Run_any A n c A' n' c' b (some ⟨bL, oL + 1, none⟩) (m - 1) (d - 1) t _ (HX5.out.below d1.out (Nat.le_refl _)) (HS5.out.below d1.out (Nat.le_refl _))).mono ?_; rw [HWT.out, HRB.out]; rintro e7 w7 ⟨A7, n7, c7, rfl, o7, b7⟩; have O7 := hide o7; have B7 := hide (le_call d1.out b7); have M7 := hide (HSC.out _ B7.out); clear o7 b7))
            all_goals
              have hn7 : n7 = m := by rw [← O7.out.len, run_len, HTL2.out]
              subst hn5
              subst hn7
              have O57 := hide (O5x.out.below B7.out (Nat.le_refl _))
              have k0 : w7.cell? ⟨g5, 0, none⟩ = some (.int .i64 0) := own1 O57.out (k := 0) (by omega)
              have HSR := hide (show R E1 w7 (some ⟨g5, 1, none⟩) n7 (c5 - 1) (runV b t) from by
                have := O57.out.rowAt.sub (i := 1) (m := n7) (by omega)
                rwa [show ((0 :: runV b t).drop 1).take n7 = runV b t from by simp only [List.drop_succ_cons, List.drop_zero]; exact List.take_of_length_le (by rw [O7.out.len]; exact Nat.le_refl _)] at this)
              have wv : IntKind.i64.wrap ((n7 : Int) + 1) = (n7 : Int) + 1 := IntWalk.i64_in _ (by omega)
              have qe : (((n7 + 1 : Nat) : Int) == (n7 : Int) + 1) = true := by simp
              have hc5n : ¬ c5 = 1 := by omega
              have hc5i : ((n7 + 1 : Nat) : Int) ≤ (c5 : Int) := by omega
              have hc5j : (c5 : Int) ≤ 9223372036854775807 := by unfold maxLen at hc5m; omega
              go_wp2_with (first
                | (have hgd := B8; clear hgd; go_at_call 20; refine (sane_any _).mono ?_; rintro e9 w9 ⟨rfl, b9⟩; have B9 := hide (le_call B8.out b9); clear b9)
                | (go_at_call 27; refine (SameInts_any (some ⟨g5, 1, none⟩) n7 (c5 - 1) A7 n7 c7 (runV b t) (runV b t) w7 HSR.out O7.out.row (by omega) (by omega)).mono ?_; rintro e8 w8 ⟨rfl, q8, hw8⟩; have B8 := hide (show Below w5.heap.size w5 w8 from (by rw [hw8]; exact below_drewN B7.out q8)); clear hw8; rw [beq_self_eq_true]))
              go_ret
              exact ⟨rfl, le_call (le_call D0.out H5.out) B9.out⟩
      · have hgg : (errW (lateF b) l != 0) = true := by simp [hg]
        clear he hg
        go_enter Try.func15, Try.ntmps15
        go_wp2_with (first
          | (have hgd := H5; clear hgd; go_at_call 20; refine (sane_any _).mono ?_; rintro e6 w6 ⟨rfl, b6⟩; have H6 := hide (le_call H5.out b6); have B2_6 := hide (le_call B2_5.out b6); have B3_6 := hide (le_call B3_5.out b6); have R5_6 := hide (le_call R5_5.out b6); have f0_6 := bk_two (K0.out.keep H6.out K0.out.in_); have f2_6 := bk_two (K2.out.keep B2_6.out K2.out.in_); have f3_6 := bk_two (K3.out.keep B3_6.out K3.out.in_); clear b6)
          | (have hgd := H4; clear hgd; go_at_call 21; refine (Run_any A2 n2 c2 B2 m2 d2 (lateF b) L m d l _ ((O2.out.below (le_two (Below.refl _ _) (.cells #[.slice A2 n2 c2, .slice B2 m2 d2] 25)) (Nat.le_refl _)).below B2_4.out (Nat.le_refl _)).row (HW.out.below H4.out (Nat.le_refl _))).mono ?_; rintro e5 w5 ⟨A5, n5, c5, rfl, o5, b5⟩; have H5 := hide (le_call H4.out b5); have B2_5 := hide (le_call B2_4.out b5); have B3_5 := hide (le_call B3_4.out b5); have f0_5 := bk_two (K0.out.keep H5.out K0.out.in_); have f2_5 := bk_two (K2.out.keep B2_5.out K2.out.in_); have f3_5 := bk_two (K3.out.keep B3_5.out K3.out.in_); have O5 := hide o5; have LN5 := hide o5.len; have R5_5 := hide (Below.refl w5.heap.size w5); clear o5; clear b5)
          | (have hgd := H3; clear hgd; go_at_call 36; refine (SameBox_any A2 n2 c2 B2 m2 d2 A3 n3 c3 B3 m3 d3 (lateF b) _ ((O2.out.below (le_two (Below.refl _ _) (.cells #[.slice A2 n2 c2, .slice B2 m2 d2] 25)) (Nat.le_refl _)).below B2_3.out (Nat.le_refl _)).row (O3.out.below (le_two (Below.refl _ _) (.cells #[.slice A3 n3 c3, .slice B3 m3 d3] 25)) (Nat.le_refl _)).row (by have h1 := LN2.out; have h2 := HTL.out; omega) (by have h1 := LM2.out; have h2 := HTL.out; omega)).mono ?_; rintro e4 w4 ⟨rfl, b4⟩; have H4 := hide (le_call H3.out b4); have B2_4 := hide (le_call B2_3.out b4); have B3_4 := hide (le_call B3_3.out b4); have f0_4 := bk_two (K0.out.keep H4.out K0.out.in_); have f2_4 := bk_two (K2.out.keep B2_4.out K2.out.in_); have f3_4 := bk_two (K3.out.keep B3_4.out K3.out.in_); clear b4)
          | (have hgd := H2; clear hgd; go_at_call 53; refine (rLate_any _ _ _ _ _ _ b _ (HB.out.below H2.out (Nat.le_refl _))).mono ?_; rintro e3 w3 ⟨A3, n3, c3, B3, m3, d3, rfl, o3, b3⟩; have H3 := hide (le_two (le_call H2.out b3) (.cells #[.slice A3 n3 c3, .slice B3 m3 d3] 25)); have B2_3 := hide (le_two (le_call B2_2.out b3) (.cells #[.slice A3 n3 c3, .slice B3 m3 d3] 25)); have f0_3 := bk_two (K0.out.keep H3.out K0.out.in_); have f2_3 := bk_two (K2.out.keep B2_3.out K2.out.in_); have O3 := hide o3; have LN3 := hide o3.1.len; have LM3 := hide o3.2.len; have K3 := hide (Bk.born w3 25 #[.slice A3 n3 c3, .slice B3 m3 d3]); have f3_3 := bk_two K3.out; have B3_3 := hide (Below.refl (w3.alloc (.cells #[.slice A3 n3 c3, .slice B3 m3 d3] 25)).heap.size (w3.alloc (.cells #[.slice A3 n3 c3, .slice B3 m3 d3] 25))); clear o3; clear b3)
          | (have hgd := H1; clear hgd; go_at_call 52; refine (Late_any _ _ _ _ _ _ b _ (HB.out.below H1.out (Nat.le_refl _))).mono ?_; rintro e2 w2 ⟨A2, n2, c2, B2, m2, d2, rfl, o2, b2⟩; have H2 := hide (le_two (le_call H1.out b2) (.cells #[.slice A2 n2 c2, .slice B2 m2 d2] 25)); have f0_2 := bk_two (K0.out.keep H2.out K0.out.in_); have O2 := hide o2; have LN2 := hide o2.1.len; have LM2 := hide o2.2.len; have K2 := hide (Bk.born w2 25 #[.slice A2 n2 c2, .slice B2 m2 d2]); have f2_2 := bk_two K2.out; have B2_2 := hide (Below.refl (w2.alloc (.cells #[.slice A2 n2 c2, .slice B2 m2 d2] 25)).heap.size (w2.alloc (.cells #[.slice A2 n2 c2, .slice B2 m2 d2] 25))); clear o2; clear b2)
          | (have hgd := H0; clear hgd; go_at_call 19; refine (Long_any A n c A' n' c' _ 1 1 [(L, m, d)] _ HH1.out hle hle').mono ?_; rintro e1 w1 ⟨rfl, b1⟩; rw [HLG.out]; have H1 := hide (le_call (le_two H0.out (.cells #[.slice L m d] 23)) b1); have f0_1 := bk_two (K0.out.keep H1.out K0.out.in_); clear b1))
        go_ret
        exact ⟨rfl, le_call D0.out H6.out⟩
    · have hee : (errLt b != 0) = true := by simp [he]
      clear he
      go_enter Try.func15, Try.ntmps15
      go_wp2_with (first
        | (have hgd := H5; clear hgd; go_at_call 20; refine (sane_any _).mono ?_; rintro e6 w6 ⟨rfl, b6⟩; have H6 := hide (le_call H5.out b6); have B2_6 := hide (le_call B2_5.out b6); have B3_6 := hide (le_call B3_5.out b6); have R5_6 := hide (le_call R5_5.out b6); have f0_6 := bk_two (K0.out.keep H6.out K0.out.in_); have f2_6 := bk_two (K2.out.keep B2_6.out K2.out.in_); have f3_6 := bk_two (K3.out.keep B3_6.out K3.out.in_); clear b6)
        | (have hgd := H4; clear hgd; go_at_call 21; refine (Run_any A2 n2 c2 B2 m2 d2 (lateF b) L m d l _ ((O2.out.below (le_two (Below.refl _ _) (.cells #[.slice A2 n2 c2, .slice B2 m2 d2] 25)) (Nat.le_refl _)).below B2_4.out (Nat.le_refl _)).row (HW.out.below H4.out (Nat.le_refl _))).mono ?_; rintro e5 w5 ⟨A5, n5, c5, rfl, o5, b5⟩; have H5 := hide (le_call H4.out b5); have B2_5 := hide (le_call B2_4.out b5); have B3_5 := hide (le_call B3_4.out b5); have f0_5 := bk_two (K0.out.keep H5.out K0.out.in_); have f2_5 := bk_two (K2.out.keep B2_5.out K2.out.in_); have f3_5 := bk_two (K3.out.keep B3_5.out K3.out.in_); have O5 := hide o5; have LN5 := hide o5.len; have R5_5 := hide (Below.refl w5.heap.size w5); clear o5; clear b5)
        | (have hgd := H3; clear hgd; go_at_call 36; refine (SameBox_any A2 n2 c2 B2 m2 d2 A3 n3 c3 B3 m3 d3 (lateF b) _ ((O2.out.below (le_two (Below.refl _ _) (.cells #[.slice A2 n2 c2, .slice B2 m2 d2] 25)) (Nat.le_refl _)).below B2_3.out (Nat.le_refl _)).row (O3.out.below (le_two (Below.refl _ _) (.cells #[.slice A3 n3 c3, .slice B3 m3 d3] 25)) (Nat.le_refl _)).row (by have h1 := LN2.out; have h2 := HTL.out; omega) (by have h1 := LM2.out; have h2 := HTL.out; omega)).mono ?_; rintro e4 w4 ⟨rfl, b4⟩; have H4 := hide (le_call H3.out b4); have B2_4 := hide (le_call B2_3.out b4); have B3_4 := hide (le_call B3_3.out b4); have f0_4 := bk_two (K0.out.keep H4.out K0.out.in_); have f2_4 := bk_two (K2.out.keep B2_4.out K2.out.in_); have f3_4 := bk_two (K3.out.keep B3_4.out K3.out.in_); clear b4)
        | (have hgd := H2; clear hgd; go_at_call 53; refine (rLate_any _ _ _ _ _ _ b _ (HB.out.below H2.out (Nat.le_refl _))).mono ?_; rintro e3 w3 ⟨A3, n3, c3, B3, m3, d3, rfl, o3, b3⟩; have H3 := hide (le_two (le_call H2.out b3) (.cells #[.slice A3 n3 c3, .slice B3 m3 d3] 25)); have B2_3 := hide (le_two (le_call B2_2.out b3) (.cells #[.slice A3 n3 c3, .slice B3 m3 d3] 25)); have f0_3 := bk_two (K0.out.keep H3.out K0.out.in_); have f2_3 := bk_two (K2.out.keep B2_3.out K2.out.in_); have O3 := hide o3; have LN3 := hide o3.1.len; have LM3 := hide o3.2.len; have K3 := hide (Bk.born w3 25 #[.slice A3 n3 c3, .slice B3 m3 d3]); have f3_3 := bk_two K3.out; have B3_3 := hide (Below.refl (w3.alloc (.cells #[.slice A3 n3 c3, .slice B3 m3 d3] 25)).heap.size (w3.alloc (.cells #[.slice A3 n3 c3, .slice B3 m3 d3] 25))); clear o3; clear b3)
        | (have hgd := H1; clear hgd; go_at_call 52; refine (Late_any _ _ _ _ _ _ b _ (HB.out.below H1.out (Nat.le_refl _))).mono ?_; rintro e2 w2 ⟨A2, n2, c2, B2, m2, d2, rfl, o2, b2⟩; have H2 := hide (le_two (le_call H1.out b2) (.cells #[.slice A2 n2 c2, .slice B2 m2 d2] 25)); have f0_2 := bk_two (K0.out.keep H2.out K0.out.in_); have O2 := hide o2; have LN2 := hide o2.1.len; have LM2 := hide o2.2.len; have K2 := hide (Bk.born w2 25 #[.slice A2 n2 c2, .slice B2 m2 d2]); have f2_2 := bk_two K2.out; have B2_2 := hide (Below.refl (w2.alloc (.cells #[.slice A2 n2 c2, .slice B2 m2 d2] 25)).heap.size (w2.alloc (.cells #[.slice A2 n2 c2, .slice B2 m2 d2] 25))); clear o2; clear b2)
        | (have hgd := H0; clear hgd; go_at_call 19; refine (Long_any A n c A' n' c' _ 1 1 [(L, m, d)] _ HH1.out hle hle').mono ?_; rintro e1 w1 ⟨rfl, b1⟩; rw [HLG.out]; have H1 := hide (le_call (le_two H0.out (.cells #[.slice L m d] 23)) b1); have f0_1 := bk_two (K0.out.keep H1.out K0.out.in_); clear b1))
      go_ret
      exact ⟨rfl, le_call D0.out H6.out⟩
end Go.Proofs.Ytkjnhdkbojcojaa
