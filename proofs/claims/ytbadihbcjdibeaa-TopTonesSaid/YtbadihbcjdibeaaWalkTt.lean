/- The walk of TopTones. -/
import Derived.Test.YtbadihbcjdibeaaMathTt
namespace Go.Proofs.Ytbadihbcjdibeaa
open Go.RowKit

set_option maxRecDepth 100000 in
set_option maxHeartbeats 6000000 in
theorem TopTones_walk (A : Option Addr) (n c : Nat) (xs : List Int) (A' : Option Addr) (n' c' : Nat) (ys : List Int) (by_ : Int) (w : World) (h : Row w A n c xs) (h' : Row w A' n' c' ys) (_ : (Lit.int .i64 by_).wf = true) :
    Calls Try.prog 6 #[.slice A n c, .slice A' n' c', .int .i64 by_] w fun e w' => e = .returned (.bool true) ∧ Below w.heap.size w w' := by
  have HR := hide h
  have HR' := hide h'
  have HL := hide h.length
  have HL' := hide h'.length
  clear h h'
  have q1 : ∀ y, okv 0 y = y := fun y => okv_zero rfl _
  have q2 : ∀ y, okb 0 y = y := fun y => okb_zero rfl _
  have q3 : ∀ y, okl 0 y = y := fun y => okl_zero rfl _
  have Q1 := hide q1
  have Q2 := hide q2
  have Q3 := hide q3
  clear q1 q2 q3
  go_enter Try.func6, Try.ntmps6
  go_wp2_with fail
  refine (Listen_any _ _ _ [1, 0] _ _ _ [1, 0, 0] _ ((Own.lit w [1, 0] (Nat.le_refl _) (by simp [maxLen])).alloc _).row (Own.litAt (w.alloc (.cells (ints [1, 0]).toArray 3)) [1, 0, 0] (w.heap.size + 1) (by simp) (Nat.le_refl _) (by simp [maxLen])).row (by simp) (by simp)).mono ?_
  rintro e w1 ⟨rfl, b1⟩
  rw [err_lit, lis_lit, Q1.out, Q2.out]
  have B1 := hide ((((Below.refl _ w).alloc (Nat.le_refl _) _).alloc (by simp) _).trans (b1.mono (by simp; omega)) : Below w.heap.size w w1)
  have z1 := B1.out.size
  clear b1
  by_cases hn : 200 < n
  · go_wp2_with (first | (go_at_call 8; refine (Long_yes _ _ _ _ hn).mono ?_; rintro e w' ⟨rfl, rfl⟩))
    go_ret
    exact ⟨rfl, B1.out⟩
  have hn1 : n ≤ 200 := by omega
  clear hn
  by_cases hn : 200 < n'
  · go_wp2_with fail
    refine (Long_no _ _ _ _ hn1).mono ?_
    rintro e w' ⟨rfl, rfl⟩
    go_wp2_with fail
    refine (Long_yes _ _ _ _ hn).mono ?_
    rintro e w' ⟨rfl, rfl⟩
    go_wp2_with fail
    go_ret
    exact ⟨rfl, B1.out⟩
  have hn2 : n' ≤ 200 := by omega
  clear hn
  go_wp2_with fail
  refine (Long_no _ _ _ _ hn1).mono ?_
  rintro e w' ⟨rfl, rfl⟩
  go_wp2_with fail
  refine (Long_no _ _ _ _ hn2).mono ?_
  rintro e w' ⟨rfl, rfl⟩
  go_wp2_with fail
  refine (Period_any _ _ _ xs _ (HR.out.below B1.out (Nat.le_refl _)) (by omega)).mono ?_
  rintro e w' ⟨rfl, rfl⟩
  go_wp2_with fail
  refine (Period_any _ _ _ ys _ (HR'.out.below B1.out (Nat.le_refl _)) (by omega)).mono ?_
  rintro e w' ⟨rfl, rfl⟩
  by_cases he : errOf xs = 0
  case neg =>
    have he' : (errOf xs != 0) = true := by simp [he]
    go_wp2_with fail
    go_ret
    exact ⟨rfl, B1.out⟩
  have HE := hide he
  rw [he, Q1.out]
  clear he
  by_cases he : errOf ys = 0
  case neg =>
    have he' : (errOf ys != 0) = true := by simp [he]
    go_wp2_with fail
    go_ret
    exact ⟨rfl, B1.out⟩
  have HE' := hide he
  rw [he, Q1.out]
  clear he
  have E1 := errOf_zero HE.out
  have E2 := errOf_zero HE'.out
  have p1 := per_spec E1.1
  have p2 := per_spec E2.1
  have l1 := HL.out
  have l2 := HL'.out
  have M := most_bd p1.2.1 p2.2.1
  have hm0 : most (per xs) (per ys) = per xs + per ys - Nat.gcd (per xs) (per ys) := rfl
  have HSC := hide (same_cut E1.1 E2.1)
  have HLI := hide (lis_is HE.out HE'.out)
  have HPX := hide (fun (i : Int) => turn_err HE.out i)
  have hRG := hide (fun w0 => rGcd_any (per xs) (per ys) w0 (by omega) (by omega))
  have hrt : (rootL xs).length = per xs := rootL_length xs
  have HS1 := hide (swap_err HE.out)
  have HS2 := hide (back_err HE.out)
  have HRT := hide hrt
  rw [HS1.out.1.symm] at HS2
  have n24 : n ≤ 24 := by omega
  have n24' : n' ≤ 24 := by omega
  have n1 : 1 ≤ n := by omega
  have n1' : 1 ≤ n' := by omega
  obtain ⟨p, hp, P1, P2⟩ : ∃ p : Nat, per xs = p ∧ 1 ≤ p ∧ p ≤ 24 := ⟨_, rfl, p1.2.1, by omega⟩
  obtain ⟨q, hq, P3, P4⟩ : ∃ q : Nat, per ys = q ∧ 1 ≤ q ∧ q ≤ 24 := ⟨_, rfl, p2.2.1, by omega⟩
  obtain ⟨mo, hmo, P5, P6⟩ : ∃ mo : Nat, most (per xs) (per ys) = mo ∧ mo ≤ 47 ∧ (p : Int) + (q : Int) - (Nat.gcd p q : Int) = (mo : Int) := ⟨_, rfl, by omega, by rw [← hp, ← hq]; omega⟩
  obtain ⟨g, hg, P7, P8⟩ : ∃ g : Nat, Nat.gcd p q = g ∧ 1 ≤ g ∧ g ≤ 24 := ⟨_, rfl, by rw [← hp, ← hq]; omega, by rw [← hp, ← hq]; omega⟩
  rw [hmo] at HSC HLI
  rw [hp, hq, hg] at hRG
  rw [hg] at P6
  rw [hp] at HRT
  have HP := hide hp
  have HPB := hide (HS2.out.1.trans (HS1.out.1.trans hp))
  have HPW := hide (HS1.out.1.trans hp)
  have HP6 := hide P6
  have P9 : g ≤ p + q := by omega
  rw [hp, hq]
  clear E1 E2 p1 p2 l1 l2 M hm0 hrt hp hq hmo hg P6
  go_wp2_with fail
  refine (hRG.out _).mono ?_
  rintro e w2 ⟨rfl, b2⟩
  have B2 := hide (B1.out.trans (b2.mono z1))
  have z2 := B2.out.size
  clear b2
  go_wp2_with fail
  rw [HP6.out]
  refine (cut_any _ _ _ xs 0 mo _ (HR.out.below B2.out (Nat.le_refl _)) (by omega) HE.out (by omega) (by omega) (by omega)).mono ?_
  rintro e w3 ⟨A3, c3, rfl, o3, b3⟩
  have B3 := hide (B2.out.trans (b3.mono z2))
  have z3 := B3.out.size
  have O3 := hide o3
  clear b3 o3
  go_wp2_with fail
  refine (cut_any _ _ _ ys 0 mo _ (HR'.out.below B3.out (Nat.le_refl _)) (by omega) HE'.out (by omega) (by omega) (by omega)).mono ?_
  rintro e w4 ⟨A4, c4, rfl, o4, b4⟩
  have B4 := hide (B3.out.trans (b4.mono z3))
  have z4 := B4.out.size
  have O4 := hide o4
  replace O3 := hide (O3.out.below b4 (Nat.le_refl _))
  clear b4 o4
  have HE2 := hide (show err2 xs ys = 0 by unfold err2; rw [if_pos HE.out, HE'.out])
  go_wp2_with fail
  refine (Same_any _ _ _ xs _ _ _ ys _ (HR.out.below B4.out (Nat.le_refl _)) (HR'.out.below B4.out (Nat.le_refl _)) (by omega) (by omega)).mono ?_
  rintro e w5 ⟨rfl, b5⟩
  rw [HE2.out, Q2.out]
  have B5 := hide (B4.out.trans (b5.mono z4))
  have z5 := B5.out.size
  replace O3 := hide (O3.out.below b5 (Nat.le_refl _))
  replace O4 := hide (O4.out.below b5 (Nat.le_refl _))
  clear b5
  have HTB := hide (turn_back (xs := xs) (i := by_) (j := -(Int.tmod by_ (n : Int))) (by rw [HL.out]; exact n1) (by rw [HL.out]; exact tmod_back by_ n))
  have tm1 : -(n : Int) < Int.tmod by_ (n : Int) ∧ Int.tmod by_ (n : Int) < n := by
    have a1 := Int.lt_tmod_of_pos by_ (show (0 : Int) < n by omega)
    have a2 := Int.tmod_lt_of_pos by_ (show (0 : Int) < n by omega)
    omega
  have tm2 : IntKind.i64.wrap (Int.tmod by_ (n : Int)) = Int.tmod by_ (n : Int) := IntWalk.i64_in _ (by omega)
  have tm3 : IntKind.i64.wrap (-(Int.tmod by_ (n : Int))) = -(Int.tmod by_ (n : Int)) := IntWalk.i64_in _ (by omega)
  clear tm1
  generalize eqL (rootL xs) (rootL ys) = sm at *
  rcases HLI.out with ⟨hal, hls⟩ | ⟨hal, hsm, d, hls, hd1, hd2, hd3⟩
  · have HAL := hide hal
    have HLS := hide hls
    clear hal hls HLI
    cases sm
    · as_aux_lemma =>
        go_wp2_with (first | (go_at_call 12; refine (SameInts_any _ _ _ _ _ _ _ _ _ O3.out.row O4.out.row).mono ?_; rintro e w6 ⟨rfl, d6⟩; rw [HSC.out]))
        have B6 := hide (B5.out.trans (d6.below _))
        have z6 := B6.out.size
        clear d6 O3 O4 HSC
        refine (Alike_any _ _ _ xs _ _ _ ys _ (HR.out.below B6.out (Nat.le_refl _)) (HR'.out.below B6.out (Nat.le_refl _)) (by omega) (by omega)).mono ?_
        rintro e w7 ⟨rfl, b7⟩
        rw [HE2.out, Q2.out, HAL.out]
        have B7 := hide (B6.out.trans (b7.mono z6))
        have z7 := B7.out.size
        clear b7
        go_wp2_with fail
        refine (Listen_any _ _ _ xs _ _ _ ys _ (HR.out.below B7.out (Nat.le_refl _)) (HR'.out.below B7.out (Nat.le_refl _)) (by omega) (by omega)).mono ?_
        rintro e w8 ⟨rfl, b8⟩
        rw [HE2.out, Q1.out, Q2.out, HLS.out]
        have B8 := hide (B7.out.trans (b8.mono z7))
        have z8 := B8.out.size
        clear b8
        go_wp2_with fail
        refine (Turn_any _ _ _ xs _ _ (HR.out.below B8.out (Nat.le_refl _)) (by omega)).mono ?_
        rintro e w21 ⟨A21, n21, c21, rfl, o21, b21⟩
        rw [HE.out]
        rw [HE.out, Q3.out] at o21
        have l21 : n21 = n := by have := o21.len; rw [pieceL_length, HL.out] at this; omega
        subst l21
        have O21 := hide o21
        clear o21
        have B21 := hide (B8.out.trans (b21.mono z8))
        have z21 := B21.out.size
        clear b21
        go_wp2_with fail
        refine (Back_any _ _ _ xs _ (HR.out.below B21.out (Nat.le_refl _)) (by omega)).mono ?_
        rintro e w22 ⟨A22, n22, c22, rfl, o22, b22⟩
        rw [HE.out]
        rw [HE.out, Q3.out] at o22
        have l22 : n22 = n21 := by have := o22.len; rw [List.length_reverse, HL.out] at this; omega
        subst l22
        have O22 := hide o22
        clear o22
        replace O21 := hide (O21.out.below b22 (Nat.le_refl _))
        have B22 := hide (B21.out.trans (b22.mono z21))
        have z22 := B22.out.size
        clear b22
        go_wp2_with fail
        refine (Swap_any _ _ _ xs _ (HR.out.below B22.out (Nat.le_refl _)) (by omega)).mono ?_
        rintro e w23 ⟨A23, n23, c23, rfl, o23, b23⟩
        rw [HE.out]
        rw [HE.out, Q3.out] at o23
        have l23 : n23 = n22 := by have := o23.len; rw [swapL_length, HL.out] at this; omega
        subst l23
        have O23 := hide o23
        clear o23
        replace O21 := hide (O21.out.below b23 (Nat.le_refl _))
        replace O22 := hide (O22.out.below b23 (Nat.le_refl _))
        have B23 := hide (B22.out.trans (b23.mono z22))
        have z23 := B23.out.size
        clear b23
        have HX2 := hide (show err2 xs (pieceL xs by_ xs.length) = 0 by unfold err2; rw [if_pos HE.out, (HPX.out by_).2])
        go_wp2_with fail
        refine (Alike_any _ _ _ xs _ _ _ _ _ (HR.out.below B23.out (Nat.le_refl _)) O21.out.row (by omega) (by omega)).mono ?_
        rintro e w24 ⟨rfl, b24⟩
        rw [HX2.out, Q2.out, (HPX.out by_).1, eqL_self]
        replace O21 := hide (O21.out.below b24 (Nat.le_refl _))
        replace O22 := hide (O22.out.below b24 (Nat.le_refl _))
        replace O23 := hide (O23.out.below b24 (Nat.le_refl _))
        have B24 := hide (B23.out.trans (b24.mono z23))
        have z24 := B24.out.size
        clear b24
        go_wp2_with fail
        refine (Period_any _ _ _ _ _ O22.out.row (by omega)).mono ?_
        rintro e w' ⟨rfl, rfl⟩
        rw [HS2.out.2, Q1.out, HPB.out]
        go_wp2_with fail
        refine (Period_any _ _ _ _ _ O23.out.row (by omega)).mono ?_
        rintro e w' ⟨rfl, rfl⟩
        rw [HS1.out.2, Q1.out, HPW.out]
        clear O22 O23
        go_wp2_with fail
        refine (Turn_any _ _ _ _ (-(Int.tmod by_ (n23 : Int))) _ O21.out.row (by omega)).mono ?_
        rintro e w25 ⟨A25, n25, c25, rfl, o25, b25⟩
        rw [(HPX.out by_).2]
        rw [(HPX.out by_).2, Q3.out, HTB.out] at o25
        have l25 : n25 = n23 := by have := o25.len; rw [HL.out] at this; omega
        subst l25
        have O25 := hide o25
        have B25 := hide (B24.out.trans (b25.mono z24))
        have z25 := B25.out.size
        clear o25 b25 O21
        go_wp2_with (first | (go_at_call 12; refine (SameInts_any _ _ _ _ _ _ _ _ _ O25.out.row (HR.out.below B25.out (Nat.le_refl _))).mono ?_; rintro e w26 ⟨rfl, d26⟩; rw [eqL_self]))
        have B26 := hide (B25.out.trans (d26.below _))
        have z26 := B26.out.size
        clear d26 O25
        refine (Repeat_any _ _ _ xs 2 _ (HR.out.below B26.out (Nat.le_refl _)) (by omega)).mono ?_
        rintro e w27 ⟨A27, n27, c27, rfl, o27, b27⟩
        have O27 := hide o27
        have B27 := hide (B26.out.trans (b27.mono z26))
        have z27 := B27.out.size
        clear o27 b27
        go_wp2_with fail
        refine (Root_any _ _ _ xs _ (HR.out.below B27.out (Nat.le_refl _)) (by omega)).mono ?_
        rintro e w28 ⟨A28, n28, c28, rfl, o28, b28⟩
        rw [HE.out]
        rw [HE.out, Q3.out] at o28
        have l28 : n28 = p := by have := o28.len; rw [HRT.out] at this; omega
        subst l28
        have O28 := hide o28
        replace O27 := hide (O27.out.below b28 (Nat.le_refl _))
        have B28 := hide (B27.out.trans (b28.mono z27))
        have z28 := B28.out.size
        clear o28 b28
        by_cases hr : repE xs 2 = 0
        · have HT2 := hide (twice_err HE.out hr)
          have o27 := O27.out
          have e27 : repL xs 2 = _ := repL_ok (k := 2) hr
          rw [e27] at o27
          have l27 : n27 ≤ 1000 := by have := o27.len; rw [pieceL_length, HL.out] at this; omega
          have O27 := hide o27
          clear o27
          rw [hr]
          clear hr
          go_wp2_with fail
          refine (Root_any _ _ _ (pieceL xs 0 (xs.length * 2)) _ O27.out.row l27).mono ?_
          rintro e w29 ⟨A29, n29, c29, rfl, o29, b29⟩
          rw [HT2.out.1]
          rw [HT2.out.1, Q3.out] at o29
          have O29 := hide o29
          replace O28 := hide (O28.out.below b29 (Nat.le_refl _))
          have B29 := hide (B28.out.trans (b29.mono z28))
          have z29 := B29.out.size
          clear o29 b29
          go_wp2_with (first | (go_at_call 12; refine (SameInts_any _ _ _ _ _ _ _ _ _ O28.out.row O29.out.row).mono ?_; rintro e w30 ⟨rfl, d30⟩; rw [HT2.out.2]))
          go_ret
          exact ⟨rfl, B29.out.trans (d30.below _)⟩
        · have hr1 : (repE xs 2 != 0) = true := by simp [hr]
          have hb := twice_big HE.out hr
          rw [HL.out] at hb
          have hw : IntKind.i64.wrap (2 * (n25 : Int)) = 2 * (n25 : Int) := IntWalk.i64_in _ (by omega)
          have hd : decide ((24 : Int) < 2 * (n25 : Int)) = true := by simpa using hb
          go_wp2_with fail
          go_ret
          exact ⟨rfl, B28.out⟩
    · as_aux_lemma =>
        go_wp2_with (first | (go_at_call 12; refine (SameInts_any _ _ _ _ _ _ _ _ _ O3.out.row O4.out.row).mono ?_; rintro e w6 ⟨rfl, d6⟩; rw [HSC.out]))
        have B6 := hide (B5.out.trans (d6.below _))
        have z6 := B6.out.size
        clear d6 O3 O4 HSC
        refine (Alike_any _ _ _ xs _ _ _ ys _ (HR.out.below B6.out (Nat.le_refl _)) (HR'.out.below B6.out (Nat.le_refl _)) (by omega) (by omega)).mono ?_
        rintro e w7 ⟨rfl, b7⟩
        rw [HE2.out, Q2.out, HAL.out]
        have B7 := hide (B6.out.trans (b7.mono z6))
        have z7 := B7.out.size
        clear b7
        go_wp2_with fail
        refine (Listen_any _ _ _ xs _ _ _ ys _ (HR.out.below B7.out (Nat.le_refl _)) (HR'.out.below B7.out (Nat.le_refl _)) (by omega) (by omega)).mono ?_
        rintro e w8 ⟨rfl, b8⟩
        rw [HE2.out, Q1.out, Q2.out, HLS.out]
        have B8 := hide (B7.out.trans (b8.mono z7))
        have z8 := B8.out.size
        clear b8
        go_wp2_with fail
        refine (Turn_any _ _ _ xs _ _ (HR.out.below B8.out (Nat.le_refl _)) (by omega)).mono ?_
        rintro e w21 ⟨A21, n21, c21, rfl, o21, b21⟩
        rw [HE.out]
        rw [HE.out, Q3.out] at o21
        have l21 : n21 = n := by have := o21.len; rw [pieceL_length, HL.out] at this; omega
        subst l21
        have O21 := hide o21
        clear o21
        have B21 := hide (B8.out.trans (b21.mono z8))
        have z21 := B21.out.size
        clear b21
        go_wp2_with fail
        refine (Back_any _ _ _ xs _ (HR.out.below B21.out (Nat.le_refl _)) (by omega)).mono ?_
        rintro e w22 ⟨A22, n22, c22, rfl, o22, b22⟩
        rw [HE.out]
        rw [HE.out, Q3.out] at o22
        have l22 : n22 = n21 := by have := o22.len; rw [List.length_reverse, HL.out] at this; omega
        subst l22
        have O22 := hide o22
        clear o22
        replace O21 := hide (O21.out.below b22 (Nat.le_refl _))
        have B22 := hide (B21.out.trans (b22.mono z21))
        have z22 := B22.out.size
        clear b22
        go_wp2_with fail
        refine (Swap_any _ _ _ xs _ (HR.out.below B22.out (Nat.le_refl _)) (by omega)).mono ?_
        rintro e w23 ⟨A23, n23, c23, rfl, o23, b23⟩
        rw [HE.out]
        rw [HE.out, Q3.out] at o23
        have l23 : n23 = n22 := by have := o23.len; rw [swapL_length, HL.out] at this; omega
        subst l23
        have O23 := hide o23
        clear o23
        replace O21 := hide (O21.out.below b23 (Nat.le_refl _))
        replace O22 := hide (O22.out.below b23 (Nat.le_refl _))
        have B23 := hide (B22.out.trans (b23.mono z22))
        have z23 := B23.out.size
        clear b23
        have HX2 := hide (show err2 xs (pieceL xs by_ xs.length) = 0 by unfold err2; rw [if_pos HE.out, (HPX.out by_).2])
        go_wp2_with fail
        refine (Alike_any _ _ _ xs _ _ _ _ _ (HR.out.below B23.out (Nat.le_refl _)) O21.out.row (by omega) (by omega)).mono ?_
        rintro e w24 ⟨rfl, b24⟩
        rw [HX2.out, Q2.out, (HPX.out by_).1, eqL_self]
        replace O21 := hide (O21.out.below b24 (Nat.le_refl _))
        replace O22 := hide (O22.out.below b24 (Nat.le_refl _))
        replace O23 := hide (O23.out.below b24 (Nat.le_refl _))
        have B24 := hide (B23.out.trans (b24.mono z23))
        have z24 := B24.out.size
        clear b24
        go_wp2_with fail
        refine (Period_any _ _ _ _ _ O22.out.row (by omega)).mono ?_
        rintro e w' ⟨rfl, rfl⟩
        rw [HS2.out.2, Q1.out, HPB.out]
        go_wp2_with fail
        refine (Period_any _ _ _ _ _ O23.out.row (by omega)).mono ?_
        rintro e w' ⟨rfl, rfl⟩
        rw [HS1.out.2, Q1.out, HPW.out]
        clear O22 O23
        go_wp2_with fail
        refine (Turn_any _ _ _ _ (-(Int.tmod by_ (n23 : Int))) _ O21.out.row (by omega)).mono ?_
        rintro e w25 ⟨A25, n25, c25, rfl, o25, b25⟩
        rw [(HPX.out by_).2]
        rw [(HPX.out by_).2, Q3.out, HTB.out] at o25
        have l25 : n25 = n23 := by have := o25.len; rw [HL.out] at this; omega
        subst l25
        have O25 := hide o25
        have B25 := hide (B24.out.trans (b25.mono z24))
        have z25 := B25.out.size
        clear o25 b25 O21
        go_wp2_with (first | (go_at_call 12; refine (SameInts_any _ _ _ _ _ _ _ _ _ O25.out.row (HR.out.below B25.out (Nat.le_refl _))).mono ?_; rintro e w26 ⟨rfl, d26⟩; rw [eqL_self]))
        have B26 := hide (B25.out.trans (d26.below _))
        have z26 := B26.out.size
        clear d26 O25
        refine (Repeat_any _ _ _ xs 2 _ (HR.out.below B26.out (Nat.le_refl _)) (by omega)).mono ?_
        rintro e w27 ⟨A27, n27, c27, rfl, o27, b27⟩
        have O27 := hide o27
        have B27 := hide (B26.out.trans (b27.mono z26))
        have z27 := B27.out.size
        clear o27 b27
        go_wp2_with fail
        refine (Root_any _ _ _ xs _ (HR.out.below B27.out (Nat.le_refl _)) (by omega)).mono ?_
        rintro e w28 ⟨A28, n28, c28, rfl, o28, b28⟩
        rw [HE.out]
        rw [HE.out, Q3.out] at o28
        have l28 : n28 = p := by have := o28.len; rw [HRT.out] at this; omega
        subst l28
        have O28 := hide o28
        replace O27 := hide (O27.out.below b28 (Nat.le_refl _))
        have B28 := hide (B27.out.trans (b28.mono z27))
        have z28 := B28.out.size
        clear o28 b28
        by_cases hr : repE xs 2 = 0
        · have HT2 := hide (twice_err HE.out hr)
          have o27 := O27.out
          have e27 : repL xs 2 = _ := repL_ok (k := 2) hr
          rw [e27] at o27
          have l27 : n27 ≤ 1000 := by have := o27.len; rw [pieceL_length, HL.out] at this; omega
          have O27 := hide o27
          clear o27
          rw [hr]
          clear hr
          go_wp2_with fail
          refine (Root_any _ _ _ (pieceL xs 0 (xs.length * 2)) _ O27.out.row l27).mono ?_
          rintro e w29 ⟨A29, n29, c29, rfl, o29, b29⟩
          rw [HT2.out.1]
          rw [HT2.out.1, Q3.out] at o29
          have O29 := hide o29
          replace O28 := hide (O28.out.below b29 (Nat.le_refl _))
          have B29 := hide (B28.out.trans (b29.mono z28))
          have z29 := B29.out.size
          clear o29 b29
          go_wp2_with (first | (go_at_call 12; refine (SameInts_any _ _ _ _ _ _ _ _ _ O28.out.row O29.out.row).mono ?_; rintro e w30 ⟨rfl, d30⟩; rw [HT2.out.2]))
          go_ret
          exact ⟨rfl, B29.out.trans (d30.below _)⟩
        · have hr1 : (repE xs 2 != 0) = true := by simp [hr]
          have hb := twice_big HE.out hr
          rw [HL.out] at hb
          have hw : IntKind.i64.wrap (2 * (n25 : Int)) = 2 * (n25 : Int) := IntWalk.i64_in _ (by omega)
          have hd : decide ((24 : Int) < 2 * (n25 : Int)) = true := by simpa using hb
          go_wp2_with fail
          go_ret
          exact ⟨rfl, B28.out⟩
  · subst hsm
    have HAL := hide hal
    have HLS := hide hls
    have HT := hide (two_tell HE.out HE'.out hls hd3)
    have HSM := hide (small_two HE.out HE'.out)
    clear hal hls HLI
    as_aux_lemma =>
      go_wp2_with (first | (go_at_call 12; refine (SameInts_any _ _ _ _ _ _ _ _ _ O3.out.row O4.out.row).mono ?_; rintro e w6 ⟨rfl, d6⟩; rw [HSC.out]))
      have B6 := hide (B5.out.trans (d6.below _))
      have z6 := B6.out.size
      clear d6 O3 O4 HSC
      refine (Alike_any _ _ _ xs _ _ _ ys _ (HR.out.below B6.out (Nat.le_refl _)) (HR'.out.below B6.out (Nat.le_refl _)) (by omega) (by omega)).mono ?_
      rintro e w7 ⟨rfl, b7⟩
      rw [HE2.out, Q2.out, HAL.out]
      have B7 := hide (B6.out.trans (b7.mono z6))
      have z7 := B7.out.size
      clear b7
      go_wp2_with fail
      refine (Listen_any _ _ _ xs _ _ _ ys _ (HR.out.below B7.out (Nat.le_refl _)) (HR'.out.below B7.out (Nat.le_refl _)) (by omega) (by omega)).mono ?_
      rintro e w8 ⟨rfl, b8⟩
      rw [HE2.out, Q1.out, Q2.out, HLS.out]
      have B8 := hide (B7.out.trans (b8.mono z7))
      have z8 := B8.out.size
      clear b8
      go_wp2_with fail
      refine (cut_any _ _ _ xs 0 d _ (HR.out.below B8.out (Nat.le_refl _)) (by omega) HE.out (by omega) (by omega) (by omega)).mono ?_
      rintro e w9 ⟨A9, c9, rfl, o9, b9⟩
      have O9 := hide o9
      clear o9
      have B9 := hide (B8.out.trans (b9.mono z8))
      have z9 := B9.out.size
      clear b9
      go_wp2_with fail
      refine (Tell_any _ _ _ [xs, ys] _ _ _ (pieceL xs 0 d) _ (grid_two (HR.out.below B9.out (Nat.le_refl _)) (HR'.out.below B9.out (Nat.le_refl _))) (O9.out.alloc _).row HSM.out (by omega)).mono ?_
      rintro e w10 ⟨A10, n10, c10, rfl, o10, b10⟩
      rw [HT.out.1]
      rw [HT.out.2] at o10
      have O10 := hide o10
      have B10 := hide (B9.out.trans ((((Below.refl w9.heap.size w9).alloc (Nat.le_refl _) _).trans (b10.mono (by simp))).mono z9))
      have z10 := B10.out.size
      have h10 : n10 = 1 := o10.len.symm
      subst h10
      clear o10 b10
      go_wp2_with (first | (go_at_call 12; refine (SameInts_any _ _ _ [0] _ _ _ [0] _ (O10.out.alloc _).row (Own.lit w10 [0] (Nat.le_refl _) (by simp [maxLen])).row).mono ?_; rintro e w11 ⟨rfl, d11⟩; rw [eqL_self]))
      have B11 := hide (B10.out.trans ((((Below.refl w10.heap.size w10).alloc (Nat.le_refl _) _).trans (d11.below _)).mono z10))
      have z11 := B11.out.size
      clear d11 O9 O10
      refine (Turn_any _ _ _ xs _ _ (HR.out.below B11.out (Nat.le_refl _)) (by omega)).mono ?_
      rintro e w21 ⟨A21, n21, c21, rfl, o21, b21⟩
      rw [HE.out]
      rw [HE.out, Q3.out] at o21
      have l21 : n21 = n := by have := o21.len; rw [pieceL_length, HL.out] at this; omega
      subst l21
      have O21 := hide o21
      clear o21
      have B21 := hide (B11.out.trans (b21.mono z11))
      have z21 := B21.out.size
      clear b21
      go_wp2_with fail
      refine (Back_any _ _ _ xs _ (HR.out.below B21.out (Nat.le_refl _)) (by omega)).mono ?_
      rintro e w22 ⟨A22, n22, c22, rfl, o22, b22⟩
      rw [HE.out]
      rw [HE.out, Q3.out] at o22
      have l22 : n22 = n21 := by have := o22.len; rw [List.length_reverse, HL.out] at this; omega
      subst l22
      have O22 := hide o22
      clear o22
      replace O21 := hide (O21.out.below b22 (Nat.le_refl _))
      have B22 := hide (B21.out.trans (b22.mono z21))
      have z22 := B22.out.size
      clear b22
      go_wp2_with fail
      refine (Swap_any _ _ _ xs _ (HR.out.below B22.out (Nat.le_refl _)) (by omega)).mono ?_
      rintro e w23 ⟨A23, n23, c23, rfl, o23, b23⟩
      rw [HE.out]
      rw [HE.out, Q3.out] at o23
      have l23 : n23 = n22 := by have := o23.len; rw [swapL_length, HL.out] at this; omega
      subst l23
      have O23 := hide o23
      clear o23
      replace O21 := hide (O21.out.below b23 (Nat.le_refl _))
      replace O22 := hide (O22.out.below b23 (Nat.le_refl _))
      have B23 := hide (B22.out.trans (b23.mono z22))
      have z23 := B23.out.size
      clear b23
      have HX2 := hide (show err2 xs (pieceL xs by_ xs.length) = 0 by unfold err2; rw [if_pos HE.out, (HPX.out by_).2])
      go_wp2_with fail
      refine (Alike_any _ _ _ xs _ _ _ _ _ (HR.out.below B23.out (Nat.le_refl _)) O21.out.row (by omega) (by omega)).mono ?_
      rintro e w24 ⟨rfl, b24⟩
      rw [HX2.out, Q2.out, (HPX.out by_).1, eqL_self]
      replace O21 := hide (O21.out.below b24 (Nat.le_refl _))
      replace O22 := hide (O22.out.below b24 (Nat.le_refl _))
      replace O23 := hide (O23.out.below b24 (Nat.le_refl _))
      have B24 := hide (B23.out.trans (b24.mono z23))
      have z24 := B24.out.size
      clear b24
      go_wp2_with fail
      refine (Period_any _ _ _ _ _ O22.out.row (by omega)).mono ?_
      rintro e w' ⟨rfl, rfl⟩
      rw [HS2.out.2, Q1.out, HPB.out]
      go_wp2_with fail
      refine (Period_any _ _ _ _ _ O23.out.row (by omega)).mono ?_
      rintro e w' ⟨rfl, rfl⟩
      rw [HS1.out.2, Q1.out, HPW.out]
      clear O22 O23
      go_wp2_with fail
      refine (Turn_any _ _ _ _ (-(Int.tmod by_ (n23 : Int))) _ O21.out.row (by omega)).mono ?_
      rintro e w25 ⟨A25, n25, c25, rfl, o25, b25⟩
      rw [(HPX.out by_).2]
      rw [(HPX.out by_).2, Q3.out, HTB.out] at o25
      have l25 : n25 = n23 := by have := o25.len; rw [HL.out] at this; omega
      subst l25
      have O25 := hide o25
      have B25 := hide (B24.out.trans (b25.mono z24))
      have z25 := B25.out.size
      clear o25 b25 O21
      go_wp2_with (first | (go_at_call 12; refine (SameInts_any _ _ _ _ _ _ _ _ _ O25.out.row (HR.out.below B25.out (Nat.le_refl _))).mono ?_; rintro e w26 ⟨rfl, d26⟩; rw [eqL_self]))
      have B26 := hide (B25.out.trans (d26.below _))
      have z26 := B26.out.size
      clear d26 O25
      refine (Repeat_any _ _ _ xs 2 _ (HR.out.below B26.out (Nat.le_refl _)) (by omega)).mono ?_
      rintro e w27 ⟨A27, n27, c27, rfl, o27, b27⟩
      have O27 := hide o27
      have B27 := hide (B26.out.trans (b27.mono z26))
      have z27 := B27.out.size
      clear o27 b27
      go_wp2_with fail
      refine (Root_any _ _ _ xs _ (HR.out.below B27.out (Nat.le_refl _)) (by omega)).mono ?_
      rintro e w28 ⟨A28, n28, c28, rfl, o28, b28⟩
      rw [HE.out]
      rw [HE.out, Q3.out] at o28
      have l28 : n28 = p := by have := o28.len; rw [HRT.out] at this; omega
      subst l28
      have O28 := hide o28
      replace O27 := hide (O27.out.below b28 (Nat.le_refl _))
      have B28 := hide (B27.out.trans (b28.mono z27))
      have z28 := B28.out.size
      clear o28 b28
      by_cases hr : repE xs 2 = 0
      · have HT2 := hide (twice_err HE.out hr)
        have o27 := O27.out
        have e27 : repL xs 2 = _ := repL_ok (k := 2) hr
        rw [e27] at o27
        have l27 : n27 ≤ 1000 := by have := o27.len; rw [pieceL_length, HL.out] at this; omega
        have O27 := hide o27
        clear o27
        rw [hr]
        clear hr
        go_wp2_with fail
        refine (Root_any _ _ _ (pieceL xs 0 (xs.length * 2)) _ O27.out.row l27).mono ?_
        rintro e w29 ⟨A29, n29, c29, rfl, o29, b29⟩
        rw [HT2.out.1]
        rw [HT2.out.1, Q3.out] at o29
        have O29 := hide o29
        replace O28 := hide (O28.out.below b29 (Nat.le_refl _))
        have B29 := hide (B28.out.trans (b29.mono z28))
        have z29 := B29.out.size
        clear o29 b29
        go_wp2_with (first | (go_at_call 12; refine (SameInts_any _ _ _ _ _ _ _ _ _ O28.out.row O29.out.row).mono ?_; rintro e w30 ⟨rfl, d30⟩; rw [HT2.out.2]))
        go_ret
        exact ⟨rfl, B29.out.trans (d30.below _)⟩
      · have hr1 : (repE xs 2 != 0) = true := by simp [hr]
        have hb := twice_big HE.out hr
        rw [HL.out] at hb
        have hw : IntKind.i64.wrap (2 * (n25 : Int)) = 2 * (n25 : Int) := IntWalk.i64_in _ (by omega)
        have hd : decide ((24 : Int) < 2 * (n25 : Int)) = true := by simpa using hb
        go_wp2_with fail
        go_ret
        exact ⟨rfl, B28.out⟩

end Go.Proofs.Ytbadihbcjdibeaa
