/- What RelayAnswers does at any two boxes and word. -/
import Derived.Test.YtkjnhdkbojcojaaWkRuns
import Derived.Test.YtkjnhdkbojcojaaWalkTq
namespace Go.Proofs.Ytkjnhdkbojcojaa
open Go.RowKit Go.Shelf
attribute [local go_sem] Oper.semAt_some

set_option maxRecDepth 100000 in
set_option maxHeartbeats 8000000 in
theorem RelayAnswers_walk (A : Option Addr) (n c : Nat) (A' : Option Addr) (n' c' : Nat) (a : Bx) (B : Option Addr) (p q : Nat) (B' : Option Addr) (p' q' : Nat) (b : Bx) (L : Option Addr) (m d : Nat) (l : List Int) (w : World) (ha : BxR w A n c A' n' c' a) (hb : BxR w B p q B' p' q' b) (hw : R E1 w L m d l) :
    Calls Try.prog 9 #[bV A n c A' n' c', bV B p q B' p' q', .slice L m d] w fun e w' => e = .returned (.bool true) ∧ Below w.heap.size w w' := by
  have D0 := hide (show Below w.heap.size w ((w.alloc (.cells #[.slice A n c, .slice A' n' c'] 25)).alloc (.cells #[.slice B p q, .slice B' p' q'] 25)) from le_two (le_two (Below.refl _ _) _) _)
  have K0 := hide (show Bk ((w.alloc (.cells #[.slice A n c, .slice A' n' c'] 25)).alloc (.cells #[.slice B p q, .slice B' p' q'] 25)) w.heap.size 25 #[.slice A n c, .slice A' n' c'] from (Bk.born w 25 #[.slice A n c, .slice A' n' c']).more (.cells #[.slice B p q, .slice B' p' q'] 25))
  have K1 := hide (Bk.born (w.alloc (.cells #[.slice A n c, .slice A' n' c'] 25)) 25 #[.slice B p q, .slice B' p' q'])
  rw [show (w.alloc (.cells #[.slice A n c, .slice A' n' c'] 25)).heap.size = w.heap.size + 1 from by simp] at K1
  have HA := hide (ha.below D0.out (Nat.le_refl _))
  have HB := hide (hb.below D0.out (Nat.le_refl _))
  have H0 := hide (Below.refl ((w.alloc (.cells #[.slice A n c, .slice A' n' c'] 25)).alloc (.cells #[.slice B p q, .slice B' p' q'] 25)).heap.size ((w.alloc (.cells #[.slice A n c, .slice A' n' c'] 25)).alloc (.cells #[.slice B p q, .slice B' p' q'] 25)))
  have hle := ha.nx.le
  have hle' := ha.ou.le
  have hlb := hb.nx.le
  have hlb' := hb.ou.le
  have HNA := hide ha.nx.length
  have HOA := hide ha.ou.length
  have HNB := hide hb.nx.length
  have HOB := hide hb.ou.length
  have HW := hide (hw.below D0.out (Nat.le_refl _))
  have HML := hide hw.length
  have HH1 := hide (show R EH (((w.alloc (.cells #[.slice A n c, .slice A' n' c'] 25)).alloc (.cells #[.slice B p q, .slice B' p' q'] 25)).alloc (.cells #[.slice L m d] 23)) (some ⟨w.heap.size + 1 + 1, 0, none⟩) 1 1 [(L, m, d)] from by
    have := hd_one ((w.alloc (.cells #[.slice A n c, .slice A' n' c'] 25)).alloc (.cells #[.slice B p q, .slice B' p' q'] 25)) (L, m, d)
    rwa [show ((w.alloc (.cells #[.slice A n c, .slice A' n' c'] 25)).alloc (.cells #[.slice B p q, .slice B' p' q'] 25)).heap.size = w.heap.size + 1 + 1 from by simp] at this)
  clear ha hb hw
  cases hlg : longB n n' [(L, m, d)] with
  | true =>
    have HLG := hide hlg
    clear hlg
    go_enter Try.func9, Try.ntmps9
    go_wp2_with (first
      | (have hgd := H1; clear hgd; go_at_call 20; refine (sane_any _).mono ?_; rintro e2 w2 ⟨rfl, b2⟩; have H2 := hide (le_call H1.out b2); have f0_2 := bk_two (K0.out.keep H2.out K0.out.in_); have f1a_2 := bk_two (K1.out.keep H2.out K1.out.in_); clear b2)
      | (have hgd := H0; clear hgd; go_at_call 19; refine (Long_any A n c A' n' c' _ 1 1 [(L, m, d)] _ HH1.out hle hle').mono ?_; rintro e1 w1 ⟨rfl, b1⟩; rw [HLG.out]; have H1 := hide (le_call (le_two H0.out (.cells #[.slice L m d] 23)) b1); have f0_1 := bk_two (K0.out.keep H1.out K0.out.in_); have f1a_1 := bk_two (K1.out.keep H1.out K1.out.in_); clear b1))
    go_ret
    exact ⟨rfl, le_call D0.out H2.out⟩
  | false =>
    have HLG := hide hlg
    have hm : m ≤ 100 := (longB_no hlg).2.2 (L, m, d) (by simp)
    clear hlg
    cases hlg2 : longB p p' [] with
    | true =>
      have HLG2 := hide hlg2
      clear hlg2
      go_enter Try.func9, Try.ntmps9
      go_wp2_with (first
        | (have hgd := H2; clear hgd; go_at_call 20; refine (sane_any _).mono ?_; rintro e3 w3 ⟨rfl, b3⟩; have H3 := hide (le_call H2.out b3); have f0_3 := bk_two (K0.out.keep H3.out K0.out.in_); have f1a_3 := bk_two (K1.out.keep H3.out K1.out.in_); clear b3)
        | (have hgd := H1; clear hgd; go_at_call 19; refine (Long_any B p q B' p' q' none 0 0 [] _ (R.nil EH _) hlb hlb').mono ?_; rintro e2 w2 ⟨rfl, b2⟩; rw [HLG2.out]; have H2 := hide (le_call H1.out b2); have f0_2 := bk_two (K0.out.keep H2.out K0.out.in_); have f1a_2 := bk_two (K1.out.keep H2.out K1.out.in_); clear b2)
        | (have hgd := H0; clear hgd; go_at_call 19; refine (Long_any A n c A' n' c' _ 1 1 [(L, m, d)] _ HH1.out hle hle').mono ?_; rintro e1 w1 ⟨rfl, b1⟩; rw [HLG.out]; have H1 := hide (le_call (le_two H0.out (.cells #[.slice L m d] 23)) b1); have f0_1 := bk_two (K0.out.keep H1.out K0.out.in_); have f1a_1 := bk_two (K1.out.keep H1.out K1.out.in_); clear b1))
      go_ret
      exact ⟨rfl, le_call D0.out H3.out⟩
    | false =>
      have HLG2 := hide hlg2
      clear hlg2
      by_cases e1 : errW a l = 0
      · have q1 : (errW a l != 0) = false := by simp [e1]
        by_cases e2 : errW b l = 0
        · have q2 : (errW b l != 0) = false := by simp [e2]
          have oka := (errW_ok e1).1
          have okb := (errW_ok e2).1
          have HTE := hide (show errTw a b = 0 from by rw [errTw, if_pos (errX_ok oka)]; exact errX_ok okb)
          have HTF := hide (tellF_ok HTE.out)
          have HIN := hide (inp_of e1)
          have HR1 := hide (runF_ok e1)
          have HR2 := hide (runF_ok e2)
          have HL1 := hide (show (runF a l).length ≤ 101 ∧ (runF b l).length ≤ 101 from by rw [runF_ok e1, runF_ok e2, run_len, run_len, HML.out]; omega)
          by_cases hq : runV a l = runV b l
          · have HQ := hide (show (runF a l == runF b l) = true from by rw [HR1.out, HR2.out, hq]; exact beq_self_eq_true _)
            clear e1 e2 oka okb hq
            go_enter Try.func9, Try.ntmps9
            go_wp2_with (first
              | (have hgd := H6; clear hgd; go_at_call 20; refine (sane_any _).mono ?_; rintro e7 w7 ⟨rfl, b7⟩; have H7 := hide (le_call H6.out b7); have R3_7 := hide (le_call R3_6.out b7); have R4_7 := hide (le_call R4_6.out b7); have R5_7 := hide (le_call R5_6.out b7); have f0_7 := bk_two (K0.out.keep H7.out K0.out.in_); have f1a_7 := bk_two (K1.out.keep H7.out K1.out.in_); clear b7)
              | (have hgd := H5; clear hgd; go_at_call 27; refine (SameInts_any A3 n3 c3 A4 n4 c4 (runF a l) (runF b l) _ (O3.out.row.below R3_5.out (Nat.le_refl _)) (O4.out.row.below R4_5.out (Nat.le_refl _)) (by have h1 := LN3.out; have h2 := HL1.out.1; omega) (by have h1 := LN4.out; have h2 := HL1.out.2; omega)).mono ?_; rintro e6 w6 ⟨rfl, qq, hqq⟩; have b6 := (show Below w5.heap.size w5 w6 from (by rw [hqq]; exact below_drewN (Below.refl _ _) qq)); clear hqq; rw [HQ.out]; have H6 := hide (le_call H5.out b6); have R3_6 := hide (le_call R3_5.out b6); have R4_6 := hide (le_call R4_5.out b6); have R5_6 := hide (le_call R5_5.out b6); have f0_6 := bk_two (K0.out.keep H6.out K0.out.in_); have f1a_6 := bk_two (K1.out.keep H6.out K1.out.in_); clear b6)
              | (have hgd := H4; clear hgd; go_at_call 39; refine (Tell_any A n c A' n' c' a B p q B' p' q' b _ (HA.out.below H4.out (Nat.le_refl _)) (HB.out.below H4.out (Nat.le_refl _))).mono ?_; rw [HTE.out]; rintro e5 w5 ⟨A5, n5, c5, rfl, o5, b5⟩; have H5 := hide (le_call H4.out b5); have R3_5 := hide (le_call R3_4.out b5); have R4_5 := hide (le_call R4_4.out b5); have f0_5 := bk_two (K0.out.keep H5.out K0.out.in_); have f1a_5 := bk_two (K1.out.keep H5.out K1.out.in_); have O5 := hide o5; have LN5 := hide o5.len; have R5_5 := hide (Below.refl w5.heap.size w5); clear o5; clear b5)
              | (have hgd := H3; clear hgd; go_at_call 21; refine (Run_any B p q B' p' q' b L m d l _ (HB.out.below H3.out (Nat.le_refl _)) (HW.out.below H3.out (Nat.le_refl _))).mono ?_; rintro e4 w4 ⟨A4, n4, c4, rfl, o4, b4⟩; have H4 := hide (le_call H3.out b4); have R3_4 := hide (le_call R3_3.out b4); have f0_4 := bk_two (K0.out.keep H4.out K0.out.in_); have f1a_4 := bk_two (K1.out.keep H4.out K1.out.in_); have O4 := hide o4; have LN4 := hide o4.len; have R4_4 := hide (Below.refl w4.heap.size w4); clear o4; clear b4)
              | (have hgd := H2; clear hgd; go_at_call 21; refine (Run_any A n c A' n' c' a L m d l _ (HA.out.below H2.out (Nat.le_refl _)) (HW.out.below H2.out (Nat.le_refl _))).mono ?_; rintro e3 w3 ⟨A3, n3, c3, rfl, o3, b3⟩; have H3 := hide (le_call H2.out b3); have f0_3 := bk_two (K0.out.keep H3.out K0.out.in_); have f1a_3 := bk_two (K1.out.keep H3.out K1.out.in_); have O3 := hide o3; have LN3 := hide o3.len; have R3_3 := hide (Below.refl w3.heap.size w3); clear o3; clear b3)
              | (have hgd := H1; clear hgd; go_at_call 19; refine (Long_any B p q B' p' q' none 0 0 [] _ (R.nil EH _) hlb hlb').mono ?_; rintro e2 w2 ⟨rfl, b2⟩; rw [HLG2.out]; have H2 := hide (le_call H1.out b2); have f0_2 := bk_two (K0.out.keep H2.out K0.out.in_); have f1a_2 := bk_two (K1.out.keep H2.out K1.out.in_); clear b2)
              | (have hgd := H0; clear hgd; go_at_call 19; refine (Long_any A n c A' n' c' _ 1 1 [(L, m, d)] _ HH1.out hle hle').mono ?_; rintro e1 w1 ⟨rfl, b1⟩; rw [HLG.out]; have H1 := hide (le_call (le_two H0.out (.cells #[.slice L m d] 23)) b1); have f0_1 := bk_two (K0.out.keep H1.out K0.out.in_); have f1a_1 := bk_two (K1.out.keep H1.out K1.out.in_); clear b1))
            go_ret
            exact ⟨rfl, le_call D0.out H7.out⟩
          · obtain ⟨u, hu, hul⟩ := tell_answers oka okb HIN.out hq
            have HQ := hide (show (runF a l == runF b l) = false from by rw [HR1.out, HR2.out]; exact beq_eq_false_iff_ne.2 hq)
            have HU := hide hu
            rw [HML.out] at hul
            have hui : (u.length : Int) ≤ (m : Int) := by omega
            clear e1 e2 oka okb hq hu
            go_enter Try.func9, Try.ntmps9
            go_wp2_with (first
              | (have hgd := H6; clear hgd; go_at_call 20; refine (sane_any _).mono ?_; rintro e7 w7 ⟨rfl, b7⟩; have H7 := hide (le_call H6.out b7); have R3_7 := hide (le_call R3_6.out b7); have R4_7 := hide (le_call R4_6.out b7); have R5_7 := hide (le_call R5_6.out b7); have f0_7 := bk_two (K0.out.keep H7.out K0.out.in_); have f1a_7 := bk_two (K1.out.keep H7.out K1.out.in_); clear b7)
              | (have hgd := H5; clear hgd; go_at_call 27; refine (SameInts_any A3 n3 c3 A4 n4 c4 (runF a l) (runF b l) _ (O3.out.row.below R3_5.out (Nat.le_refl _)) (O4.out.row.below R4_5.out (Nat.le_refl _)) (by have h1 := LN3.out; have h2 := HL1.out.1; omega) (by have h1 := LN4.out; have h2 := HL1.out.2; omega)).mono ?_; rintro e6 w6 ⟨rfl, qq, hqq⟩; have b6 := (show Below w5.heap.size w5 w6 from (by rw [hqq]; exact below_drewN (Below.refl _ _) qq)); clear hqq; rw [HQ.out]; have H6 := hide (le_call H5.out b6); have R3_6 := hide (le_call R3_5.out b6); have R4_6 := hide (le_call R4_5.out b6); have R5_6 := hide (le_call R5_5.out b6); have f0_6 := bk_two (K0.out.keep H6.out K0.out.in_); have f1a_6 := bk_two (K1.out.keep H6.out K1.out.in_); clear b6)
              | (have hgd := H4; clear hgd; go_at_call 39; refine (Tell_any A n c A' n' c' a B p q B' p' q' b _ (HA.out.below H4.out (Nat.le_refl _)) (HB.out.below H4.out (Nat.le_refl _))).mono ?_; rw [HTE.out, HTF.out, HU.out]; rintro e5 w5 ⟨A5, n5, c5, rfl, o5, b5⟩; have H5 := hide (le_call H4.out b5); have R3_5 := hide (le_call R3_4.out b5); have R4_5 := hide (le_call R4_4.out b5); have f0_5 := bk_two (K0.out.keep H5.out K0.out.in_); have f1a_5 := bk_two (K1.out.keep H5.out K1.out.in_); have hnl : n5 = u.length := o5.len.symm; subst hnl; have O5 := hide o5; have R5_5 := hide (Below.refl w5.heap.size w5); clear o5; clear b5)
              | (have hgd := H3; clear hgd; go_at_call 21; refine (Run_any B p q B' p' q' b L m d l _ (HB.out.below H3.out (Nat.le_refl _)) (HW.out.below H3.out (Nat.le_refl _))).mono ?_; rintro e4 w4 ⟨A4, n4, c4, rfl, o4, b4⟩; have H4 := hide (le_call H3.out b4); have R3_4 := hide (le_call R3_3.out b4); have f0_4 := bk_two (K0.out.keep H4.out K0.out.in_); have f1a_4 := bk_two (K1.out.keep H4.out K1.out.in_); have O4 := hide o4; have LN4 := hide o4.len; have R4_4 := hide (Below.refl w4.heap.size w4); clear o4; clear b4)
              | (have hgd := H2; clear hgd; go_at_call 21; refine (Run_any A n c A' n' c' a L m d l _ (HA.out.below H2.out (Nat.le_refl _)) (HW.out.below H2.out (Nat.le_refl _))).mono ?_; rintro e3 w3 ⟨A3, n3, c3, rfl, o3, b3⟩; have H3 := hide (le_call H2.out b3); have f0_3 := bk_two (K0.out.keep H3.out K0.out.in_); have f1a_3 := bk_two (K1.out.keep H3.out K1.out.in_); have O3 := hide o3; have LN3 := hide o3.len; have R3_3 := hide (Below.refl w3.heap.size w3); clear o3; clear b3)
              | (have hgd := H1; clear hgd; go_at_call 19; refine (Long_any B p q B' p' q' none 0 0 [] _ (R.nil EH _) hlb hlb').mono ?_; rintro e2 w2 ⟨rfl, b2⟩; rw [HLG2.out]; have H2 := hide (le_call H1.out b2); have f0_2 := bk_two (K0.out.keep H2.out K0.out.in_); have f1a_2 := bk_two (K1.out.keep H2.out K1.out.in_); clear b2)
              | (have hgd := H0; clear hgd; go_at_call 19; refine (Long_any A n c A' n' c' _ 1 1 [(L, m, d)] _ HH1.out hle hle').mono ?_; rintro e1 w1 ⟨rfl, b1⟩; rw [HLG.out]; have H1 := hide (le_call (le_two H0.out (.cells #[.slice L m d] 23)) b1); have f0_1 := bk_two (K0.out.keep H1.out K0.out.in_); have f1a_1 := bk_two (K1.out.keep H1.out K1.out.in_); clear b1))
            go_ret
            exact ⟨rfl, le_call D0.out H7.out⟩
        · have q2 : (errW b l != 0) = true := by simp [e2]
          clear e1 e2
          go_enter Try.func9, Try.ntmps9
          go_wp2_with (first
            | (have hgd := H4; clear hgd; go_at_call 20; refine (sane_any _).mono ?_; rintro e5 w5 ⟨rfl, b5⟩; have H5 := hide (le_call H4.out b5); have R3_5 := hide (le_call R3_4.out b5); have R4_5 := hide (le_call R4_4.out b5); have f0_5 := bk_two (K0.out.keep H5.out K0.out.in_); have f1a_5 := bk_two (K1.out.keep H5.out K1.out.in_); clear b5)
            | (have hgd := H3; clear hgd; go_at_call 21; refine (Run_any B p q B' p' q' b L m d l _ (HB.out.below H3.out (Nat.le_refl _)) (HW.out.below H3.out (Nat.le_refl _))).mono ?_; rintro e4 w4 ⟨A4, n4, c4, rfl, o4, b4⟩; have H4 := hide (le_call H3.out b4); have R3_4 := hide (le_call R3_3.out b4); have f0_4 := bk_two (K0.out.keep H4.out K0.out.in_); have f1a_4 := bk_two (K1.out.keep H4.out K1.out.in_); have O4 := hide o4; have LN4 := hide o4.len; have R4_4 := hide (Below.refl w4.heap.size w4); clear o4; clear b4)
            | (have hgd := H2; clear hgd; go_at_call 21; refine (Run_any A n c A' n' c' a L m d l _ (HA.out.below H2.out (Nat.le_refl _)) (HW.out.below H2.out (Nat.le_refl _))).mono ?_; rintro e3 w3 ⟨A3, n3, c3, rfl, o3, b3⟩; have H3 := hide (le_call H2.out b3); have f0_3 := bk_two (K0.out.keep H3.out K0.out.in_); have f1a_3 := bk_two (K1.out.keep H3.out K1.out.in_); have O3 := hide o3; have LN3 := hide o3.len; have R3_3 := hide (Below.refl w3.heap.size w3); clear o3; clear b3)
            | (have hgd := H1; clear hgd; go_at_call 19; refine (Long_any B p q B' p' q' none 0 0 [] _ (R.nil EH _) hlb hlb').mono ?_; rintro e2 w2 ⟨rfl, b2⟩; rw [HLG2.out]; have H2 := hide (le_call H1.out b2); have f0_2 := bk_two (K0.out.keep H2.out K0.out.in_); have f1a_2 := bk_two (K1.out.keep H2.out K1.out.in_); clear b2)
            | (have hgd := H0; clear hgd; go_at_call 19; refine (Long_any A n c A' n' c' _ 1 1 [(L, m, d)] _ HH1.out hle hle').mono ?_; rintro e1 w1 ⟨rfl, b1⟩; rw [HLG.out]; have H1 := hide (le_call (le_two H0.out (.cells #[.slice L m d] 23)) b1); have f0_1 := bk_two (K0.out.keep H1.out K0.out.in_); have f1a_1 := bk_two (K1.out.keep H1.out K1.out.in_); clear b1))
          go_ret
          exact ⟨rfl, le_call D0.out H5.out⟩
      · have q1 : (errW a l != 0) = true := by simp [e1]
        clear e1
        go_enter Try.func9, Try.ntmps9
        go_wp2_with (first
          | (have hgd := H4; clear hgd; go_at_call 20; refine (sane_any _).mono ?_; rintro e5 w5 ⟨rfl, b5⟩; have H5 := hide (le_call H4.out b5); have R3_5 := hide (le_call R3_4.out b5); have R4_5 := hide (le_call R4_4.out b5); have f0_5 := bk_two (K0.out.keep H5.out K0.out.in_); have f1a_5 := bk_two (K1.out.keep H5.out K1.out.in_); clear b5)
          | (have hgd := H3; clear hgd; go_at_call 21; refine (Run_any B p q B' p' q' b L m d l _ (HB.out.below H3.out (Nat.le_refl _)) (HW.out.below H3.out (Nat.le_refl _))).mono ?_; rintro e4 w4 ⟨A4, n4, c4, rfl, o4, b4⟩; have H4 := hide (le_call H3.out b4); have R3_4 := hide (le_call R3_3.out b4); have f0_4 := bk_two (K0.out.keep H4.out K0.out.in_); have f1a_4 := bk_two (K1.out.keep H4.out K1.out.in_); have O4 := hide o4; have LN4 := hide o4.len; have R4_4 := hide (Below.refl w4.heap.size w4); clear o4; clear b4)
          | (have hgd := H2; clear hgd; go_at_call 21; refine (Run_any A n c A' n' c' a L m d l _ (HA.out.below H2.out (Nat.le_refl _)) (HW.out.below H2.out (Nat.le_refl _))).mono ?_; rintro e3 w3 ⟨A3, n3, c3, rfl, o3, b3⟩; have H3 := hide (le_call H2.out b3); have f0_3 := bk_two (K0.out.keep H3.out K0.out.in_); have f1a_3 := bk_two (K1.out.keep H3.out K1.out.in_); have O3 := hide o3; have LN3 := hide o3.len; have R3_3 := hide (Below.refl w3.heap.size w3); clear o3; clear b3)
          | (have hgd := H1; clear hgd; go_at_call 19; refine (Long_any B p q B' p' q' none 0 0 [] _ (R.nil EH _) hlb hlb').mono ?_; rintro e2 w2 ⟨rfl, b2⟩; rw [HLG2.out]; have H2 := hide (le_call H1.out b2); have f0_2 := bk_two (K0.out.keep H2.out K0.out.in_); have f1a_2 := bk_two (K1.out.keep H2.out K1.out.in_); clear b2)
          | (have hgd := H0; clear hgd; go_at_call 19; refine (Long_any A n c A' n' c' _ 1 1 [(L, m, d)] _ HH1.out hle hle').mono ?_; rintro e1 w1 ⟨rfl, b1⟩; rw [HLG.out]; have H1 := hide (le_call (le_two H0.out (.cells #[.slice L m d] 23)) b1); have f0_1 := bk_two (K0.out.keep H1.out K0.out.in_); have f1a_1 := bk_two (K1.out.keep H1.out K1.out.in_); clear b1))
        go_ret
        exact ⟨rfl, le_call D0.out H5.out⟩
end Go.Proofs.Ytkjnhdkbojcojaa
