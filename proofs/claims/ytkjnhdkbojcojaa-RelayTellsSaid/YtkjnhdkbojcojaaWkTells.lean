/- What RelayTells does at any two boxes. -/
import Derived.Test.YtkjnhdkbojcojaaWkRuns
import Derived.Test.YtkjnhdkbojcojaaWalkTt
namespace Go.Proofs.Ytkjnhdkbojcojaa
open Go.RowKit Go.Shelf
attribute [local go_sem] Oper.semAt_some

theorem tellF_len {a b : Bx} : ((tellF a b).getD []).length ≤ 50 := by
  by_cases e : errTw a b = 0
  · obtain ⟨oa, ob⟩ := errTw_ok e
    rw [tellF_ok e]
    cases h : tellV a b 0 0 with
    | none => simp
    | some w =>
      have := tell_len oa ob oa.n1 ob.n1 h
      have := oa.n6; have := ob.n6
      simp only [Option.getD_some]; omega
  · rw [tellF_no e]; simp
set_option maxRecDepth 100000 in
set_option maxHeartbeats 8000000 in
theorem RelayTells_walk (A : Option Addr) (n c : Nat) (A' : Option Addr) (n' c' : Nat) (a : Bx) (B : Option Addr) (p q : Nat) (B' : Option Addr) (p' q' : Nat) (b : Bx) (w : World) (ha : BxR w A n c A' n' c' a) (hb : BxR w B p q B' p' q' b) :
    Calls Try.prog 8 #[bV A n c A' n' c', bV B p q B' p' q'] w fun e w' => e = .returned (.bool true) ∧ Below w.heap.size w w' := by
  have D0 := hide (show Below w.heap.size w ((w.alloc (.cells #[.slice A n c, .slice A' n' c'] 25)).alloc (.cells #[.slice B p q, .slice B' p' q'] 25)) from le_two (le_two (Below.refl _ _) _) _)
  have K0 := hide (show Bk ((w.alloc (.cells #[.slice A n c, .slice A' n' c'] 25)).alloc (.cells #[.slice B p q, .slice B' p' q'] 25)) w.heap.size 25 #[.slice A n c, .slice A' n' c'] from (Bk.born w 25 #[.slice A n c, .slice A' n' c']).more (.cells #[.slice B p q, .slice B' p' q'] 25))
  have K1 := hide (Bk.born (w.alloc (.cells #[.slice A n c, .slice A' n' c'] 25)) 25 #[.slice B p q, .slice B' p' q'])
  rw [show (w.alloc (.cells #[.slice A n c, .slice A' n' c'] 25)).heap.size = w.heap.size + 1 from by simp] at K1
  have HA := hide (ha.below D0.out (Nat.le_refl _))
  have HB := hide (hb.below D0.out (Nat.le_refl _))
  have H0 := hide (Below.refl ((w.alloc (.cells #[.slice A n c, .slice A' n' c'] 25)).alloc (.cells #[.slice B p q, .slice B' p' q'] 25)).heap.size ((w.alloc (.cells #[.slice A n c, .slice A' n' c'] 25)).alloc (.cells #[.slice B p q, .slice B' p' q'] 25)))
  have hle := ha.nx.le
  have hle' := ha.ou.le
  have hlb := hb.nx.le
  have hlb' := hb.ou.le
  have HNA := hide ha.nx.length
  have HOA := hide ha.ou.length
  have HNB := hide hb.nx.length
  have HOB := hide hb.ou.length
  clear ha hb
  cases hlg : longB n n' [] with
  | true =>
    have HLG := hide hlg
    clear hlg
    go_enter Try.func8, Try.ntmps8
    go_wp2_with (first
      | (have hgd := H1; clear hgd; go_at_call 20; refine (sane_any _).mono ?_; rintro e2 w2 ⟨rfl, b2⟩; have H2 := hide (le_call H1.out b2); have f0_2 := bk_two (K0.out.keep H2.out K0.out.in_); have f1a_2 := bk_two (K1.out.keep H2.out K1.out.in_); clear b2)
      | (have hgd := H0; clear hgd; go_at_call 19; refine (Long_any A n c A' n' c' none 0 0 [] _ (R.nil EH _) hle hle').mono ?_; rintro e1 w1 ⟨rfl, b1⟩; rw [HLG.out]; have H1 := hide (le_call H0.out b1); have f0_1 := bk_two (K0.out.keep H1.out K0.out.in_); have f1a_1 := bk_two (K1.out.keep H1.out K1.out.in_); clear b1))
    go_ret
    exact ⟨rfl, le_call D0.out H2.out⟩
  | false =>
    have HLG := hide hlg
    clear hlg
    cases hlg2 : longB p p' [] with
    | true =>
      have HLG2 := hide hlg2
      clear hlg2
      go_enter Try.func8, Try.ntmps8
      go_wp2_with (first
        | (have hgd := H2; clear hgd; go_at_call 20; refine (sane_any _).mono ?_; rintro e3 w3 ⟨rfl, b3⟩; have H3 := hide (le_call H2.out b3); have f0_3 := bk_two (K0.out.keep H3.out K0.out.in_); have f1a_3 := bk_two (K1.out.keep H3.out K1.out.in_); clear b3)
        | (have hgd := H1; clear hgd; go_at_call 19; refine (Long_any B p q B' p' q' none 0 0 [] _ (R.nil EH _) hlb hlb').mono ?_; rintro e2 w2 ⟨rfl, b2⟩; rw [HLG2.out]; have H2 := hide (le_call H1.out b2); have f0_2 := bk_two (K0.out.keep H2.out K0.out.in_); have f1a_2 := bk_two (K1.out.keep H2.out K1.out.in_); clear b2)
        | (have hgd := H0; clear hgd; go_at_call 19; refine (Long_any A n c A' n' c' none 0 0 [] _ (R.nil EH _) hle hle').mono ?_; rintro e1 w1 ⟨rfl, b1⟩; rw [HLG.out]; have H1 := hide (le_call H0.out b1); have f0_1 := bk_two (K0.out.keep H1.out K0.out.in_); have f1a_1 := bk_two (K1.out.keep H1.out K1.out.in_); clear b1))
      go_ret
      exact ⟨rfl, le_call D0.out H3.out⟩
    | false =>
      have HLG2 := hide hlg2
      clear hlg2
      have q1 : (errTw a b != errTw a b) = false := bne_self_eq_false _
      have HTL := hide (tellF_len (a := a) (b := b))
      cases ht : tellF a b with
      | none =>
        have HT := hide ht
        clear ht
        go_enter Try.func8, Try.ntmps8
        go_wp2_with (first
          | (have hgd := H5; clear hgd; go_at_call 20; refine (sane_any _).mono ?_; rintro e6 w6 ⟨rfl, b6⟩; have H6 := hide (le_call H5.out b6); have R3_6 := hide (le_call R3_5.out b6); have R4_6 := hide (le_call R4_5.out b6); have f0_6 := bk_two (K0.out.keep H6.out K0.out.in_); have f1a_6 := bk_two (K1.out.keep H6.out K1.out.in_); clear b6)
          | (have hgd := H4; clear hgd; go_at_call 27; refine (SameInts_any A3 n3 c3 A4 n4 c4 [] [] _ (O3.out.row.below R3_4.out (Nat.le_refl _)) O4.out.row (by have h1 := LN3.out; simp only [Option.getD_none, List.length_nil] at h1; omega) (by have h1 := LN4.out; simp only [Option.getD_none, List.length_nil] at h1; omega)).mono ?_; rintro e5 w5 ⟨rfl, qq, hqq⟩; have b5 := (show Below w4.heap.size w4 w5 from (by rw [hqq]; exact below_drewN (Below.refl _ _) qq)); clear hqq; rw [beq_self_eq_true]; have H5 := hide (le_call H4.out b5); have R3_5 := hide (le_call R3_4.out b5); have R4_5 := hide (le_call R4_4.out b5); have f0_5 := bk_two (K0.out.keep H5.out K0.out.in_); have f1a_5 := bk_two (K1.out.keep H5.out K1.out.in_); clear b5)
          | (have hgd := H3; clear hgd; go_at_call 40; refine (rTell_any A n c A' n' c' a B p q B' p' q' b _ (HA.out.below H3.out (Nat.le_refl _)) (HB.out.below H3.out (Nat.le_refl _))).mono ?_; rw [HT.out]; rintro e4 w4 ⟨A4, n4, c4, rfl, o4, b4⟩; have H4 := hide (le_call H3.out b4); have R3_4 := hide (le_call R3_3.out b4); have f0_4 := bk_two (K0.out.keep H4.out K0.out.in_); have f1a_4 := bk_two (K1.out.keep H4.out K1.out.in_); have O4 := hide o4; have LN4 := hide o4.len; have R4_4 := hide (Below.refl w4.heap.size w4); clear o4; clear b4)
          | (have hgd := H2; clear hgd; go_at_call 39; refine (Tell_any A n c A' n' c' a B p q B' p' q' b _ (HA.out.below H2.out (Nat.le_refl _)) (HB.out.below H2.out (Nat.le_refl _))).mono ?_; rw [HT.out]; rintro e3 w3 ⟨A3, n3, c3, rfl, o3, b3⟩; have H3 := hide (le_call H2.out b3); have f0_3 := bk_two (K0.out.keep H3.out K0.out.in_); have f1a_3 := bk_two (K1.out.keep H3.out K1.out.in_); have O3 := hide o3; have LN3 := hide o3.len; have R3_3 := hide (Below.refl w3.heap.size w3); clear o3; clear b3)
          | (have hgd := H1; clear hgd; go_at_call 19; refine (Long_any B p q B' p' q' none 0 0 [] _ (R.nil EH _) hlb hlb').mono ?_; rintro e2 w2 ⟨rfl, b2⟩; rw [HLG2.out]; have H2 := hide (le_call H1.out b2); have f0_2 := bk_two (K0.out.keep H2.out K0.out.in_); have f1a_2 := bk_two (K1.out.keep H2.out K1.out.in_); clear b2)
          | (have hgd := H0; clear hgd; go_at_call 19; refine (Long_any A n c A' n' c' none 0 0 [] _ (R.nil EH _) hle hle').mono ?_; rintro e1 w1 ⟨rfl, b1⟩; rw [HLG.out]; have H1 := hide (le_call H0.out b1); have f0_1 := bk_two (K0.out.keep H1.out K0.out.in_); have f1a_1 := bk_two (K1.out.keep H1.out K1.out.in_); clear b1))
        go_ret
        exact ⟨rfl, le_call D0.out H6.out⟩
      | some u =>
        have het : errTw a b = 0 := by
          rcases Classical.em (errTw a b = 0) with e | e
          · exact e
          · rw [tellF_no e] at ht; cases ht
        have HTV : tellV a b 0 0 = some u := by rw [← tellF_ok het]; exact ht
        obtain ⟨oa, ob⟩ := errTw_ok het
        have hul := tell_len oa ob oa.n1 ob.n1 HTV
        have hin := (tell_some oa ob oa.n1 ob.n1 HTV).1
        have hna := oa.n6
        have hnb := ob.n6
        rw [HOA.out] at hul hna
        rw [HOB.out] at hul hnb
        have e1 : errW a u = 0 := errW_inp oa (by omega) hin
        have e2 : errW b u = 0 := errW_inp ob (by omega) hin
        have HR1 := hide (runF_ok e1)
        have HR2 := hide (runF_ok e2)
        have HE1 := hide e1
        have HE2 := hide e2
        have HL1 := hide (show (runF a u).length ≤ 101 ∧ (runF b u).length ≤ 101 from by rw [runF_ok e1, runF_ok e2, run_len, run_len]; omega)
        have HQ := hide (show (runF a u == runF b u) = false from by rw [HR1.out, HR2.out]; exact beq_eq_false_iff_ne.2 (tell_runs oa ob HTV))
        have HT := hide ht
        have HU9 := hide (show u.length ≤ 50 by omega)
        have wv : IntKind.i64.wrap ((n' : Int) + (p' : Int)) = (n' : Int) + (p' : Int) := IntWalk.i64_in _ (by omega)
        have hui : (u.length : Int) < (n' : Int) + (p' : Int) := by omega
        clear ht het HTV oa ob hin e1 e2
        go_enter Try.func8, Try.ntmps8
        go_wp2_with (first
          | (have hgd := H8; clear hgd; go_at_call 20; refine (sane_any _).mono ?_; rintro e9 w9 ⟨rfl, b9⟩; have H9 := hide (le_call H8.out b9); have R3_9 := hide (le_call R3_8.out b9); have R4_9 := hide (le_call R4_8.out b9); have R6_9 := hide (le_call R6_8.out b9); have R7_9 := hide (le_call R7_8.out b9); have f0_9 := bk_two (K0.out.keep H9.out K0.out.in_); have f1a_9 := bk_two (K1.out.keep H9.out K1.out.in_); clear b9)
          | (have hgd := H7; clear hgd; go_at_call 27; refine (SameInts_any A6 n6 c6 A7 n7 c7 (runF a u) (runF b u) _ (O6.out.row.below R6_7.out (Nat.le_refl _)) O7.out.row (by have h1 := LN6.out; have h2 := HL1.out.1; omega) (by have h1 := LN7.out; have h2 := HL1.out.2; omega)).mono ?_; rintro e8 w8 ⟨rfl, qq, hqq⟩; have b8 := (show Below w7.heap.size w7 w8 from (by rw [hqq]; exact below_drewN (Below.refl _ _) qq)); clear hqq; rw [HQ.out]; have H8 := hide (le_call H7.out b8); have R3_8 := hide (le_call R3_7.out b8); have R4_8 := hide (le_call R4_7.out b8); have R6_8 := hide (le_call R6_7.out b8); have R7_8 := hide (le_call R7_7.out b8); have f0_8 := bk_two (K0.out.keep H8.out K0.out.in_); have f1a_8 := bk_two (K1.out.keep H8.out K1.out.in_); clear b8)
          | (have hgd := H6; clear hgd; go_at_call 21; refine (Run_any B p q B' p' q' b A3 u.length c3 u _ (HB.out.below H6.out (Nat.le_refl _)) (O3.out.row.below R3_6.out (Nat.le_refl _))).mono ?_; rw [HE2.out]; rintro e7 w7 ⟨A7, n7, c7, rfl, o7, b7⟩; have H7 := hide (le_call H6.out b7); have R3_7 := hide (le_call R3_6.out b7); have R4_7 := hide (le_call R4_6.out b7); have R6_7 := hide (le_call R6_6.out b7); have f0_7 := bk_two (K0.out.keep H7.out K0.out.in_); have f1a_7 := bk_two (K1.out.keep H7.out K1.out.in_); have O7 := hide o7; have LN7 := hide o7.len; have R7_7 := hide (Below.refl w7.heap.size w7); clear o7; clear b7)
          | (have hgd := H5; clear hgd; go_at_call 21; refine (Run_any A n c A' n' c' a A3 u.length c3 u _ (HA.out.below H5.out (Nat.le_refl _)) (O3.out.row.below R3_5.out (Nat.le_refl _))).mono ?_; rw [HE1.out]; rintro e6 w6 ⟨A6, n6, c6, rfl, o6, b6⟩; have H6 := hide (le_call H5.out b6); have R3_6 := hide (le_call R3_5.out b6); have R4_6 := hide (le_call R4_5.out b6); have f0_6 := bk_two (K0.out.keep H6.out K0.out.in_); have f1a_6 := bk_two (K1.out.keep H6.out K1.out.in_); have O6 := hide o6; have LN6 := hide o6.len; have R6_6 := hide (Below.refl w6.heap.size w6); clear o6; clear b6)
          | (have hgd := H4; clear hgd; go_at_call 27; refine (SameInts_any A3 u.length c3 A4 n4 c4 u u _ (O3.out.row.below R3_4.out (Nat.le_refl _)) O4.out.row (by have h1 := LN3.out; have h2 := HU9.out; (try simp only [Option.getD_some] at h1); omega) (by have h1 := LN4.out; have h2 := HU9.out; (try simp only [Option.getD_some] at h1); omega)).mono ?_; rintro e5 w5 ⟨rfl, qq, hqq⟩; have b5 := (show Below w4.heap.size w4 w5 from (by rw [hqq]; exact below_drewN (Below.refl _ _) qq)); clear hqq; rw [beq_self_eq_true]; have H5 := hide (le_call H4.out b5); have R3_5 := hide (le_call R3_4.out b5); have R4_5 := hide (le_call R4_4.out b5); have f0_5 := bk_two (K0.out.keep H5.out K0.out.in_); have f1a_5 := bk_two (K1.out.keep H5.out K1.out.in_); clear b5)
          | (have hgd := H3; clear hgd; go_at_call 40; refine (rTell_any A n c A' n' c' a B p q B' p' q' b _ (HA.out.below H3.out (Nat.le_refl _)) (HB.out.below H3.out (Nat.le_refl _))).mono ?_; rw [HT.out]; rintro e4 w4 ⟨A4, n4, c4, rfl, o4, b4⟩; have H4 := hide (le_call H3.out b4); have R3_4 := hide (le_call R3_3.out b4); have f0_4 := bk_two (K0.out.keep H4.out K0.out.in_); have f1a_4 := bk_two (K1.out.keep H4.out K1.out.in_); have O4 := hide o4; have LN4 := hide o4.len; have R4_4 := hide (Below.refl w4.heap.size w4); clear o4; clear b4)
          | (have hgd := H2; clear hgd; go_at_call 39; refine (Tell_any A n c A' n' c' a B p q B' p' q' b _ (HA.out.below H2.out (Nat.le_refl _)) (HB.out.below H2.out (Nat.le_refl _))).mono ?_; rw [HT.out]; rintro e3 w3 ⟨A3, n3, c3, rfl, o3, b3⟩; have H3 := hide (le_call H2.out b3); have f0_3 := bk_two (K0.out.keep H3.out K0.out.in_); have f1a_3 := bk_two (K1.out.keep H3.out K1.out.in_); have O3 := hide o3; have LN3 := hide o3.len; obtain rfl : u.length = n3 := o3.len; have R3_3 := hide (Below.refl w3.heap.size w3); clear o3; clear b3)
          | (have hgd := H1; clear hgd; go_at_call 19; refine (Long_any B p q B' p' q' none 0 0 [] _ (R.nil EH _) hlb hlb').mono ?_; rintro e2 w2 ⟨rfl, b2⟩; rw [HLG2.out]; have H2 := hide (le_call H1.out b2); have f0_2 := bk_two (K0.out.keep H2.out K0.out.in_); have f1a_2 := bk_two (K1.out.keep H2.out K1.out.in_); clear b2)
          | (have hgd := H0; clear hgd; go_at_call 19; refine (Long_any A n c A' n' c' none 0 0 [] _ (R.nil EH _) hle hle').mono ?_; rintro e1 w1 ⟨rfl, b1⟩; rw [HLG.out]; have H1 := hide (le_call H0.out b1); have f0_1 := bk_two (K0.out.keep H1.out K0.out.in_); have f1a_1 := bk_two (K1.out.keep H1.out K1.out.in_); clear b1))
        go_ret
        exact ⟨rfl, le_call D0.out H9.out⟩
end Go.Proofs.Ytkjnhdkbojcojaa
