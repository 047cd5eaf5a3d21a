/- What RelayKinds does at any box. -/
import Derived.Test.YtkjnhdkbojcojaaWkRuns
import Derived.Test.YtkjnhdkbojcojaaWalkTt
namespace Go.Proofs.Ytkjnhdkbojcojaa
open Go.RowKit Go.Shelf
attribute [local go_sem] Oper.semAt_some

set_option maxRecDepth 100000 in
set_option maxHeartbeats 8000000 in
theorem RelayKinds_walk (A : Option Addr) (n c : Nat) (A' : Option Addr) (n' c' : Nat) (b : Bx) (w : World) (h : BxR w A n c A' n' c' b) :
    Calls Try.prog 5 #[bV A n c A' n' c'] w fun e w' => e = .returned (.bool true) ∧ Below w.heap.size w w' := by
  have D0 := hide ((Below.refl w.heap.size w).alloc (Nat.le_refl _) (.cells #[.slice A n c, .slice A' n' c'] 25))
  have K0 := hide (Bk.born w 25 #[.slice A n c, .slice A' n' c'])
  have HB := hide (h.below D0.out (Nat.le_refl _))
  have H0 := hide (Below.refl (w.alloc (.cells #[.slice A n c, .slice A' n' c'] 25)).heap.size (w.alloc (.cells #[.slice A n c, .slice A' n' c'] 25)))
  have hle := h.nx.le
  have hle' := h.ou.le
  have HOL := hide h.ou.length
  clear h
  cases hlg : longB n n' [] with
  | true =>
    have HLG := hide hlg
    clear hlg
    go_enter Try.func5, Try.ntmps5
    go_wp2_with (first
      | (have hgd := H1; clear hgd; go_at_call 20; refine (sane_any _).mono ?_; rintro e2 w2 ⟨rfl, b2⟩; have H2 := hide (le_call H1.out b2); have f0_2 := bk_two (K0.out.keep H2.out K0.out.in_); clear b2)
      | (have hgd := H0; clear hgd; go_at_call 19; refine (Long_any A n c A' n' c' none 0 0 [] _ (R.nil EH _) hle hle').mono ?_; rintro e1 w1 ⟨rfl, b1⟩; rw [HLG.out]; have H1 := hide (le_call H0.out b1); have f0_1 := bk_two (K0.out.keep H1.out K0.out.in_); clear b1))
    go_ret
    exact ⟨rfl, le_call D0.out H2.out⟩
  | false =>
    have HLG := hide hlg
    have hn50' := (longB_no hlg).2.1
    clear hlg
    have q1 : (errX b == errX b) = true := beq_self_eq_true _
    have HTL := hide (show (kindsF b).length ≤ 50 from by
      by_cases e : errX b = 0
      · rw [kindsF_ok e, kI_len, kinds_len, HOL.out]; exact hn50'
      · rw [kindsF_no e]; simp)
    go_enter Try.func5, Try.ntmps5
    go_wp2_with (first
      | (have hgd := H4; clear hgd; go_at_call 20; refine (sane_any _).mono ?_; rintro e5 w5 ⟨rfl, b5⟩; have H5 := hide (le_call H4.out b5); have R2_5 := hide (le_call R2_4.out b5); have R3_5 := hide (le_call R3_4.out b5); have f0_5 := bk_two (K0.out.keep H5.out K0.out.in_); clear b5)
      | (have hgd := H3; clear hgd; go_at_call 27; refine (SameInts_any A2 n2 c2 A3 n3 c3 (kindsF b) (kindsF b) _ (O2.out.row.below R2_3.out (Nat.le_refl _)) O3.out.row (by have h1 := LN2.out; have h2 := HTL.out; omega) (by have h1 := LN3.out; have h2 := HTL.out; omega)).mono ?_; rintro e4 w4 ⟨rfl, qq, hqq⟩; have b4 := (show Below w3.heap.size w3 w4 from (by rw [hqq]; exact below_drewN (Below.refl _ _) qq)); clear hqq; rw [beq_self_eq_true]; have H4 := hide (le_call H3.out b4); have R2_4 := hide (le_call R2_3.out b4); have R3_4 := hide (le_call R3_3.out b4); have f0_4 := bk_two (K0.out.keep H4.out K0.out.in_); clear b4)
      | (have hgd := H2; clear hgd; go_at_call 33; refine (rKinds_any A n c A' n' c' b _ (HB.out.below H2.out (Nat.le_refl _))).mono ?_; rintro e3 w3 ⟨A3, n3, c3, rfl, o3, b3⟩; have H3 := hide (le_call H2.out b3); have R2_3 := hide (le_call R2_2.out b3); have f0_3 := bk_two (K0.out.keep H3.out K0.out.in_); have O3 := hide o3; have LN3 := hide o3.len; have R3_3 := hide (Below.refl w3.heap.size w3); clear o3; clear b3)
      | (have hgd := H1; clear hgd; go_at_call 32; refine (Kinds_any A n c A' n' c' b _ (HB.out.below H1.out (Nat.le_refl _))).mono ?_; rintro e2 w2 ⟨A2, n2, c2, rfl, o2, b2⟩; have H2 := hide (le_call H1.out b2); have f0_2 := bk_two (K0.out.keep H2.out K0.out.in_); have O2 := hide o2; have LN2 := hide o2.len; have R2_2 := hide (Below.refl w2.heap.size w2); clear o2; clear b2)
      | (have hgd := H0; clear hgd; go_at_call 19; refine (Long_any A n c A' n' c' none 0 0 [] _ (R.nil EH _) hle hle').mono ?_; rintro e1 w1 ⟨rfl, b1⟩; rw [HLG.out]; have H1 := hide (le_call H0.out b1); have f0_1 := bk_two (K0.out.keep H1.out K0.out.in_); clear b1))
    go_ret
    exact ⟨rfl, le_call D0.out H5.out⟩
end Go.Proofs.Ytkjnhdkbojcojaa
