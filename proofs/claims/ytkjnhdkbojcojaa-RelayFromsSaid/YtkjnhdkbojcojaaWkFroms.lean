/- What RelayFroms does at any box and state. -/
import Derived.Test.YtkjnhdkbojcojaaWkRuns
import Derived.Test.YtkjnhdkbojcojaaWalkFr
namespace Go.Proofs.Ytkjnhdkbojcojaa
open Go.RowKit Go.Shelf
attribute [local go_sem] Oper.semAt_some

theorem from_twice {b : Bx} {s : Int} (h : errS b s = 0) : errS (fromB b s.toNat) s = 0 ∧ fromF (fromB b s.toNat) s = b := by
  obtain ⟨ok, h0, hn⟩ := errS_ok h
  have hq : s.toNat < b.2.length := by omega
  have h1 : errS (fromB b s.toNat) s = 0 := errS_fine (errX_ok (from_ok ok hq)) (inB_iff.2 ⟨h0, by rw [(from_len b s.toNat).2]; exact hn⟩)
  exact ⟨h1, by rw [fromF_ok h1, from_from ok hq]⟩
theorem fromF_len {b : Bx} {n n' : Nat} (h1 : b.1.length = n) (h2 : b.2.length = n') (hn' : n' ≤ 50) (s : Int) : (fromF b s).1.length ≤ 50 ∧ (fromF b s).2.length ≤ 50 := by
  by_cases e : errS b s = 0
  · rw [fromF_ok e]; have := from_len b s.toNat; omega
  · rw [fromF_no e]; simp
set_option maxRecDepth 100000 in
set_option maxHeartbeats 8000000 in
theorem RelayFroms_walk (A : Option Addr) (n c : Nat) (A' : Option Addr) (n' c' : Nat) (b : Bx) (s : Int) (w : World) (h : BxR w A n c A' n' c' b) (_ : (Lit.int .i64 s).wf = true) :
    Calls Try.prog 14 #[bV A n c A' n' c', .int .i64 s] w fun e w' => e = .returned (.bool true) ∧ Below w.heap.size w w' := by
  have D0 := hide ((Below.refl w.heap.size w).alloc (Nat.le_refl _) (.cells #[.slice A n c, .slice A' n' c'] 25))
  have K0 := hide (Bk.born w 25 #[.slice A n c, .slice A' n' c'])
  have HB := hide (h.below D0.out (Nat.le_refl _))
  have H0 := hide (Below.refl (w.alloc (.cells #[.slice A n c, .slice A' n' c'] 25)).heap.size (w.alloc (.cells #[.slice A n c, .slice A' n' c'] 25)))
  have hle := h.nx.le
  have hle' := h.ou.le
  have HNL := hide h.nx.length
  have HOL := hide h.ou.length
  clear h
  cases hlg : longB n n' [] with
  | true =>
    have HLG := hide hlg
    clear hlg
    go_enter Try.func14, Try.ntmps14
    go_wp2_with (first
      | (have hgd := H1; clear hgd; go_at_call 20; refine (sane_any _).mono ?_; rintro e2 w2 ⟨rfl, b2⟩; have H2 := hide (le_call H1.out b2); have f0_2 := bk_two (K0.out.keep H2.out K0.out.in_); clear b2)
      | (have hgd := H0; clear hgd; go_at_call 19; refine (Long_any A n c A' n' c' none 0 0 [] _ (R.nil EH _) hle hle').mono ?_; rintro e1 w1 ⟨rfl, b1⟩; rw [HLG.out]; have H1 := hide (le_call H0.out b1); have f0_1 := bk_two (K0.out.keep H1.out K0.out.in_); clear b1))
    go_ret
    exact ⟨rfl, le_call D0.out H2.out⟩
  | false =>
    have HLG := hide hlg
    have hn50' := (longB_no hlg).2.1
    clear hlg
    have HTL := hide (fromF_len (b := b) HNL.out HOL.out hn50' s)
    have q1 : (errS b s != errS b s) = false := bne_self_eq_false _
    by_cases he : errS b s = 0
    · have hee : (errS b s != 0) = false := by simp [he]
      have HF := hide (fromF_ok he)
      obtain ⟨g1, g2⟩ := from_twice he
      have G1 := hide g1
      have G2 := hide g2
      have HTL2 := hide (show b.1.length ≤ 50 ∧ b.2.length ≤ 50 from by have h1 := HNL.out; have h2 := HOL.out; have := (errS_ok he).1.len; omega)
      clear he g1 g2
      go_enter Try.func14, Try.ntmps14
      go_wp2_with (first
        | (have hgd := H6; clear hgd; go_at_call 20; refine (sane_any _).mono ?_; rintro e7 w7 ⟨rfl, b7⟩; have H7 := hide (le_call H6.out b7); have B2_7 := hide (le_call B2_6.out b7); have B3_7 := hide (le_call B3_6.out b7); have B5_7 := hide (le_call B5_6.out b7); have f0_7 := bk_two (K0.out.keep H7.out K0.out.in_); have f2_7 := bk_two (K2.out.keep B2_7.out K2.out.in_); have f3_7 := bk_two (K3.out.keep B3_7.out K3.out.in_); have f5_7 := bk_two (K5.out.keep B5_7.out K5.out.in_); clear b7)
        | (have hgd := H5; clear hgd; go_at_call 36; refine (SameBox_any A5 n5 c5 B5 m5 d5 A n c A' n' c' b _ (O5.out.below (le_two (Below.refl _ _) (.cells #[.slice A5 n5 c5, .slice B5 m5 d5] 25)) (Nat.le_refl _)).row (HB.out.below H5.out (Nat.le_refl _)) (by have h1 := LN5.out; have h2 := HTL2.out; omega) (by have h1 := LM5.out; have h2 := HTL2.out; omega)).mono ?_; rintro e6 w6 ⟨rfl, b6⟩; have H6 := hide (le_call H5.out b6); have B2_6 := hide (le_call B2_5.out b6); have B3_6 := hide (le_call B3_5.out b6); have B5_6 := hide (le_call B5_5.out b6); have f0_6 := bk_two (K0.out.keep H6.out K0.out.in_); have f2_6 := bk_two (K2.out.keep B2_6.out K2.out.in_); have f3_6 := bk_two (K3.out.keep B3_6.out K3.out.in_); have f5_6 := bk_two (K5.out.keep B5_6.out K5.out.in_); clear b6)
        | (have hgd := H4; clear hgd; go_at_call 45; refine (From_any A2 n2 c2 B2 m2 d2 (fromB b s.toNat) s _ (by rw [← HF.out]; exact ((O2.out.below (le_two (Below.refl _ _) (.cells #[.slice A2 n2 c2, .slice B2 m2 d2] 25)) (Nat.le_refl _)).below B2_4.out (Nat.le_refl _)).row)).mono ?_; rw [G1.out, G2.out]; rintro e5 w5 ⟨A5, n5, c5, B5, m5, d5, rfl, o5, b5⟩; have H5 := hide (le_two (le_call H4.out b5) (.cells #[.slice A5 n5 c5, .slice B5 m5 d5] 25)); have B2_5 := hide (le_two (le_call B2_4.out b5) (.cells #[.slice A5 n5 c5, .slice B5 m5 d5] 25)); have B3_5 := hide (le_two (le_call B3_4.out b5) (.cells #[.slice A5 n5 c5, .slice B5 m5 d5] 25)); have f0_5 := bk_two (K0.out.keep H5.out K0.out.in_); have f2_5 := bk_two (K2.out.keep B2_5.out K2.out.in_); have f3_5 := bk_two (K3.out.keep B3_5.out K3.out.in_); have O5 := hide o5; have LN5 := hide o5.1.len; have LM5 := hide o5.2.len; have K5 := hide (Bk.born w5 25 #[.slice A5 n5 c5, .slice B5 m5 d5]); have f5_5 := bk_two K5.out; have B5_5 := hide (Below.refl (w5.alloc (.cells #[.slice A5 n5 c5, .slice B5 m5 d5] 25)).heap.size (w5.alloc (.cells #[.slice A5 n5 c5, .slice B5 m5 d5] 25))); clear o5; clear b5)
        | (have hgd := H3; clear hgd; go_at_call 36; refine (SameBox_any A2 n2 c2 B2 m2 d2 A3 n3 c3 B3 m3 d3 (fromF b s) _ ((O2.out.below (le_two (Below.refl _ _) (.cells #[.slice A2 n2 c2, .slice B2 m2 d2] 25)) (Nat.le_refl _)).below B2_3.out (Nat.le_refl _)).row (O3.out.below (le_two (Below.refl _ _) (.cells #[.slice A3 n3 c3, .slice B3 m3 d3] 25)) (Nat.le_refl _)).row (by have h1 := LN2.out; have h2 := HTL.out; omega) (by have h1 := LM2.out; have h2 := HTL.out; omega)).mono ?_; rintro e4 w4 ⟨rfl, b4⟩; have H4 := hide (le_call H3.out b4); have B2_4 := hide (le_call B2_3.out b4); have B3_4 := hide (le_call B3_3.out b4); have f0_4 := bk_two (K0.out.keep H4.out K0.out.in_); have f2_4 := bk_two (K2.out.keep B2_4.out K2.out.in_); have f3_4 := bk_two (K3.out.keep B3_4.out K3.out.in_); clear b4)
        | (have hgd := H2; clear hgd; go_at_call 51; refine (rFrom_any _ _ _ _ _ _ b s _ (HB.out.below H2.out (Nat.le_refl _))).mono ?_; rintro e3 w3 ⟨A3, n3, c3, B3, m3, d3, rfl, o3, b3⟩; have H3 := hide (le_two (le_call H2.out b3) (.cells #[.slice A3 n3 c3, .slice B3 m3 d3] 25)); have B2_3 := hide (le_two (le_call B2_2.out b3) (.cells #[.slice A3 n3 c3, .slice B3 m3 d3] 25)); have f0_3 := bk_two (K0.out.keep H3.out K0.out.in_); have f2_3 := bk_two (K2.out.keep B2_3.out K2.out.in_); have O3 := hide o3; have LN3 := hide o3.1.len; have LM3 := hide o3.2.len; have K3 := hide (Bk.born w3 25 #[.slice A3 n3 c3, .slice B3 m3 d3]); have f3_3 := bk_two K3.out; have B3_3 := hide (Below.refl (w3.alloc (.cells #[.slice A3 n3 c3, .slice B3 m3 d3] 25)).heap.size (w3.alloc (.cells #[.slice A3 n3 c3, .slice B3 m3 d3] 25))); clear o3; clear b3)
        | (have hgd := H1; clear hgd; go_at_call 45; refine (From_any _ _ _ _ _ _ b s _ (HB.out.below H1.out (Nat.le_refl _))).mono ?_; rintro e2 w2 ⟨A2, n2, c2, B2, m2, d2, rfl, o2, b2⟩; have H2 := hide (le_two (le_call H1.out b2) (.cells #[.slice A2 n2 c2, .slice B2 m2 d2] 25)); have f0_2 := bk_two (K0.out.keep H2.out K0.out.in_); have O2 := hide o2; have LN2 := hide o2.1.len; have LM2 := hide o2.2.len; have K2 := hide (Bk.born w2 25 #[.slice A2 n2 c2, .slice B2 m2 d2]); have f2_2 := bk_two K2.out; have B2_2 := hide (Below.refl (w2.alloc (.cells #[.slice A2 n2 c2, .slice B2 m2 d2] 25)).heap.size (w2.alloc (.cells #[.slice A2 n2 c2, .slice B2 m2 d2] 25))); clear o2; clear b2)
        | (have hgd := H0; clear hgd; go_at_call 19; refine (Long_any A n c A' n' c' none 0 0 [] _ (R.nil EH _) hle hle').mono ?_; rintro e1 w1 ⟨rfl, b1⟩; rw [HLG.out]; have H1 := hide (le_call H0.out b1); have f0_1 := bk_two (K0.out.keep H1.out K0.out.in_); clear b1))
      go_ret
      exact ⟨rfl, le_call D0.out H7.out⟩
    · have hee : (errS b s != 0) = true := by simp [he]
      clear he
      go_enter Try.func14, Try.ntmps14
      go_wp2_with (first
        | (have hgd := H4; clear hgd; go_at_call 20; refine (sane_any _).mono ?_; rintro e5 w5 ⟨rfl, b5⟩; have H5 := hide (le_call H4.out b5); have B2_5 := hide (le_call B2_4.out b5); have B3_5 := hide (le_call B3_4.out b5); have f0_5 := bk_two (K0.out.keep H5.out K0.out.in_); have f2_5 := bk_two (K2.out.keep B2_5.out K2.out.in_); have f3_5 := bk_two (K3.out.keep B3_5.out K3.out.in_); clear b5)
        | (have hgd := H3; clear hgd; go_at_call 36; refine (SameBox_any A2 n2 c2 B2 m2 d2 A3 n3 c3 B3 m3 d3 (fromF b s) _ ((O2.out.below (le_two (Below.refl _ _) (.cells #[.slice A2 n2 c2, .slice B2 m2 d2] 25)) (Nat.le_refl _)).below B2_3.out (Nat.le_refl _)).row (O3.out.below (le_two (Below.refl _ _) (.cells #[.slice A3 n3 c3, .slice B3 m3 d3] 25)) (Nat.le_refl _)).row (by have h1 := LN2.out; have h2 := HTL.out; omega) (by have h1 := LM2.out; have h2 := HTL.out; omega)).mono ?_; rintro e4 w4 ⟨rfl, b4⟩; have H4 := hide (le_call H3.out b4); have B2_4 := hide (le_call B2_3.out b4); have B3_4 := hide (le_call B3_3.out b4); have f0_4 := bk_two (K0.out.keep H4.out K0.out.in_); have f2_4 := bk_two (K2.out.keep B2_4.out K2.out.in_); have f3_4 := bk_two (K3.out.keep B3_4.out K3.out.in_); clear b4)
        | (have hgd := H2; clear hgd; go_at_call 51; refine (rFrom_any _ _ _ _ _ _ b s _ (HB.out.below H2.out (Nat.le_refl _))).mono ?_; rintro e3 w3 ⟨A3, n3, c3, B3, m3, d3, rfl, o3, b3⟩; have H3 := hide (le_two (le_call H2.out b3) (.cells #[.slice A3 n3 c3, .slice B3 m3 d3] 25)); have B2_3 := hide (le_two (le_call B2_2.out b3) (.cells #[.slice A3 n3 c3, .slice B3 m3 d3] 25)); have f0_3 := bk_two (K0.out.keep H3.out K0.out.in_); have f2_3 := bk_two (K2.out.keep B2_3.out K2.out.in_); have O3 := hide o3; have LN3 := hide o3.1.len; have LM3 := hide o3.2.len; have K3 := hide (Bk.born w3 25 #[.slice A3 n3 c3, .slice B3 m3 d3]); have f3_3 := bk_two K3.out; have B3_3 := hide (Below.refl (w3.alloc (.cells #[.slice A3 n3 c3, .slice B3 m3 d3] 25)).heap.size (w3.alloc (.cells #[.slice A3 n3 c3, .slice B3 m3 d3] 25))); clear o3; clear b3)
        | (have hgd := H1; clear hgd; go_at_call 45; refine (From_any _ _ _ _ _ _ b s _ (HB.out.below H1.out (Nat.le_refl _))).mono ?_; rintro e2 w2 ⟨A2, n2, c2, B2, m2, d2, rfl, o2, b2⟩; have H2 := hide (le_two (le_call H1.out b2) (.cells #[.slice A2 n2 c2, .slice B2 m2 d2] 25)); have f0_2 := bk_two (K0.out.keep H2.out K0.out.in_); have O2 := hide o2; have LN2 := hide o2.1.len; have LM2 := hide o2.2.len; have K2 := hide (Bk.born w2 25 #[.slice A2 n2 c2, .slice B2 m2 d2]); have f2_2 := bk_two K2.out; have B2_2 := hide (Below.refl (w2.alloc (.cells #[.slice A2 n2 c2, .slice B2 m2 d2] 25)).heap.size (w2.alloc (.cells #[.slice A2 n2 c2, .slice B2 m2 d2] 25))); clear o2; clear b2)
        | (have hgd := H0; clear hgd; go_at_call 19; refine (Long_any A n c A' n' c' none 0 0 [] _ (R.nil EH _) hle hle').mono ?_; rintro e1 w1 ⟨rfl, b1⟩; rw [HLG.out]; have H1 := hide (le_call H0.out b1); have f0_1 := bk_two (K0.out.keep H1.out K0.out.in_); clear b1))
      go_ret
      exact ⟨rfl, le_call D0.out H5.out⟩
end Go.Proofs.Ytkjnhdkbojcojaa
