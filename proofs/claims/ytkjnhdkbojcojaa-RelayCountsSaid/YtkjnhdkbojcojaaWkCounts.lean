/- What RelayCounts does at any box and numbers. -/
import Derived.Test.YtkjnhdkbojcojaaWkRuns
import Derived.Test.YtkjnhdkbojcojaaWalkP
namespace Go.Proofs.Ytkjnhdkbojcojaa
open Go.RowKit Go.Shelf
attribute [local go_sem] Oper.semAt_some

theorem cnt_split {b : Bx} (h : Okx b) (ws : List Int) : ∀ k, k ≤ b.2.length → k ≤ ws.length → cntTo b ws 0 k + cntTo b ws 1 k + cntTo b ws 2 k + cntTo b ws 3 k = (ws.take k).sum
  | 0, _, _ => by simp [cntTo]
  | k + 1, h1, h2 => by
    have ih := cnt_split h ws k (by omega) (by omega)
    have hs := sigB_iff.1 (h.ou k (by omega))
    rw [take_sum_succ (by omega)]
    simp only [cntTo]
    generalize b.2.getD k 0 = y at *
    obtain rfl | rfl | rfl | rfl : y = 0 ∨ y = 1 ∨ y = 2 ∨ y = 3 := by omega
    all_goals simp; omega
theorem cnt_all {b : Bx} (h : Okx b) (r : Nat) : cntV b r 0 + cntV b r 1 + cntV b r 2 + cntV b r 3 = 2 ^ r := by
  have h1 := cnt_split h (wds b r) b.2.length (Nat.le_refl _) (by rw [wds_len]; exact Nat.le_refl _)
  rw [List.take_of_length_le (by rw [wds_len]; exact Nat.le_refl _), wds_sum h] at h1
  exact h1
theorem cntV_in {b : Bx} (h : Okx b) {r : Nat} (hr : r ≤ 20) (o : Int) : 0 ≤ cntV b r o ∧ cntV b r o ≤ 1048576 := by
  have h1 := cntTo_in (b := b) (wds_pos b r) o b.2.length (by rw [wds_len]; exact Nat.le_refl _)
  rw [List.take_of_length_le (by rw [wds_len]; exact Nat.le_refl _), wds_sum h] at h1
  have h2 := pow_le hr
  exact ⟨h1.1, Int.le_trans h1.2 h2⟩
/-- The sum over the first signals. -/
def sumV (b : Bx) (r : Nat) : Nat → Int
  | 0 => 0
  | k + 1 => sumV b r k + cntV b r k
theorem sumV_in {b : Bx} (h : Okx b) {r : Nat} (hr : r ≤ 20) : ∀ k, 0 ≤ sumV b r k ∧ sumV b r k ≤ 1048576 * k
  | 0 => by simp [sumV]
  | k + 1 => by
    have ih := sumV_in h hr k
    have h1 := cntV_in h hr (k : Int)
    simp only [sumV]
    omega
theorem sumV_all {b : Bx} (h : Okx b) (r : Nat) : sumV b r 4 = 2 ^ r := by
  have := cnt_all h r
  simp only [sumV]
  show 0 + cntV b r 0 + cntV b r 1 + cntV b r 2 + cntV b r 3 = _
  omega
theorem errT_ok {b : Bx} {r o : Int} (h : errT b r o = 0) : Okx b ∧ 0 ≤ r ∧ r ≤ 20 := by
  unfold errT at h
  by_cases h1 : errX b = 0
  · rw [if_neg (by simp [h1])] at h
    by_cases h2 : 0 ≤ r ∧ r ≤ 20 ∧ sigB o = true
    · exact ⟨okx_of h1, h2.1, h2.2.1⟩
    · rw [if_neg h2] at h; omega
  · rw [if_pos h1] at h; exact absurd h h1
set_option maxRecDepth 100000 in
set_option maxHeartbeats 8000000 in
theorem RelayCounts_walk (A : Option Addr) (n c : Nat) (A' : Option Addr) (n' c' : Nat) (b : Bx) (r o : Int) (w : World) (h : BxR w A n c A' n' c' b) (_ : (Lit.int .i64 r).wf = true) (_ : (Lit.int .i64 o).wf = true) :
    Calls Try.prog 12 #[bV A n c A' n' c', .int .i64 r, .int .i64 o] w fun e w' => e = .returned (.bool true) ∧ Below w.heap.size w w' := by
  have D0 := hide ((Below.refl w.heap.size w).alloc (Nat.le_refl _) (.cells #[.slice A n c, .slice A' n' c'] 25))
  have HK0 := hide (Bk.born w 25 #[.slice A n c, .slice A' n' c'])
  have HB := hide (h.below D0.out (Nat.le_refl _))
  have hle := h.nx.le
  have hle' := h.ou.le
  clear h
  cases hlg : longB n n' [] with
  | true =>
    have HLG := hide hlg
    clear hlg
    go_enter Try.func12, Try.ntmps12
    go_wp2_with (first
      | (have hgd := D1; clear hgd; go_at_call 20; refine (sane_any _).mono ?_; rintro e2 w2 ⟨rfl, b2⟩; have D2 := hide b2; clear b2; have f20 := bk_two (HK0.out.keep (show Below (w.alloc (.cells #[.slice A n c, .slice A' n' c'] 25)).heap.size (w.alloc (.cells #[.slice A n c, .slice A' n' c'] 25)) w2 from (le_call (le_call (Below.refl _ _) D1.out) D2.out)) HK0.out.in_))
      | (have hgd := D0; clear hgd; go_at_call 19; refine (Long_any A n c A' n' c' none 0 0 [] _ (R.nil EH _) hle hle').mono ?_; rintro e1 w1 ⟨rfl, b1⟩; rw [HLG.out]; have D1 := hide b1; clear b1; have f10 := bk_two (HK0.out.keep (show Below (w.alloc (.cells #[.slice A n c, .slice A' n' c'] 25)).heap.size (w.alloc (.cells #[.slice A n c, .slice A' n' c'] 25)) w1 from (le_call (Below.refl _ _) D1.out)) HK0.out.in_)))
    go_ret
    exact ⟨rfl, (le_call (le_call D0.out D1.out) D2.out)⟩
  | false =>
    have HLG := hide hlg
    clear hlg
    by_cases he : errT b r o = 0
    · have HE := hide he
      have hee : (errT b r o != 0) = false := by simp [he]
      obtain ⟨ok, hr0, hr20⟩ := errT_ok he
      have HOK := hide ok
      clear he ok
      have q1 : (errT b r o != errT b r o) = false := bne_self_eq_false _
      have q2 : (cntF b r o != cntF b r o) = false := bne_self_eq_false _
      go_enter Try.func12, Try.ntmps12
      go_wp2_with (first
        | (have hgd := D2; clear hgd; go_at_call 47; refine (rCount_any _ _ _ _ _ _ b r o _ ((HB.out.below D1.out (Nat.le_refl _)).below D2.out (Nat.le_refl _))).mono ?_; rintro e3 w3 ⟨rfl, b3⟩; have D3 := hide b3; clear b3; have f30 := bk_two (HK0.out.keep (show Below (w.alloc (.cells #[.slice A n c, .slice A' n' c'] 25)).heap.size (w.alloc (.cells #[.slice A n c, .slice A' n' c'] 25)) w3 from (le_call (le_call (le_call (Below.refl _ _) D1.out) D2.out) D3.out)) HK0.out.in_))
        | (have hgd := D1; clear hgd; go_at_call 46; refine (Count_any _ _ _ _ _ _ b r o _ (HB.out.below D1.out (Nat.le_refl _))).mono ?_; rintro e2 w2 ⟨rfl, b2⟩; have D2 := hide b2; clear b2; have f20 := bk_two (HK0.out.keep (show Below (w.alloc (.cells #[.slice A n c, .slice A' n' c'] 25)).heap.size (w.alloc (.cells #[.slice A n c, .slice A' n' c'] 25)) w2 from (le_call (le_call (Below.refl _ _) D1.out) D2.out)) HK0.out.in_))
        | (have hgd := D0; clear hgd; go_at_call 19; refine (Long_any A n c A' n' c' none 0 0 [] _ (R.nil EH _) hle hle').mono ?_; rintro e1 w1 ⟨rfl, b1⟩; rw [HLG.out]; have D1 := hide b1; clear b1; have f10 := bk_two (HK0.out.keep (show Below (w.alloc (.cells #[.slice A n c, .slice A' n' c'] 25)).heap.size (w.alloc (.cells #[.slice A n c, .slice A' n' c'] 25)) w1 from (le_call (Below.refl _ _) D1.out)) HK0.out.in_)))
      have H3 := hide (show Below (w.alloc (.cells #[.slice A n c, .slice A' n' c'] 25)).heap.size (w.alloc (.cells #[.slice A n c, .slice A' n' c'] 25)) w3 from (le_call (le_call (le_call (Below.refl _ _) D1.out) D2.out) D3.out))
      have HB3 := hide (HB.out.below H3.out (Nat.le_refl _))
      have HK3 := hide (HK0.out.keep H3.out HK0.out.in_)
      obtain ⟨N, rfl⟩ : ∃ N : Nat, r = N := ⟨r.toNat, by omega⟩
      have hN : N ≤ 20 := by omega
      go_loopw [12, 11] (fun kv sv wr => ∃ q : Nat, q ≤ 4 ∧ kv = .int .i64 q ∧ sv = .int .i64 (sumV b N q) ∧ Hid (Below w3.heap.size w3 wr)) (fun kv _ _ => 4 - (intOf kv).toNat)
      case atStart => exact ⟨0, by omega, rfl, rfl, hide (Below.refl _ _)⟩
      case round =>
        obtain ⟨q, hq, rfl, rfl, HBL⟩ := hrel
        by_cases hlq : q < 4
        · have hcb := bk_two (HK3.out.keep HBL.out HK3.out.in_)
          have HF2 := hide (show errT b N q = 0 from errT_fine (errX_ok HOK.out) ⟨by omega, by omega, sigB_iff.2 ⟨by omega, by omega⟩⟩)
          have HF1 := hide (show cntF b N q = cntV b N q from by rw [cntF_ok HF2.out]; rfl)
          have hv := cntV_in HOK.out hN (q : Int)
          have hs := sumV_in HOK.out hN q
          have HNX := hide (show sumV b N (q + 1) = sumV b N q + cntV b N q from rfl)
          have hv0 := hv.1
          have hv1 := hv.2
          have hs0 := hs.1
          have hs1 : sumV b N q ≤ 4194304 := by omega
          clear hv hs
          have iq : (q : Int) ≤ 3 := by omega
          have HCC := hide (fun x => Count_any A n c A' n' c' b N q x)
          rw [HF1.out, HF2.out] at HCC
          generalize cntV b N q = v at *
          generalize sumV b N q = u at *
          go_wp2_with (go_at_call 46; refine (HCC.out _ (HB3.out.below HBL.out (Nat.le_refl _))).mono ?_; rintro e5 w5 ⟨rfl, b5⟩)
          go_roundw
          case rel => exact ⟨q + 1, by omega, by go_num, by rw [HNX.out], hide (HBL.out.trans (b5.mono HBL.out.size))⟩
          case measure => simp [intOf]; omega
        · obtain rfl : q = 4 := by omega
          have hcb0 := bk_two (HK3.out.keep HBL.out HK3.out.in_)
          have HNN := hN
          have HAL := hide (sumV_all HOK.out N)
          rw [HAL.out]
          have HT := hide (show Below w.heap.size w wr from (le_call D0.out H3.out).trans (HBL.out.mono (le_call D0.out H3.out).size))
          obtain rfl | rfl | rfl | rfl | rfl | rfl | rfl | rfl | rfl | rfl | rfl | rfl | rfl | rfl | rfl | rfl | rfl | rfl | rfl | rfl | rfl : N = 0 ∨ N = 1 ∨ N = 2 ∨ N = 3 ∨ N = 4 ∨ N = 5 ∨ N = 6 ∨ N = 7 ∨ N = 8 ∨ N = 9 ∨ N = 10 ∨ N = 11 ∨ N = 12 ∨ N = 13 ∨ N = 14 ∨ N = 15 ∨ N = 16 ∨ N = 17 ∨ N = 18 ∨ N = 19 ∨ N = 20 := by omega
          all_goals
            simp only [Int.reducePow]
            go_wp2_with (go_at_call 20; refine (sane_any _).mono ?_; rintro e9 w9 ⟨rfl, b9⟩)
            go_ret
            exact ⟨rfl, le_call HT.out b9⟩
    · have hee : (errT b r o != 0) = true := by simp [he]
      clear he
      have q1 : (errT b r o != errT b r o) = false := bne_self_eq_false _
      have q2 : (cntF b r o != cntF b r o) = false := bne_self_eq_false _
      go_enter Try.func12, Try.ntmps12
      go_wp2_with (first
        | (have hgd := D3; clear hgd; go_at_call 20; refine (sane_any _).mono ?_; rintro e4 w4 ⟨rfl, b4⟩; have D4 := hide b4; clear b4; have f40 := bk_two (HK0.out.keep (show Below (w.alloc (.cells #[.slice A n c, .slice A' n' c'] 25)).heap.size (w.alloc (.cells #[.slice A n c, .slice A' n' c'] 25)) w4 from (le_call (le_call (le_call (le_call (Below.refl _ _) D1.out) D2.out) D3.out) D4.out)) HK0.out.in_))
        | (have hgd := D2; clear hgd; go_at_call 47; refine (rCount_any _ _ _ _ _ _ b r o _ ((HB.out.below D1.out (Nat.le_refl _)).below D2.out (Nat.le_refl _))).mono ?_; rintro e3 w3 ⟨rfl, b3⟩; have D3 := hide b3; clear b3; have f30 := bk_two (HK0.out.keep (show Below (w.alloc (.cells #[.slice A n c, .slice A' n' c'] 25)).heap.size (w.alloc (.cells #[.slice A n c, .slice A' n' c'] 25)) w3 from (le_call (le_call (le_call (Below.refl _ _) D1.out) D2.out) D3.out)) HK0.out.in_))
        | (have hgd := D1; clear hgd; go_at_call 46; refine (Count_any _ _ _ _ _ _ b r o _ (HB.out.below D1.out (Nat.le_refl _))).mono ?_; rintro e2 w2 ⟨rfl, b2⟩; have D2 := hide b2; clear b2; have f20 := bk_two (HK0.out.keep (show Below (w.alloc (.cells #[.slice A n c, .slice A' n' c'] 25)).heap.size (w.alloc (.cells #[.slice A n c, .slice A' n' c'] 25)) w2 from (le_call (le_call (Below.refl _ _) D1.out) D2.out)) HK0.out.in_))
        | (have hgd := D0; clear hgd; go_at_call 19; refine (Long_any A n c A' n' c' none 0 0 [] _ (R.nil EH _) hle hle').mono ?_; rintro e1 w1 ⟨rfl, b1⟩; rw [HLG.out]; have D1 := hide b1; clear b1; have f10 := bk_two (HK0.out.keep (show Below (w.alloc (.cells #[.slice A n c, .slice A' n' c'] 25)).heap.size (w.alloc (.cells #[.slice A n c, .slice A' n' c'] 25)) w1 from (le_call (Below.refl _ _) D1.out)) HK0.out.in_)))
      go_ret
      exact ⟨rfl, (le_call (le_call (le_call (le_call D0.out D1.out) D2.out) D3.out) D4.out)⟩
end Go.Proofs.Ytkjnhdkbojcojaa
