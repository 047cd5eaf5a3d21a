/- What RelayReaches does at any box and state. -/
import Derived.Test.YtkjnhdkbojcojaaWkRuns
import Derived.Test.YtkjnhdkbojcojaaWalkRt
namespace Go.Proofs.Ytkjnhdkbojcojaa
open Go.RowKit Go.Shelf
attribute [local go_sem] Oper.semAt_some

def rchK (b : Bx) (k : Nat) : List Int := ((List.range k).filter (hasV b)).map fun (s : Nat) => (s : Int)
theorem rchK_yes {b : Bx} {k : Nat} (h : hasV b k = true) : rchK b (k + 1) = rchK b k ++ [(k : Int)] := by
  unfold rchK
  rw [List.range_succ, List.filter_append, List.map_append]
  simp [h]
theorem rchK_no {b : Bx} {k : Nat} (h : hasV b k = false) : rchK b (k + 1) = rchK b k := by
  unfold rchK
  rw [List.range_succ, List.filter_append, List.map_append]
  simp [h]
theorem rchK_len (b : Bx) (k : Nat) : (rchK b k).length ≤ k := by
  unfold rchK
  rw [List.length_map]
  exact Nat.le_trans (List.length_filter_le _ _) (by simp)
theorem toF_some {b : Bx} (ok : Okx b) {k : Nat} (h : k < b.2.length) : (toF b (k : Int)).isSome = hasV b k := by
  rw [toF_ok (errS_fine (errX_ok ok) (inB_iff.2 ⟨by omega, by omega⟩)), Int.toNat_natCast, to_isSome]
set_option maxRecDepth 100000 in
set_option maxHeartbeats 4000000 in
theorem rReached_any (A : Option Addr) (n c : Nat) (A' : Option Addr) (n' c' : Nat) (b : Bx) (w : World) (h : BxR w A n c A' n' c' b) :
    Calls Try.prog 29 #[bV A n c A' n' c'] w (RowPost (errX b) (rchF b) w) := by
  have HB0 := hide ((Below.refl w.heap.size w).alloc (Nat.le_refl _) (.cells #[.slice A n c, .slice A' n' c'] 25))
  have HK0 := hide (Bk.born w 25 #[.slice A n c, .slice A' n' c'])
  have HR := hide (h.below HB0.out (Nat.le_refl _))
  have HOL := hide h.ou.length
  clear h
  by_cases he : errX b = 0
  · have hee : (errX b != 0) = false := by simp [he]
    have HE := hide he
    have HOK := hide (okx_of he)
    have hn6 : n' ≤ 6 := by rw [← HOL.out]; exact (okx_of he).n6
    clear he
    go_enter Try.func29, Try.ntmps29
    go_wp2_with (go_at_call 26; refine (rValidate_any A n c A' n' c' b _ HR.out).mono ?_; rintro e w1 ⟨rfl, b1⟩; have B1 := hide b1; have f1 := bk_two (HK0.out.keep b1 HK0.out.in_); clear b1)
    have HSB := hide (fun x (hx : Below w1.heap.size w1 x) => bk_two ((HK0.out.keep B1.out HK0.out.in_).keep hx (Nat.lt_of_lt_of_le HK0.out.in_ B1.out.size)))
    clear f1
    go_loopw [6, 5] (fun i v wr => ∃ (k m : Nat) (A3 : Option Addr) (c3 : Nat), k ≤ n' ∧ i = .int .i64 k ∧ v = .slice A3 m c3 ∧ Hid (Own E1 wr w1.heap.size 3 A3 m c3 (rchK b k)) ∧ Hid (Below w1.heap.size w1 wr)) (fun i _ _ => n' - (intOf i).toNat)
    case atStart => exact ⟨0, 0, none, 0, Nat.zero_le _, rfl, rfl, hide (Own.nil _ _ _ _), hide (Below.refl _ _)⟩
    case round =>
      obtain ⟨k, m, A3, c3, hk, rfl, rfl, HO, HBL⟩ := hrel
      have hcb := HSB.out _ HBL.out
      by_cases hlt : k < n'
      · have i1 : (k : Int) < (n' : Int) := by omega
        have HTS := hide (toF_some HOK.out (show k < b.2.length by rw [HOL.out]; exact hlt))
        have hm6 : m ≤ 6 := by have h1 := HO.out.len; have h2 := rchK_len b k; omega
        have HTO := hide (rTo_any A n c A' n' c' b (k : Int) wr ((HR.out.below B1.out (Nat.le_refl _)).below HBL.out (Nat.le_refl _)))
        cases hv : hasV b k with
        | true =>
          have HK1 := hide (rchK_yes hv)
          rw [hv] at HTS
          generalize rchK b k = L1 at *
          go_wp2_with (first
            | (go_at_call 31; refine HTO.out.mono ?_; rintro e w5 ⟨A5, n5, c5, rfl, _, b5⟩; rw [HTS.out]; have B5 := hide b5; have O5 := hide (HO.out.below b5 (Nat.le_refl _)); have hs5 := (le_call HBL.out b5).size; clear b5)
            | (at_builtin; refine wpList_app1 (E := E1) _ (.int .i64 0) 8 rfl (.tmp 30) (.tmp 32) 23 3 rfl Try.underlying23 info_int rfl (by decide) (by omega) w1.heap.size m c3 A3 L1 (k : Int) _ rfl rfl rfl O5.out (by omega) hs5 ?_; intro A7 c7 w7 o7 b7 _; have O7 := hide o7; have B7 := hide b7; clear o7 b7))
          go_roundw
          case rel => exact ⟨k + 1, m + 1, A7, c7, by omega, by go_num, rfl, hide (by rw [HK1.out]; exact O7.out), hide ((le_call HBL.out B5.out).trans B7.out)⟩
          case measure => simp [intOf]; omega
        | false =>
          have HK1 := hide (rchK_no hv)
          rw [hv] at HTS
          go_wp2_with (go_at_call 31; refine HTO.out.mono ?_; rintro e w5 ⟨A5, n5, c5, rfl, _, b5⟩; rw [HTS.out]; have B5 := hide b5; clear b5)
          go_roundw
          case rel => exact ⟨k + 1, m, A3, c3, by omega, by go_num, rfl, hide (by rw [HK1.out]; exact HO.out.below B5.out (Nat.le_refl _)), hide (le_call HBL.out B5.out)⟩
          case measure => simp [intOf]; omega
      · obtain rfl : k = n' := by omega
        have HF := hide (show rchF b = rchK b k from by rw [rchF_ok HE.out, rchL, rchK, HOL.out])
        go_wp2_with fail
        go_ret2
        have ht := le_call HB0.out B1.out
        exact ⟨A3, m, c3, by rw [HE.out]; rfl, by rw [HF.out]; exact HO.out.more ht.size, ht.trans (HBL.out.mono ht.size)⟩
  · have hee : (errX b != 0) = true := by simp [he]
    have HF := hide (rchF_no he)
    clear he
    go_enter Try.func29, Try.ntmps29
    go_wp2_with (go_at_call 26; refine (rValidate_any A n c A' n' c' b _ HR.out).mono ?_; rintro e w1 ⟨rfl, b1⟩; have B1 := hide b1; clear b1)
    go_ret2
    exact ⟨none, 0, 0, rfl, by rw [HF.out]; exact Own.nil _ _ _ _, le_call HB0.out B1.out⟩
theorem rchF_len (b : Bx) : (rchF b).length ≤ 6 := by
  by_cases e : errX b = 0
  · rw [rchF_ok e]
    have h1 := rchK_len b b.2.length
    have := (okx_of e).n6
    unfold rchK at h1
    unfold rchL
    omega
  · rw [rchF_no e]; simp
theorem toF_len (b : Bx) (s : Int) : ((toF b s).getD []).length ≤ 6 := by
  by_cases e : errS b s = 0
  · rw [toF_ok e]
    cases h : toV b s.toNat with
    | none => simp
    | some u => exact (to_end (errS_ok e).1 h).2.2
  · rw [toF_no e]; simp
set_option maxRecDepth 100000 in
set_option maxHeartbeats 8000000 in
theorem RelayReaches_walk (A : Option Addr) (n c : Nat) (A' : Option Addr) (n' c' : Nat) (b : Bx) (s : Int) (w : World) (h : BxR w A n c A' n' c' b) (_ : (Lit.int .i64 s).wf = true) :
    Calls Try.prog 4 #[bV A n c A' n' c', .int .i64 s] w fun e w' => e = .returned (.bool true) ∧ Below w.heap.size w w' := by
  have D0 := hide ((Below.refl w.heap.size w).alloc (Nat.le_refl _) (.cells #[.slice A n c, .slice A' n' c'] 25))
  have K0 := hide (Bk.born w 25 #[.slice A n c, .slice A' n' c'])
  have HB := hide (h.below D0.out (Nat.le_refl _))
  have H0 := hide (Below.refl (w.alloc (.cells #[.slice A n c, .slice A' n' c'] 25)).heap.size (w.alloc (.cells #[.slice A n c, .slice A' n' c'] 25)))
  have hle := h.nx.le
  have hle' := h.ou.le
  clear h
  cases hlg : longB n n' [] with
  | true =>
    have HLG := hide hlg
    clear hlg
    go_enter Try.func4, Try.ntmps4
    go_wp2_with (first
      | (have hgd := H1; clear hgd; go_at_call 20; refine (sane_any _).mono ?_; rintro e2 w2 ⟨rfl, b2⟩; have H2 := hide (le_call H1.out b2); have f0_2 := bk_two (K0.out.keep H2.out K0.out.in_); clear b2)
      | (have hgd := H0; clear hgd; go_at_call 19; refine (Long_any A n c A' n' c' none 0 0 [] _ (R.nil EH _) hle hle').mono ?_; rintro e1 w1 ⟨rfl, b1⟩; rw [HLG.out]; have H1 := hide (le_call H0.out b1); have f0_1 := bk_two (K0.out.keep H1.out K0.out.in_); clear b1))
    go_ret
    exact ⟨rfl, le_call D0.out H2.out⟩
  | false =>
    have HLG := hide hlg
    clear hlg
    have q1 : (errX b != errX b) = false := bne_self_eq_false _
    have q2 : (errS b s != errS b s) = false := bne_self_eq_false _
    have HRL := hide (rchF_len b)
    have HTL := hide (toF_len b s)
    cases ht : toF b s with
    | none =>
      have HT := hide ht
      clear ht
      go_enter Try.func4, Try.ntmps4
      go_wp2_with (first
        | (have hgd := H7; clear hgd; go_at_call 20; refine (sane_any _).mono ?_; rintro e8 w8 ⟨rfl, b8⟩; have H8 := hide (le_call H7.out b8); have R2_8 := hide (le_call R2_7.out b8); have R3_8 := hide (le_call R3_7.out b8); have R4_8 := hide (le_call R4_7.out b8); have R5_8 := hide (le_call R5_7.out b8); have f0_8 := bk_two (K0.out.keep H8.out K0.out.in_); clear b8)
        | (have hgd := H6; clear hgd; go_at_call 27; refine (SameInts_any A4 n4 c4 A5 n5 c5 [] [] _ (O4.out.row.below R4_6.out (Nat.le_refl _)) (O5.out.row.below R5_6.out (Nat.le_refl _)) (by have h1 := LN4.out; have h2 := HTL.out; (try simp only [Option.getD_none, List.length_nil] at h1); omega) (by have h1 := LN5.out; have h2 := HTL.out; (try simp only [Option.getD_none, List.length_nil] at h1); omega)).mono ?_; rintro e7 w7 ⟨rfl, qq, hqq⟩; have b7 := (show Below w6.heap.size w6 w7 from (by rw [hqq]; exact below_drewN (Below.refl _ _) qq)); clear hqq; rw [beq_self_eq_true]; have H7 := hide (le_call H6.out b7); have R2_7 := hide (le_call R2_6.out b7); have R3_7 := hide (le_call R3_6.out b7); have R4_7 := hide (le_call R4_6.out b7); have R5_7 := hide (le_call R5_6.out b7); have f0_7 := bk_two (K0.out.keep H7.out K0.out.in_); clear b7)
        | (have hgd := H5; clear hgd; go_at_call 27; refine (SameInts_any A2 n2 c2 A3 n3 c3 (rchF b) (rchF b) _ (O2.out.row.below R2_5.out (Nat.le_refl _)) (O3.out.row.below R3_5.out (Nat.le_refl _)) (by have h1 := LN2.out; have h2 := HRL.out; omega) (by have h1 := LN3.out; have h2 := HRL.out; omega)).mono ?_; rintro e6 w6 ⟨rfl, qq, hqq⟩; have b6 := (show Below w5.heap.size w5 w6 from (by rw [hqq]; exact below_drewN (Below.refl _ _) qq)); clear hqq; rw [beq_self_eq_true]; have H6 := hide (le_call H5.out b6); have R2_6 := hide (le_call R2_5.out b6); have R3_6 := hide (le_call R3_5.out b6); have R4_6 := hide (le_call R4_5.out b6); have R5_6 := hide (le_call R5_5.out b6); have f0_6 := bk_two (K0.out.keep H6.out K0.out.in_); clear b6)
        | (have hgd := H4; clear hgd; go_at_call 31; refine (rTo_any A n c A' n' c' b s _ (HB.out.below H4.out (Nat.le_refl _))).mono ?_; rw [HT.out]; rintro e5 w5 ⟨A5, n5, c5, rfl, o5, b5⟩; have H5 := hide (le_call H4.out b5); have R2_5 := hide (le_call R2_4.out b5); have R3_5 := hide (le_call R3_4.out b5); have R4_5 := hide (le_call R4_4.out b5); have f0_5 := bk_two (K0.out.keep H5.out K0.out.in_); have O5 := hide o5; have LN5 := hide o5.len; have R5_5 := hide (Below.refl w5.heap.size w5); clear o5; clear b5)
        | (have hgd := H3; clear hgd; go_at_call 30; refine (To_any A n c A' n' c' b s _ (HB.out.below H3.out (Nat.le_refl _))).mono ?_; rw [HT.out]; rintro e4 w4 ⟨A4, n4, c4, rfl, o4, b4⟩; have H4 := hide (le_call H3.out b4); have R2_4 := hide (le_call R2_3.out b4); have R3_4 := hide (le_call R3_3.out b4); have f0_4 := bk_two (K0.out.keep H4.out K0.out.in_); have O4 := hide o4; have LN4 := hide o4.len; have R4_4 := hide (Below.refl w4.heap.size w4); clear o4; clear b4)
        | (have hgd := H2; clear hgd; go_at_call 29; refine (rReached_any A n c A' n' c' b _ (HB.out.below H2.out (Nat.le_refl _))).mono ?_; rintro e3 w3 ⟨A3, n3, c3, rfl, o3, b3⟩; have H3 := hide (le_call H2.out b3); have R2_3 := hide (le_call R2_2.out b3); have f0_3 := bk_two (K0.out.keep H3.out K0.out.in_); have O3 := hide o3; have LN3 := hide o3.len; have R3_3 := hide (Below.refl w3.heap.size w3); clear o3; clear b3)
        | (have hgd := H1; clear hgd; go_at_call 28; refine (Reached_any A n c A' n' c' b _ (HB.out.below H1.out (Nat.le_refl _))).mono ?_; rintro e2 w2 ⟨A2, n2, c2, rfl, o2, b2⟩; have H2 := hide (le_call H1.out b2); have f0_2 := bk_two (K0.out.keep H2.out K0.out.in_); have O2 := hide o2; have LN2 := hide o2.len; have R2_2 := hide (Below.refl w2.heap.size w2); clear o2; clear b2)
        | (have hgd := H0; clear hgd; go_at_call 19; refine (Long_any A n c A' n' c' none 0 0 [] _ (R.nil EH _) hle hle').mono ?_; rintro e1 w1 ⟨rfl, b1⟩; rw [HLG.out]; have H1 := hide (le_call H0.out b1); have f0_1 := bk_two (K0.out.keep H1.out K0.out.in_); clear b1))
      go_ret
      exact ⟨rfl, le_call D0.out H8.out⟩
    | some u =>
      have het : errS b s = 0 := by
        rcases Classical.em (errS b s = 0) with e | e
        · exact e
        · rw [toF_no e] at ht; cases ht
      have HTV : toV b s.toNat = some u := by rw [← toF_ok het]; exact ht
      obtain ⟨ok, h0, hn⟩ := errS_ok het
      obtain ⟨t1, t2, t3⟩ := to_end ok HTV
      have e1 : errW b u = 0 := errW_inp ok (by omega) t1
      have HE1 := hide e1
      have HEN := hide (show endF b u = s from by rw [endF_ok e1, t2]; omega)
      have HT := hide ht
      have HU9 := hide (show u.length ≤ 6 from t3)
      have qs : (s == s) = true := beq_self_eq_true _
      clear ht het HTV ok t1 t2 t3 e1
      go_enter Try.func4, Try.ntmps4
      go_wp2_with (first
        | (have hgd := H8; clear hgd; go_at_call 20; refine (sane_any _).mono ?_; rintro e9 w9 ⟨rfl, b9⟩; have H9 := hide (le_call H8.out b9); have R2_9 := hide (le_call R2_8.out b9); have R3_9 := hide (le_call R3_8.out b9); have R4_9 := hide (le_call R4_8.out b9); have R5_9 := hide (le_call R5_8.out b9); have f0_9 := bk_two (K0.out.keep H9.out K0.out.in_); clear b9)
        | (have hgd := H7; clear hgd; go_at_call 23; refine (State_any A n c A' n' c' b A4 u.length c4 u _ (HB.out.below H7.out (Nat.le_refl _)) (O4.out.row.below R4_7.out (Nat.le_refl _))).mono ?_; rw [HE1.out, HEN.out]; rintro e8 w8 ⟨rfl, b8⟩; have H8 := hide (le_call H7.out b8); have R2_8 := hide (le_call R2_7.out b8); have R3_8 := hide (le_call R3_7.out b8); have R4_8 := hide (le_call R4_7.out b8); have R5_8 := hide (le_call R5_7.out b8); have f0_8 := bk_two (K0.out.keep H8.out K0.out.in_); clear b8)
        | (have hgd := H6; clear hgd; go_at_call 27; refine (SameInts_any A4 u.length c4 A5 n5 c5 u u _ (O4.out.row.below R4_6.out (Nat.le_refl _)) (O5.out.row.below R5_6.out (Nat.le_refl _)) (by have h1 := LN4.out; have h2 := HU9.out; (try simp only [Option.getD_some] at h1); omega) (by have h1 := LN5.out; have h2 := HU9.out; (try simp only [Option.getD_some] at h1); omega)).mono ?_; rintro e7 w7 ⟨rfl, qq, hqq⟩; have b7 := (show Below w6.heap.size w6 w7 from (by rw [hqq]; exact below_drewN (Below.refl _ _) qq)); clear hqq; rw [beq_self_eq_true]; have H7 := hide (le_call H6.out b7); have R2_7 := hide (le_call R2_6.out b7); have R3_7 := hide (le_call R3_6.out b7); have R4_7 := hide (le_call R4_6.out b7); have R5_7 := hide (le_call R5_6.out b7); have f0_7 := bk_two (K0.out.keep H7.out K0.out.in_); clear b7)
        | (have hgd := H5; clear hgd; go_at_call 27; refine (SameInts_any A2 n2 c2 A3 n3 c3 (rchF b) (rchF b) _ (O2.out.row.below R2_5.out (Nat.le_refl _)) (O3.out.row.below R3_5.out (Nat.le_refl _)) (by have h1 := LN2.out; have h2 := HRL.out; omega) (by have h1 := LN3.out; have h2 := HRL.out; omega)).mono ?_; rintro e6 w6 ⟨rfl, qq, hqq⟩; have b6 := (show Below w5.heap.size w5 w6 from (by rw [hqq]; exact below_drewN (Below.refl _ _) qq)); clear hqq; rw [beq_self_eq_true]; have H6 := hide (le_call H5.out b6); have R2_6 := hide (le_call R2_5.out b6); have R3_6 := hide (le_call R3_5.out b6); have R4_6 := hide (le_call R4_5.out b6); have R5_6 := hide (le_call R5_5.out b6); have f0_6 := bk_two (K0.out.keep H6.out K0.out.in_); clear b6)
        | (have hgd := H4; clear hgd; go_at_call 31; refine (rTo_any A n c A' n' c' b s _ (HB.out.below H4.out (Nat.le_refl _))).mono ?_; rw [HT.out]; rintro e5 w5 ⟨A5, n5, c5, rfl, o5, b5⟩; have H5 := hide (le_call H4.out b5); have R2_5 := hide (le_call R2_4.out b5); have R3_5 := hide (le_call R3_4.out b5); have R4_5 := hide (le_call R4_4.out b5); have f0_5 := bk_two (K0.out.keep H5.out K0.out.in_); have O5 := hide o5; have LN5 := hide o5.len; have R5_5 := hide (Below.refl w5.heap.size w5); clear o5; clear b5)
        | (have hgd := H3; clear hgd; go_at_call 30; refine (To_any A n c A' n' c' b s _ (HB.out.below H3.out (Nat.le_refl _))).mono ?_; rw [HT.out]; rintro e4 w4 ⟨A4, n4, c4, rfl, o4, b4⟩; have H4 := hide (le_call H3.out b4); have R2_4 := hide (le_call R2_3.out b4); have R3_4 := hide (le_call R3_3.out b4); have f0_4 := bk_two (K0.out.keep H4.out K0.out.in_); have O4 := hide o4; have LN4 := hide o4.len; obtain rfl : u.length = n4 := o4.len; have R4_4 := hide (Below.refl w4.heap.size w4); clear o4; clear b4)
        | (have hgd := H2; clear hgd; go_at_call 29; refine (rReached_any A n c A' n' c' b _ (HB.out.below H2.out (Nat.le_refl _))).mono ?_; rintro e3 w3 ⟨A3, n3, c3, rfl, o3, b3⟩; have H3 := hide (le_call H2.out b3); have R2_3 := hide (le_call R2_2.out b3); have f0_3 := bk_two (K0.out.keep H3.out K0.out.in_); have O3 := hide o3; have LN3 := hide o3.len; have R3_3 := hide (Below.refl w3.heap.size w3); clear o3; clear b3)
        | (have hgd := H1; clear hgd; go_at_call 28; refine (Reached_any A n c A' n' c' b _ (HB.out.below H1.out (Nat.le_refl _))).mono ?_; rintro e2 w2 ⟨A2, n2, c2, rfl, o2, b2⟩; have H2 := hide (le_call H1.out b2); have f0_2 := bk_two (K0.out.keep H2.out K0.out.in_); have O2 := hide o2; have LN2 := hide o2.len; have R2_2 := hide (Below.refl w2.heap.size w2); clear o2; clear b2)
        | (have hgd := H0; clear hgd; go_at_call 19; refine (Long_any A n c A' n' c' none 0 0 [] _ (R.nil EH _) hle hle').mono ?_; rintro e1 w1 ⟨rfl, b1⟩; rw [HLG.out]; have H1 := hide (le_call H0.out b1); have f0_1 := bk_two (K0.out.keep H1.out K0.out.in_); clear b1))
      go_ret
      exact ⟨rfl, le_call D0.out H9.out⟩
end Go.Proofs.Ytkjnhdkbojcojaa
