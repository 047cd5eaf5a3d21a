/- Walks: which states words tell apart, on both sides. -/
import Derived.Test.YtkjnhdkbojcojaaWalkQt
import Derived.Test.YtkjnhdkbojcojaaWalkH
namespace Go.Proofs.Ytkjnhdkbojcojaa
open Go.RowKit Go.Shelf
attribute [local go_sem] Oper.semAt_some

set_option maxHeartbeats 2000000 in
theorem two_any (A : Option Addr) (n c : Nat) (A' : Option Addr) (n' c' : Nat) (a : Bx) (B : Option Addr) (p q : Nat) (B' : Option Addr) (p' q' : Nat) (b : Bx) (w : World) (h : BxR w A n c A' n' c' a) (h2 : BxR w B p q B' p' q' b) :
    Calls Try.prog 78 #[bV A n c A' n' c', bV B p q B' p' q'] w fun e w' => e = .returned (.int .i64 (errTw a b)) ∧ Below w.heap.size w w' := by
  have HB0 := hide (show Below w.heap.size w ((w.alloc (.cells #[.slice A n c, .slice A' n' c'] 25)).alloc (.cells #[.slice B p q, .slice B' p' q'] 25)) from le_two (le_two (Below.refl _ _) _) _)
  have HK1 := hide ((Bk.born w 25 #[.slice A n c, .slice A' n' c']).more (.cells #[.slice B p q, .slice B' p' q'] 25))
  have HK2 := hide (Bk.born (w.alloc (.cells #[.slice A n c, .slice A' n' c'] 25)) 25 #[.slice B p q, .slice B' p' q'])
  rw [show (w.alloc (.cells #[.slice A n c, .slice A' n' c'] 25)).heap.size = w.heap.size + 1 from by simp] at HK2
  have HR := hide (h.below HB0.out (Nat.le_refl _))
  have HR2 := hide (h2.below HB0.out (Nat.le_refl _))
  clear h h2
  by_cases he : errX a = 0
  · have hee : (errX a != 0) = false := by simp [he]
    have HT := hide (show errTw a b = errX b from if_pos he)
    clear he
    go_enter Try.func78, Try.ntmps78
    go_wp2_with (first
      | (have hgd := B1; clear hgd; go_at_call 26; refine (rValidate_any B p q B' p' q' b _ (HR2.out.below B1.out (Nat.le_refl _))).mono ?_; rintro e w2 ⟨rfl, b2⟩; have B2 := hide (le_call B1.out b2); clear b2)
      | (go_at_call 26; refine (rValidate_any A n c A' n' c' a _ HR.out).mono ?_; rintro e w1 ⟨rfl, b1⟩; have f1 := bk_two (HK2.out.keep b1 HK2.out.in_); have B1 := hide b1; clear b1))
    go_ret
    exact ⟨ret_i64 HT.out.symm, le_call HB0.out B2.out⟩
  · have hee : (errX a != 0) = true := by simp [he]
    have HT := hide (show errTw a b = errX a from if_neg he)
    clear he
    go_enter Try.func78, Try.ntmps78
    go_wp2_with (go_at_call 26; refine (rValidate_any A n c A' n' c' a _ HR.out).mono ?_; rintro e w1 ⟨rfl, b1⟩; have B1 := hide b1; clear b1)
    go_ret
    exact ⟨ret_i64 HT.out.symm, le_call HB0.out B1.out⟩
set_option maxRecDepth 100000 in
set_option maxHeartbeats 4000000 in
theorem rTell_any (A : Option Addr) (n c : Nat) (A' : Option Addr) (n' c' : Nat) (a : Bx) (B : Option Addr) (p q : Nat) (B' : Option Addr) (p' q' : Nat) (b : Bx) (w : World) (h : BxR w A n c A' n' c' a) (h2 : BxR w B p q B' p' q' b) :
    Calls Try.prog 40 #[bV A n c A' n' c', bV B p q B' p' q'] w (FindPost (errTw a b) (tellF a b) w) := by
  have HB0 := hide (show Below w.heap.size w ((w.alloc (.cells #[.slice A n c, .slice A' n' c'] 25)).alloc (.cells #[.slice B p q, .slice B' p' q'] 25)) from le_two (le_two (Below.refl _ _) _) _)
  have HK1 := hide ((Bk.born w 25 #[.slice A n c, .slice A' n' c']).more (.cells #[.slice B p q, .slice B' p' q'] 25))
  have HK2 := hide (Bk.born (w.alloc (.cells #[.slice A n c, .slice A' n' c'] 25)) 25 #[.slice B p q, .slice B' p' q'])
  rw [show (w.alloc (.cells #[.slice A n c, .slice A' n' c'] 25)).heap.size = w.heap.size + 1 from by simp] at HK2
  have HR := hide (h.below HB0.out (Nat.le_refl _))
  have HR2 := hide (h2.below HB0.out (Nat.le_refl _))
  clear h h2
  by_cases he : errTw a b = 0
  · have hee : (errTw a b != 0) = false := by simp [he]
    have HE := hide he
    have HOA := hide (errTw_ok he).1
    have HOB := hide (errTw_ok he).2
    have HTF := hide (tellF_ok he)
    clear he
    go_enter Try.func40, Try.ntmps40
    go_wp2_with (first
      | (go_at_call 78; refine (two_any A n c A' n' c' a B p q B' p' q' b _ HR.out HR2.out).mono ?_; rintro e w1 ⟨rfl, b1⟩; have f1 := bk_two (HK1.out.keep b1 HK1.out.in_); have f2 := bk_two (HK2.out.keep b1 HK2.out.in_); have B1 := hide b1; clear b1)
      | (go_at_call 79; refine (rtell_any A n c A' n' c' a B p q B' p' q' b 0 0 _ (HR.out.below B1.out (Nat.le_refl _)) (HR2.out.below B1.out (Nat.le_refl _)) HOA.out HOB.out HOA.out.n1 HOB.out.n1).mono ?_; rintro e w3 ⟨A3, n3, c3, rfl, o3, b3⟩; have O3 := hide o3; have B3 := hide (le_call B1.out b3); clear o3 b3))
    rw [HTF.out, HE.out]
    refine bodyPost_ret (v := .tuple #[.slice A3 n3 c3, .bool (tellV a b 0 0).isSome, .int .i64 0]) (by simp [results, Try.results40, go_sem]) rfl ?_
    exact ⟨A3, n3, c3, rfl, O3.out.more (Nat.le_trans HB0.out.size B1.out.size), le_call HB0.out B3.out⟩
  · have hee : (errTw a b != 0) = true := by simp [he]
    have HTF := hide (tellF_no he)
    clear he
    go_enter Try.func40, Try.ntmps40
    go_wp2_with (go_at_call 78; refine (two_any A n c A' n' c' a B p q B' p' q' b _ HR.out HR2.out).mono ?_; rintro e w1 ⟨rfl, b1⟩; have B1 := hide b1; clear b1)
    rw [HTF.out]
    refine bodyPost_ret (v := .tuple #[.slice none 0 0, .bool false, .int .i64 (errTw a b)]) (by simp [results, Try.results40, go_sem]) rfl ?_
    exact ⟨none, 0, 0, rfl, Own.nil _ _ _ _, le_call HB0.out B1.out⟩
/-- The error of a box and two states. -/
def errSS (b : Bx) (i j : Int) : Int := if errS b i = 0 then errS b j else errS b i
theorem errSS_ok {b : Bx} {i j : Int} (h : errSS b i j = 0) : errS b i = 0 ∧ errS b j = 0 := by
  unfold errSS at h
  by_cases e : errS b i = 0
  · rw [if_pos e] at h; exact ⟨e, h⟩
  · rw [if_neg e] at h; exact absurd h e
def tellSF (b : Bx) (i j : Int) : Option (List Int) := if errSS b i j = 0 then tellV b b i.toNat j.toNat else none
theorem tellSF_ok {b : Bx} {i j : Int} (h : errSS b i j = 0) : tellSF b i j = tellV b b i.toNat j.toNat := if_pos h
theorem tellSF_no {b : Bx} {i j : Int} (h : ¬ errSS b i j = 0) : tellSF b i j = none := if_neg h
theorem errSS_x {b : Bx} (h : ¬ errX b = 0) (i j : Int) : errSS b i j = errX b := by
  unfold errSS; rw [errS_bad h, if_neg h]
theorem errSS_4 {b : Bx} (h : errX b = 0) {i j : Int} (hn : ¬ (inB b.2.length i = true ∧ inB b.2.length j = true)) : errSS b i j = 4 := by
  unfold errSS
  cases h1 : inB b.2.length i with
  | true =>
    have h2 : inB b.2.length j = false := by
      cases h3 : inB b.2.length j with
      | true => exact absurd ⟨h1, h3⟩ hn
      | false => rfl
    rw [errS_fine h h1, if_pos rfl, errS_none h h2]
  | false => rw [errS_none h h1, if_neg (by decide)]
set_option maxRecDepth 100000 in
set_option maxHeartbeats 4000000 in
theorem rTellStates_any (A : Option Addr) (n c : Nat) (A' : Option Addr) (n' c' : Nat) (b : Bx) (i j : Int) (w : World) (h : BxR w A n c A' n' c' b) :
    Calls Try.prog 42 #[bV A n c A' n' c', .int .i64 i, .int .i64 j] w (FindPost (errSS b i j) (tellSF b i j) w) := by
  have HB0 := hide ((Below.refl w.heap.size w).alloc (Nat.le_refl _) (.cells #[.slice A n c, .slice A' n' c'] 25))
  have HK0 := hide (Bk.born w 25 #[.slice A n c, .slice A' n' c'])
  have HR := hide (h.below HB0.out (Nat.le_refl _))
  have HOL := hide h.ou.length
  clear h
  have HS1 := hide (rstate_any A n c A' n' c' b i _ HR.out)
  have HS2 := hide (fun x (hx : Below (w.alloc (.cells #[.slice A n c, .slice A' n' c'] 25)).heap.size (w.alloc (.cells #[.slice A n c, .slice A' n' c'] 25)) x) => rstate_any A n c A' n' c' b j x (HR.out.below hx (Nat.le_refl _)))
  by_cases hi : errS b i = 0
  · have hie : (errS b i != 0) = false := by simp [hi]
    by_cases hj : errS b j = 0
    · have hje : (errS b j != 0) = false := by simp [hj]
      have HE := hide (show errSS b i j = 0 from by unfold errSS; rw [if_pos hi]; exact hj)
      have HOK := hide (errS_ok hi).1
      obtain ⟨u, rfl⟩ : ∃ u : Nat, i = (u : Int) := ⟨i.toNat, by have := (errS_ok hi).2.1; omega⟩
      obtain ⟨v, rfl⟩ : ∃ v : Nat, j = (v : Int) := ⟨j.toNat, by have := (errS_ok hj).2.1; omega⟩
      have HU := hide (show u < b.2.length by have := (errS_ok hi).2.2; omega)
      have HV := hide (show v < b.2.length by have := (errS_ok hj).2.2; omega)
      have HTF := hide (show tellSF b (u : Int) (v : Int) = tellV b b u v from tellSF_ok HE.out)
      clear hi hj
      go_enter Try.func42, Try.ntmps42
      go_wp2_with (first
        | (have hgd := B1; clear hgd; go_at_call 70; refine (HS2.out _ B1.out).mono ?_; rintro e w2 ⟨rfl, b2⟩; have B2 := hide (le_call B1.out b2); have f2 := bk_two (HK0.out.keep B2.out HK0.out.in_); clear b2)
        | (go_at_call 70; refine HS1.out.mono ?_; rintro e w1 ⟨rfl, b1⟩; have B1 := hide b1; have f1 := bk_two (HK0.out.keep b1 HK0.out.in_); clear b1)
        | (go_at_call 79; refine (rtell_any A n c A' n' c' b A n c A' n' c' b u v _ (HR.out.below B2.out (Nat.le_refl _)) (HR.out.below B2.out (Nat.le_refl _)) HOK.out HOK.out HU.out HV.out).mono ?_; rintro e w3 ⟨A3, n3, c3, rfl, o3, b3⟩; have O3 := hide o3; have B3 := hide (le_call B2.out b3); clear o3 b3))
      rw [HTF.out, HE.out]
      refine bodyPost_ret (v := .tuple #[.slice A3 n3 c3, .bool (tellV b b u v).isSome, .int .i64 0]) (by simp [results, Try.results42, go_sem]) rfl ?_
      exact ⟨A3, n3, c3, rfl, O3.out.more (Nat.le_trans HB0.out.size B2.out.size), le_call HB0.out B3.out⟩
    · have hje : (errS b j != 0) = true := by simp [hj]
      have HE := hide (show errSS b i j = errS b j from if_pos hi)
      have HTF := hide (tellSF_no (show ¬ errSS b i j = 0 by rw [HE.out]; exact hj))
      clear hi hj
      go_enter Try.func42, Try.ntmps42
      go_wp2_with (first
        | (have hgd := B1; clear hgd; go_at_call 70; refine (HS2.out _ B1.out).mono ?_; rintro e w2 ⟨rfl, b2⟩; have B2 := hide (le_call B1.out b2); clear b2)
        | (go_at_call 70; refine HS1.out.mono ?_; rintro e w1 ⟨rfl, b1⟩; have B1 := hide b1; have f1 := bk_two (HK0.out.keep b1 HK0.out.in_); clear b1))
      rw [HTF.out, HE.out]
      refine bodyPost_ret (v := .tuple #[.slice none 0 0, .bool false, .int .i64 (errS b j)]) (by simp [results, Try.results42, go_sem]) rfl ?_
      exact ⟨none, 0, 0, rfl, Own.nil _ _ _ _, le_call HB0.out B2.out⟩
  · have hie : (errS b i != 0) = true := by simp [hi]
    have HE := hide (show errSS b i j = errS b i from if_neg hi)
    have HTF := hide (tellSF_no (show ¬ errSS b i j = 0 by rw [HE.out]; exact hi))
    clear hi
    go_enter Try.func42, Try.ntmps42
    go_wp2_with (go_at_call 70; refine HS1.out.mono ?_; rintro e w1 ⟨rfl, b1⟩; have B1 := hide b1; clear b1)
    rw [HTF.out, HE.out]
    refine bodyPost_ret (v := .tuple #[.slice none 0 0, .bool false, .int .i64 (errS b i)]) (by simp [results, Try.results42, go_sem]) rfl ?_
    exact ⟨none, 0, 0, rfl, Own.nil _ _ _ _, le_call HB0.out B1.out⟩
set_option maxRecDepth 100000 in
set_option maxHeartbeats 4000000 in
theorem TellStates_any (A : Option Addr) (n c : Nat) (A' : Option Addr) (n' c' : Nat) (b : Bx) (i j : Int) (w : World) (h : BxR w A n c A' n' c' b) :
    Calls Try.prog 41 #[bV A n c A' n' c', .int .i64 i, .int .i64 j] w (FindPost (errSS b i j) (tellSF b i j) w) := by
  have HX := hide (BoxAt.born h)
  have HB0 := hide ((Below.refl w.heap.size w).alloc (Nat.le_refl _) (.cells #[.slice A n c, .slice A' n' c'] 25))
  have HK0 := hide (Bk.born w 25 #[.slice A n c, .slice A' n' c'])
  have HR := hide (h.below HB0.out (Nat.le_refl _))
  have HOL := hide h.ou.length
  clear h
  by_cases he : errX b = 0
  · have hee : (errX b != 0) = false := by simp [he]
    have HX0 := hide he
    clear he
    cases hi : inB n' i with
    | true =>
      have HSI := hide hi
      cases hj : inB n' j with
      | true =>
        have HSJ := hide hj
        have HE := hide (show errSS b i j = 0 from by unfold errSS; rw [errS_fine HX0.out (by rw [HOL.out]; exact hi), if_pos rfl]; exact errS_fine HX0.out (by rw [HOL.out]; exact hj))
        have HOK := hide (okx_of HX0.out)
        obtain ⟨u, rfl⟩ : ∃ u : Nat, i = (u : Int) := ⟨i.toNat, by have := (inB_iff.1 hi).1; omega⟩
        obtain ⟨v, rfl⟩ : ∃ v : Nat, j = (v : Int) := ⟨j.toNat, by have := (inB_iff.1 hj).1; omega⟩
        have HU := hide (show u < b.2.length by rw [HOL.out]; have := (inB_iff.1 hi).2; omega)
        have HV := hide (show v < b.2.length by rw [HOL.out]; have := (inB_iff.1 hj).2; omega)
        have HTF := hide (show tellSF b (u : Int) (v : Int) = tellV b b u v from tellSF_ok HE.out)
        clear hi hj
        go_enter Try.func41, Try.ntmps41
        go_wp2_with (first
        | (have hgd := B2; clear hgd; go_at_call 64; refine (isState_any A n c A' n' c' (v : Int) _).mono ?_; rintro e w3 ⟨rfl, b3⟩; rw [HSJ.out]; have B3 := hide (le_call B2.out b3); have f3 := bk_two (HK0.out.keep B3.out HK0.out.in_); clear b3)
        | (have hgd := B1; clear hgd; go_at_call 64; refine (isState_any A n c A' n' c' (u : Int) _).mono ?_; rintro e w2 ⟨rfl, b2⟩; rw [HSI.out]; have B2 := hide (le_call B1.out b2); have f2 := bk_two (HK0.out.keep B2.out HK0.out.in_); clear b2)
        | (go_at_call 25; refine (Validate_any A n c A' n' c' b _ HR.out).mono ?_; rintro e w1 ⟨rfl, b1⟩; have B1 := hide b1; have f1 := bk_two (HK0.out.keep b1 HK0.out.in_); clear b1)
        | (go_at_call 80; refine (tell_any w.heap.size w.heap.size b b u v _ (HX.out.below B3.out (Nat.le_refl _)) (HX.out.below B3.out (Nat.le_refl _)) HOK.out HOK.out HU.out HV.out).mono ?_; rintro e w4 ⟨A4, n4, c4, rfl, o4, b4⟩; have O4 := hide o4; have B4 := hide (le_call B3.out b4); clear o4 b4))
        rw [HTF.out, HE.out]
        refine bodyPost_ret (v := .tuple #[.slice A4 n4 c4, .bool (tellV b b u v).isSome, .int .i64 0]) (by simp [results, Try.results41, go_sem]) rfl ?_
        exact ⟨A4, n4, c4, rfl, O4.out.more (Nat.le_trans HB0.out.size B3.out.size), le_call HB0.out B4.out⟩
      | false =>
        have HSJ := hide hj
        have HE := hide (errSS_4 HX0.out (i := i) (j := j) (by rw [HOL.out, hj]; simp))
        have HTF := hide (tellSF_no (show ¬ errSS b i j = 0 by rw [HE.out]; decide))
        clear hi hj
        go_enter Try.func41, Try.ntmps41
        go_wp2_with (first
        | (have hgd := B2; clear hgd; go_at_call 64; refine (isState_any A n c A' n' c' j _).mono ?_; rintro e w3 ⟨rfl, b3⟩; rw [HSJ.out]; have B3 := hide (le_call B2.out b3); have f3 := bk_two (HK0.out.keep B3.out HK0.out.in_); clear b3)
        | (have hgd := B1; clear hgd; go_at_call 64; refine (isState_any A n c A' n' c' i _).mono ?_; rintro e w2 ⟨rfl, b2⟩; rw [HSI.out]; have B2 := hide (le_call B1.out b2); have f2 := bk_two (HK0.out.keep B2.out HK0.out.in_); clear b2)
        | (go_at_call 25; refine (Validate_any A n c A' n' c' b _ HR.out).mono ?_; rintro e w1 ⟨rfl, b1⟩; have B1 := hide b1; have f1 := bk_two (HK0.out.keep b1 HK0.out.in_); clear b1))
        rw [HTF.out, HE.out]
        refine bodyPost_ret (v := .tuple #[.slice none 0 0, .bool false, .int .i64 4]) (by simp [results, Try.results41, go_sem]) rfl ?_
        exact ⟨none, 0, 0, rfl, Own.nil _ _ _ _, le_call HB0.out B3.out⟩
    | false =>
      have HSI := hide hi
      have HE := hide (errSS_4 HX0.out (i := i) (j := j) (by rw [HOL.out, hi]; simp))
      have HTF := hide (tellSF_no (show ¬ errSS b i j = 0 by rw [HE.out]; decide))
      clear hi
      go_enter Try.func41, Try.ntmps41
      go_wp2_with (first
        | (have hgd := B1; clear hgd; go_at_call 64; refine (isState_any A n c A' n' c' i _).mono ?_; rintro e w2 ⟨rfl, b2⟩; rw [HSI.out]; have B2 := hide (le_call B1.out b2); clear b2)
        | (go_at_call 25; refine (Validate_any A n c A' n' c' b _ HR.out).mono ?_; rintro e w1 ⟨rfl, b1⟩; have B1 := hide b1; have f1 := bk_two (HK0.out.keep b1 HK0.out.in_); clear b1))
      rw [HTF.out, HE.out]
      refine bodyPost_ret (v := .tuple #[.slice none 0 0, .bool false, .int .i64 4]) (by simp [results, Try.results41, go_sem]) rfl ?_
      exact ⟨none, 0, 0, rfl, Own.nil _ _ _ _, le_call HB0.out B2.out⟩
  · have hee : (errX b != 0) = true := by simp [he]
    have HE := hide (errSS_x he i j)
    have HTF := hide (tellSF_no (show ¬ errSS b i j = 0 by rw [HE.out]; exact he))
    clear he
    go_enter Try.func41, Try.ntmps41
    go_wp2_with (go_at_call 25; refine (Validate_any A n c A' n' c' b _ HR.out).mono ?_; rintro e w1 ⟨rfl, b1⟩; have B1 := hide b1; have f1 := bk_two (HK0.out.keep b1 HK0.out.in_); clear b1)
    rw [HTF.out, HE.out]
    refine bodyPost_ret (v := .tuple #[.slice none 0 0, .bool false, .int .i64 (errX b)]) (by simp [results, Try.results41, go_sem]) rfl ?_
    exact ⟨none, 0, 0, rfl, Own.nil _ _ _ _, le_call HB0.out B1.out⟩
theorem apart_some {b : Bx} (hb : Okx b) {i k : Nat} (hi : i < b.2.length) (hk : k ≤ (kindsV b).getD i 0) (h : (tellV b b i k).isSome = true) : k + 1 ≤ (kindsV b).getD i 0 := by
  rcases Nat.lt_or_ge k ((kindsV b).getD i 0) with hlt | hge
  · exact hlt
  · exfalso
    obtain rfl : k = (kindsV b).getD i 0 := by omega
    obtain ⟨u, hu, hd⟩ := (tell_iff hb hb hi (kinds_lt hi)).1 h
    exact hd (kinds_self hb hi u hu).symm
theorem apart_none {b : Bx} (hb : Okx b) {i k : Nat} (hi : i < b.2.length) (hk : k ≤ (kindsV b).getD i 0) (h : (tellV b b i k).isSome = false) : k = (kindsV b).getD i 0 := by
  rcases Nat.lt_or_ge k ((kindsV b).getD i 0) with hlt | hge
  · exfalso
    obtain ⟨u, hu, hd⟩ := kinds_first hb hi hlt
    have := kinds_le hb hi
    rw [(tell_iff hb hb hi (show k < b.2.length by omega)).2 ⟨u, hu, fun e => hd e.symm⟩] at h
    cases h
  · omega
theorem kI_take {ks : List Nat} {k : Nat} (h : k < ks.length) : (kI ks).take k ++ [((ks.getD k 0 : Nat) : Int)] = (kI ks).take (k + 1) := by
  rw [List.take_add_one, List.getD_eq_getElem?_getD, kI, List.getElem?_map, List.getElem?_eq_getElem h]; rfl
set_option maxRecDepth 100000 in
set_option maxHeartbeats 4000000 in
theorem rkinds_any (A : Option Addr) (n c : Nat) (A' : Option Addr) (n' c' : Nat) (b : Bx) (w : World) (h : BxR w A n c A' n' c' b) (hb : Okx b) :
    Calls Try.prog 72 #[bV A n c A' n' c'] w (IntsPost (kI (kindsV b)) w) := by
  have HB0 := hide ((Below.refl w.heap.size w).alloc (Nat.le_refl _) (.cells #[.slice A n c, .slice A' n' c'] 25))
  have HK0 := hide (Bk.born w 25 #[.slice A n c, .slice A' n' c'])
  have HR := hide (h.below HB0.out (Nat.le_refl _))
  have HOL := hide h.ou.length
  clear h
  have HOK := hide hb
  have hn6 : n' ≤ 6 := by rw [← HOL.out]; exact hb.n6
  have HKL := hide (show (kindsV b).length = n' from by rw [kinds_len, HOL.out])
  clear hb
  go_enter Try.func72, Try.ntmps72
  go_wp2_with fail
  generalize w.alloc (.cells #[.slice A n c, .slice A' n' c'] 25) = W0 at *
  have HSB := hide (fun x (hx : Below W0.heap.size W0 x) => bk_two (HK0.out.keep hx HK0.out.in_))
  go_loopw [4, 3] (fun i v wr => ∃ (k : Nat) (A3 : Option Addr) (c3 : Nat), k ≤ n' ∧ i = .int .i64 k ∧ v = .slice A3 k c3 ∧ Hid (Own E1 wr W0.heap.size 3 A3 k c3 ((kI (kindsV b)).take k)) ∧ Hid (Below W0.heap.size W0 wr)) (fun i _ _ => n' - (intOf i).toNat)
  case atStart => exact ⟨0, none, 0, Nat.zero_le _, rfl, rfl, hide (Own.nil _ _ _ _), hide (Below.refl _ _)⟩
  case round =>
    obtain ⟨k, A3, c3, hk, rfl, rfl, HO, HBL⟩ := hrel
    have hcb := HSB.out _ HBL.out
    by_cases hlt : k < n'
    · have i1 : (k : Int) < (n' : Int) := by omega
      have HKI := hide (show k < b.2.length by rw [HOL.out]; exact hlt)
      have HKT := hide (kI_take (ks := kindsV b) (k := k) (by rw [HKL.out]; exact hlt))
      have HKN := hide (kinds_lt HKI.out)
      have HTELL := hide (fun (z : Nat) x (hx : Below W0.heap.size W0 x) (hz : z < b.2.length) => rtell_any A n c A' n' c' b A n c A' n' c' b k z x (HR.out.below hx (Nat.le_refl _)) (HR.out.below hx (Nat.le_refl _)) HOK.out HOK.out HKI.out hz)
      have HGE := hide HO.out
      go_wp2_with (go_at_call 79; refine (HTELL.out 0 wr HBL.out HOK.out.n1).mono ?_; rintro e w2 ⟨A5, n5, c5, rfl, _, b2⟩; have B2 := hide b2; clear b2)
      have HO2 := hide (HO.out.below B2.out (Nat.le_refl _))
      have HB2 := hide (le_call HBL.out B2.out)
      clear hcb
      go_loopw [5, 7] (fun zv bv w3 => ∃ z : Nat, z ≤ (kindsV b).getD k 0 ∧ zv = .int .i64 z ∧ bv = .bool (tellV b b k z).isSome ∧ Hid (Below w2.heap.size w2 w3)) (fun zv _ _ => (kindsV b).getD k 0 - (intOf zv).toNat)
      case atStart => exact ⟨0, Nat.zero_le _, rfl, rfl, hide (Below.refl _ _)⟩
      case round =>
        obtain ⟨z, hz, rfl, rfl, HB3⟩ := hrel
        have HB4 := hide (le_call HB2.out HB3.out)
        have hcb := HSB.out _ HB4.out
        cases hap : (tellV b b k z).isSome with
        | true =>
          have HAP := hide (apart_some HOK.out HKI.out hz hap)
          have wz : IntKind.i64.wrap ((z : Int) + 1) = ((z + 1 : Nat) : Int) := by rw [IntWalk.i64_in _ (by have := HKN.out; have := hn6; have := HOL.out; omega)]; omega
          go_wp2_with (go_at_call 79; refine (HTELL.out (z + 1) wr HB4.out (Nat.lt_of_le_of_lt HAP.out HKN.out)).mono ?_; rintro e w5 ⟨A6, n6, c6, rfl, _, b5⟩; have B5 := hide (le_call HB3.out b5); clear b5)
          go_roundw
          case rel => exact ⟨z + 1, HAP.out, by go_num, rfl, B5⟩
          case measure => have h9 := HAP.out; generalize (kindsV b).getD k 0 = m9 at *; simp [intOf]; omega
        | false =>
          have HAP := hide (apart_none HOK.out HKI.out hz hap)
          have HOZ := hide (HO2.out.below HB3.out (Nat.le_refl _))
          have hsz := HB4.out.size
          go_wp2_with (at_builtin; refine wpList_app1 (E := E1) _ (.int .i64 0) 8 rfl (.tmp 34) (.tmp 36) 23 3 rfl Try.underlying23 info_int rfl (by decide) (by omega) W0.heap.size k c3 A3 ((kI (kindsV b)).take k) (z : Int) _ rfl rfl rfl HOZ.out (by omega) hsz ?_; intro A7 c7 w7 o7 b7 _; have O7 := hide o7; have B7 := hide b7; clear o7 b7)
          go_roundw
          case rel => exact ⟨k + 1, A7, c7, by omega, by go_num, rfl, hide (by rw [← HKT.out, ← HAP.out]; exact O7.out), hide (HB4.out.trans B7.out)⟩
          case measure => simp [intOf]; omega
    · obtain rfl : k = n' := by omega
      have HTA := hide (show (kI (kindsV b)).take k = kI (kindsV b) from List.take_of_length_le (by rw [kI_len, HKL.out]; exact Nat.le_refl _))
      go_wp2_with fail
      go_ret
      exact ⟨A3, k, c3, rfl, by rw [← HTA.out]; exact HO.out.more HB0.out.size, HB0.out.trans (HBL.out.mono HB0.out.size)⟩
set_option maxRecDepth 100000 in
set_option maxHeartbeats 4000000 in
theorem rKinds_any (A : Option Addr) (n c : Nat) (A' : Option Addr) (n' c' : Nat) (b : Bx) (w : World) (h : BxR w A n c A' n' c' b) :
    Calls Try.prog 33 #[bV A n c A' n' c'] w (RowPost (errX b) (kindsF b) w) := by
  have HB0 := hide ((Below.refl w.heap.size w).alloc (Nat.le_refl _) (.cells #[.slice A n c, .slice A' n' c'] 25))
  have HK0 := hide (Bk.born w 25 #[.slice A n c, .slice A' n' c'])
  have HR := hide (h.below HB0.out (Nat.le_refl _))
  have HOL := hide h.ou.length
  clear h
  by_cases he : errX b = 0
  · have hee : (errX b != 0) = false := by simp [he]
    have HE := hide he
    have HOK := hide (okx_of he)
    clear he
    go_enter Try.func33, Try.ntmps33
    go_wp2_with (first
      | (go_at_call 26; refine (rValidate_any A n c A' n' c' b _ HR.out).mono ?_; rintro e w1 ⟨rfl, D1⟩; have f1 := bk_two (HK0.out.keep D1 HK0.out.in_); have B1 := hide D1; clear D1)
      | (go_at_call 72; refine (rkinds_any A n c A' n' c' b _ (HR.out.below B1.out (Nat.le_refl _)) HOK.out).mono ?_; rintro e w2 ⟨A2, n2, c2, rfl, o2, D2⟩; have O2 := hide o2; have B2 := hide (le_call B1.out D2); clear o2 D2))
    go_ret2
    exact ⟨A2, n2, c2, by rw [HE.out]; rfl, by rw [kindsF_ok HE.out]; exact O2.out.more (Nat.le_trans HB0.out.size B1.out.size), le_call HB0.out B2.out⟩
  · have hee : (errX b != 0) = true := by simp [he]
    have HF := hide (kindsF_no he)
    clear he
    go_enter Try.func33, Try.ntmps33
    go_wp2_with (go_at_call 26; refine (rValidate_any A n c A' n' c' b _ HR.out).mono ?_; rintro e w1 ⟨rfl, D1⟩; have B1 := hide D1; clear D1)
    go_ret2
    exact ⟨none, 0, 0, rfl, by rw [HF.out]; exact Own.nil _ _ _ _, le_call HB0.out B1.out⟩
end Go.Proofs.Ytkjnhdkbojcojaa
