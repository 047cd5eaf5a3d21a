/- Walks: the box that answers later, on both sides. -/
import Derived.Test.YtkjnhdkbojcojaaWalkFr
import Derived.Deep.RegionHeldLaw
namespace Go.Proofs.Ytkjnhdkbojcojaa
open Go.RowKit Go.Shelf
attribute [local go_sem] Oper.semAt_some

/-- The error of a box that is to answer later. -/
def errLt (b : Bx) : Int := if errX b = 0 then (if b.2.length = 6 then 3 else 0) else errX b
theorem errLt_bad {b : Bx} (h : ¬ errX b = 0) : errLt b = errX b := if_neg h
theorem errLt_large {b : Bx} (h : errX b = 0) (hl : b.2.length = 6) : errLt b = 3 := by rw [errLt, if_pos h, if_pos hl]
theorem errLt_fine {b : Bx} (h : errX b = 0) (hl : ¬ b.2.length = 6) : errLt b = 0 := by rw [errLt, if_pos h, if_neg hl]
theorem errLt_ok {b : Bx} (h : errLt b = 0) : Okx b ∧ b.2.length ≠ 6 := by
  unfold errLt at h
  by_cases h1 : errX b = 0
  · rw [if_pos h1] at h
    by_cases h2 : b.2.length = 6
    · rw [if_pos h2] at h; omega
    · exact ⟨okx_of h1, h2⟩
  · rw [if_neg h1] at h; exact absurd h h1
def lateF (b : Bx) : Bx := if errLt b = 0 then lateB b else ([], [])
theorem lateF_ok {b : Bx} (h : errLt b = 0) : lateF b = lateB b := if_pos h
theorem lateF_no {b : Bx} (h : ¬ errLt b = 0) : lateF b = ([], []) := if_neg h
set_option maxRecDepth 100000 in
set_option maxHeartbeats 4000000 in
theorem Late_any (A : Option Addr) (n c : Nat) (A' : Option Addr) (n' c' : Nat) (b : Bx) (w : World) (h : BxR w A n c A' n' c' b) :
    Calls Try.prog 52 #[bV A n c A' n' c'] w (BoxPost (errLt b) (lateF b) w) := by
  have HB0 := hide (show Below w.heap.size w ((w.alloc (.cells #[.slice A n c, .slice A' n' c'] 25)).alloc (.cells #[.slice none 0 0, .slice none 0 0] 25)) from le_two (le_two (Below.refl _ _) _) _)
  have HK1 := hide ((Bk.born w 25 #[.slice A n c, .slice A' n' c']).more (.cells #[.slice none 0 0, .slice none 0 0] 25))
  have HK2 := hide (Bk.born (w.alloc (.cells #[.slice A n c, .slice A' n' c'] 25)) 25 #[.slice none 0 0, .slice none 0 0])
  rw [show (w.alloc (.cells #[.slice A n c, .slice A' n' c'] 25)).heap.size = w.heap.size + 1 from by simp] at HK2
  have HR := hide (h.below HB0.out (Nat.le_refl _))
  have HOL := hide h.ou.length
  clear h
  by_cases hx : errX b = 0
  · have hee : (errX b != 0) = false := by simp [hx]
    have HX := hide hx
    have hok := okx_of hx
    have hn6' : n' ≤ 6 := by rw [← HOL.out]; exact hok.n6
    have HOK := hide hok
    have HN1 := hide hok.n1
    clear hx hok
    by_cases hl : n' = 6
    · have HE := hide (errLt_large HX.out (by rw [HOL.out]; exact hl))
      have HF := hide (lateF_no (b := b) (by rw [HE.out]; decide))
      subst hl
      go_enter Try.func52, Try.ntmps52
      go_wp2_with (go_at_call 25; refine (Validate_any _ _ _ _ _ _ b _ HR.out).mono ?_; rintro e w1 ⟨rfl, b1⟩; have f1 := bk_two (HK1.out.keep b1 HK1.out.in_); have B1 := hide b1; have HK2r := hide (HK2.out.keep b1 HK2.out.in_); have hk2 := bk_two HK2r.out; have hf0 := HK2r.out.fr 0; have hf1 := HK2r.out.fr 1; clear b1)
      have HFF := hide ((HK2r.out.put 0 (.slice none 0 0)).put 1 (.slice none 0 0))
      have hf := bk_two HFF.out
      have hbl := le_call HB0.out B1.out
      rw [HF.out, HE.out]
      refine bodyPost_ret (v := .tuple #[bV none 0 0 none 0 0, .int .i64 3]) (by simp [results, Try.results52, go_sem, hf]) rfl ⟨none, 0, 0, none, 0, 0, rfl, OwnBox.nil _ _, Below.setCell (Below.setCell hbl (by simp) _) (by simp) _⟩
    · have HE := hide (errLt_fine HX.out (by rw [HOL.out]; exact hl))
      have HF := hide (lateF_ok HE.out)
      have il : ¬ (6 : Int) ≤ (n' : Int) := by omega
      have wv : IntKind.i64.wrap ((n' : Int) + 1) = ((n' + 1 : Nat) : Int) := by rw [IntWalk.i64_in _ (by omega)]; omega
      have HNI := hide (fun k (hk : k < n') => (late_inj (n := n')).in_ k hk)
      go_enter Try.func52, Try.ntmps52
      go_upto_region 7 with (go_at_call 25; refine (Validate_any _ _ _ _ _ _ b _ HR.out).mono ?_; rintro e w1 ⟨rfl, b1⟩; have B1 := hide b1; have f1 := bk_two (HK1.out.keep b1 HK1.out.in_); clear b1)
      have HSB := hide (fun x (hx : Below w1.heap.size w1 x) => bk_two ((HK1.out.keep B1.out HK1.out.in_).keep hx (Nat.lt_of_lt_of_le HK1.out.in_ B1.out.size)))
      have d1 := hide (show Below w1.heap.size w1 w1.drew from below_drewN (Below.refl _ _) 1)
      go_cut [6] from 7 (fun v wx => ∃ gp gN c6 gI d6 : Nat, v = .pointer (some ⟨gp, 0, none⟩) ∧ Hid (Bk wx gp 25 #[.slice (some ⟨gN, 0, none⟩) (n' + 1) c6, .slice (some ⟨gI, 0, none⟩) (n' + 1) d6]) ∧ Hid (OwnBox wx w1.heap.size (some ⟨gN, 0, none⟩) (n' + 1) c6 (some ⟨gI, 0, none⟩) (n' + 1) d6 (rnTo b (numV 1 n') (n' + 1) n')) ∧ Hid (Below w1.heap.size w1 wx) ∧ Hid (gN ≠ gp ∧ w1.heap.size ≤ gN))
      case first =>
        have g1 := HSB.out _ d1.out
        have d1z := hide (show Below w1.heap.size w1 (w1.drew.alloc (.cells #[.slice none 0 0, .slice none 0 0] 25)) from le_two d1.out _)
        have g1z := HSB.out _ d1z.out
        go_region_held_law (fun w' => w'.cell? ⟨w.heap.size, 0, none⟩ = some (.slice A n c) ∧ w'.cell? ⟨w.heap.size, 1, none⟩ = some (.slice A' n' c'))
          (first
            | exact M6.out
            | exact M2z.out
            | exact M2.out
            | exact ⟨g1z.1, g1z.2⟩
            | exact ⟨g1.1, g1.2⟩
            | exact HSB.out _ (Below.setCell (Below.setCell B6.out (p := ⟨w1.heap.size, 0, none⟩) (Nat.le_refl _) _) (p := ⟨w1.heap.size, 1, none⟩) (Nat.le_refl _) _)
            | exact HSB.out _ (Below.setCell (Below.setCell B6.out (p := ⟨w2.heap.size, 0, none⟩) B2.out.size _) (p := ⟨w2.heap.size, 1, none⟩) B2.out.size _)
            | exact HSB.out _ (le_two B6.out _)
            | go_keep)
          (first
            | (have hgd := M2z; clear hgd; go_at_call 86; refine (renumber_any A n c A' n' c' b _ _ (n' + 1) (numV 1 n') (w2.alloc (.cells #[.slice none 0 0, .slice none 0 0] 25)) (HR.out.below (le_call B1.out B2z.out) (Nat.le_refl _)) HOK.out (O2.out.alloc _).row HNI.out (by omega)).mono ?_; rintro e w6 ⟨A6, c6, A7, d6, rfl, o6, b6⟩; obtain ⟨gN, rfl, hgN, hgN2, _⟩ := o6.1.addr (by omega); obtain ⟨gI, rfl, hgI, _⟩ := o6.2.addr (by omega); have O6 := hide o6; have B6 := hide (le_call B2z.out b6); have M6 := hide (HSB.out _ B6.out); have KY := hide ((Bk.born w2 25 #[.slice none 0 0, .slice none 0 0]).keep b6 (Bk.born w2 25 #[.slice none 0 0, .slice none 0 0]).in_); have y0 := KY.out.fr 0; have y1 := KY.out.fr 1; have y2 := bk_two KY.out; have hszz : w2.heap.size < (w2.alloc (.cells #[.slice none 0 0, .slice none 0 0] 25)).heap.size := (by simp); clear o6 b6)
            | (have hgd := M2; clear hgd; go_at_call 86; refine (renumber_any A n c A' n' c' b _ _ (n' + 1) (numV 1 n') w2 (HR.out.below (le_call B1.out B2.out) (Nat.le_refl _)) HOK.out O2.out.row HNI.out (by omega)).mono ?_; rintro e w6 ⟨A6, c6, A7, d6, rfl, o6, b6⟩; obtain ⟨gN, rfl, hgN, hgN2, _⟩ := o6.1.addr (by omega); obtain ⟨gI, rfl, hgI, _⟩ := o6.2.addr (by omega); have O6 := hide o6; have B6 := hide (le_call B2.out b6); have M6 := hide (HSB.out _ B6.out); (try (have KY := hide (KX.out.keep b6 KX.out.in_); have y0 := KY.out.fr 0; have y1 := KY.out.fr 1; have y2 := bk_two KY.out)); clear o6 b6)
            | (go_at_call 85; first
                | (refine (numbersFrom_any 1 n' (w1.drew.alloc (.cells #[.slice none 0 0, .slice none 0 0] 25)) (by omega) (by omega)).mono ?_; rintro e w2 ⟨A2, n2, c2, rfl, o2, b2⟩; obtain rfl : n' = n2 := (by rw [← o2.len, numV_len]); have KX := hide (show Bk w2 w1.heap.size 25 #[.slice none 0 0, .slice none 0 0] from (Bk.born w1.drew 25 #[.slice none 0 0, .slice none 0 0]).keep b2 (Bk.born w1.drew 25 #[.slice none 0 0, .slice none 0 0]).in_); have hx1 := KX.out.in_; have B2 := hide (le_call d1z.out b2); have M2 := hide (HSB.out _ B2.out); have O2 := hide (o2.more d1z.out.size); clear o2 b2)
                | (refine (numbersFrom_any 1 n' w1.drew (by omega) (by omega)).mono ?_; rintro e w2 ⟨A2, n2, c2, rfl, o2, b2⟩; obtain rfl : n' = n2 := (by rw [← o2.len, numV_len]); have B2 := hide (le_call d1.out b2); have M2 := hide (HSB.out _ B2.out); have B2z := hide (le_two B2.out (.cells #[.slice none 0 0, .slice none 0 0] 25)); have M2z := hide (HSB.out _ B2z.out); have O2 := hide (o2.more d1.out.size); clear o2 b2)))
        all_goals
          go_wp2_with fail
          go_meet
          first
            | exact ⟨w6.heap.size, gN, c6, gI, d6, rfl, hide (Bk.born w6 25 _), hide ⟨(O6.out.1.alloc _).more B2.out.size, (O6.out.2.alloc _).more B2.out.size⟩, hide (le_two B6.out _), hide ⟨by omega, Nat.le_trans B2.out.size hgN⟩⟩
            | exact ⟨w2.heap.size, gN, c6, gI, d6, rfl, hide ((KY.out.put 0 _).put 1 _), hide ⟨(own_other (own_other O6.out.1 hszz 0 _) hszz 1 _).more B2z.out.size, (own_other (own_other O6.out.2 hszz 0 _) hszz 1 _).more B2z.out.size⟩, hide (Below.setCell (Below.setCell B6.out (p := ⟨w2.heap.size, 0, none⟩) B2.out.size _) (p := ⟨w2.heap.size, 1, none⟩) B2.out.size _), hide ⟨by omega, Nat.le_trans B2z.out.size hgN⟩⟩
            | exact ⟨w1.heap.size, gN, c6, gI, d6, rfl, hide ((KY.out.put 0 _).put 1 _), hide ⟨(own_other (own_other O6.out.1 hx1 0 _) hx1 1 _).more B2.out.size, (own_other (own_other O6.out.2 hx1 0 _) hx1 1 _).more B2.out.size⟩, hide (Below.setCell (Below.setCell B6.out (p := ⟨w1.heap.size, 0, none⟩) (Nat.le_refl _) _) (p := ⟨w1.heap.size, 1, none⟩) (Nat.le_refl _) _), hide ⟨by omega, Nat.le_trans B2.out.size hgN⟩⟩
      case rest =>
        obtain ⟨gp, gN, c6, gI, d6, rfl, KP, OB, BL, HD⟩ := hcut
        have HLR := hide (late_rn HOK.out)
        rw [HOL.out] at HLR
        have hno := own2 OB.out.1 (k := 0) (by omega)
        simp only [Nat.zero_mul, Nat.zero_add] at hno
        have hf0 := OB.out.1.frozen 0
        have hf1 := OB.out.1.frozen 1
        have hcp := bk_two KP.out
        have hne : gp ≠ gN := fun e => HD.out.1 e.symm
        have hcp5 := bk_two ((KP.out.apart (p := ⟨gN, 0, none⟩) hne (.int .i64 1)).apart (p := ⟨gN, 1, none⟩) hne (.int .i64 1))
        have BL5 := hide (Below.setCell (Below.setCell (le_call B1.out BL.out) (p := ⟨gN, 0, none⟩) (Nat.le_trans B1.out.size HD.out.2) (.int .i64 1)) (p := ⟨gN, 1, none⟩) (Nat.le_trans B1.out.size HD.out.2) (.int .i64 1))
        have KR := hide (HK2.out.keep BL5.out HK2.out.in_)
        have m0 := KR.out.fr 0
        have m1 := KR.out.fr 1
        have m2 := bk_two KR.out
        have HGB := hide (show wc.grownBy ((wc.setCell ⟨gN, 0, none⟩ (.int .i64 1)).setCell ⟨gN, 1, none⟩ (.int .i64 1)) (some gN) from gb_set (gb_set (gb_refl wc (some gN)) _ _) _ _)
        have ON5 := hide (show Own EN ((wc.setCell ⟨gN, 0, none⟩ (.int .i64 1)).setCell ⟨gN, 1, none⟩ (.int .i64 1)) w1.heap.size 59 (some ⟨gN, 0, none⟩) (n' + 1) c6 ((rnTo b (numV 1 n') (n' + 1) n').1.set 0 (1, 1)) from OB.out.1.stored2 (k := 0) (by omega) 1 1)
        have OI5 := hide (OB.out.2.kept HGB.out (own_ne OB.out.2 OB.out.1 (by decide)))
        go_wp2_with fail
        have HFF := hide ((KR.out.put 0 (.slice (some ⟨gN, 0, none⟩) (n' + 1) c6)).put 1 (.slice (some ⟨gI, 0, none⟩) (n' + 1) d6))
        have hf := bk_two HFF.out
        have hin := Nat.lt_of_lt_of_le HK2.out.in_ B1.out.size
        have OA := hide (own_other (own_other ON5.out hin 0 (.slice (some ⟨gN, 0, none⟩) (n' + 1) c6)) hin 1 (.slice (some ⟨gI, 0, none⟩) (n' + 1) d6))
        have OBB := hide (own_other (own_other OI5.out hin 0 (.slice (some ⟨gN, 0, none⟩) (n' + 1) c6)) hin 1 (.slice (some ⟨gI, 0, none⟩) (n' + 1) d6))
        have hs6 := Nat.le_trans HB0.out.size B1.out.size
        have hbl := le_call HB0.out BL5.out
        rw [HF.out, HE.out, ← HLR.out]
        refine bodyPost_ret (v := .tuple #[bV (some ⟨gN, 0, none⟩) (n' + 1) c6 (some ⟨gI, 0, none⟩) (n' + 1) d6, .int .i64 0]) (by simp [results, Try.results52, go_sem, hf]) rfl ⟨_, _, c6, _, _, d6, rfl, ⟨OA.out.more hs6, OBB.out.more hs6⟩, Below.setCell (Below.setCell hbl (by simp) _) (by simp) _⟩
  · have hee : (errX b != 0) = true := by simp [hx]
    have HE := hide (errLt_bad hx)
    have HF := hide (lateF_no (b := b) (by rw [HE.out]; exact hx))
    clear hx
    go_enter Try.func52, Try.ntmps52
    go_wp2_with (go_at_call 25; refine (Validate_any _ _ _ _ _ _ b _ HR.out).mono ?_; rintro e w1 ⟨rfl, b1⟩; have B1 := hide b1; have HK2r := hide (HK2.out.keep b1 HK2.out.in_); have hk2 := bk_two HK2r.out; have hf0 := HK2r.out.fr 0; have hf1 := HK2r.out.fr 1; clear b1)
    have HFF := hide ((HK2r.out.put 0 (.slice none 0 0)).put 1 (.slice none 0 0))
    have hf := bk_two HFF.out
    have hbl := le_call HB0.out B1.out
    rw [HF.out, HE.out]
    refine bodyPost_ret (v := .tuple #[bV none 0 0 none 0 0, .int .i64 (errX b)]) (by simp [results, Try.results52, go_sem, hf]) rfl ⟨none, 0, 0, none, 0, 0, rfl, OwnBox.nil _ _, Below.setCell (Below.setCell hbl (by simp) _) (by simp) _⟩
end Go.Proofs.Ytkjnhdkbojcojaa
