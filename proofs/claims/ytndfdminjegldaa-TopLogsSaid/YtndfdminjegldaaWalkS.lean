/- Walks: which comparisons are right, the program. -/
import Derived.Test.YtndfdminjegldaaWalkR
namespace Go.Proofs.Ytndfdminjegldaa
open Go.RowKit Go.Shelf
attribute [local go_sem] Oper.semAt_some

set_option maxRecDepth 100000 in
set_option maxHeartbeats 8000000 in
theorem CheckPairs_any (A : Option Addr) (n c : Nat) (xs : List Int) (A' : Option Addr) (n' c' : Nat) (ys : List Int) (o i h : Int) (Ap : Option Addr) (np cp : Nat) (ps : List Pr) (w : World) (hx : R E1 w A n c xs) (hy : R E1 w A' n' c' ys) (hp : R EP w Ap np cp ps) :
    Calls Try.prog 20 #[.slice A n c, .slice A' n' c', cV o i h, .slice Ap np cp] w fun e w' => e = .returned (.tuple #[.int .i64 (cstV xs ys ⟨o, i, h⟩ ps), .int .i64 (errQ xs ys ⟨o, i, h⟩ ps)]) ∧ Below w.heap.size w w' := by
  have BX := hide ((Below.refl w.heap.size w).alloc (Nat.le_refl _) (.cells #[.int .i64 o, .int .i64 i, .int .i64 h] 24))
  have HBK := hide (Bk.born w 24 #[.int .i64 o, .int .i64 i, .int .i64 h])
  have HX := hide (hx.below BX.out (Nat.le_refl _))
  have HY := hide (hy.below BX.out (Nat.le_refl _))
  have HP := hide (hp.below BX.out (Nat.le_refl _))
  have HLX := hide hx.length
  have HLY := hide hy.length
  have HLP := hide hp.length
  have hz : w.heap.size < (w.alloc (.cells #[.int .i64 o, .int .i64 i, .int .i64 h] 24)).heap.size := by simp
  by_cases he : errD xs ys ⟨o, i, h⟩ = 0
  · have HE := hide he
    have HQ := hide (errQ_yes (ps := ps) he)
    obtain ⟨h1, h2, h3⟩ := errD_ok.1 he
    have hn : n ≤ 10 := by rw [← hx.length]; exact (errL_ok.1 h1).1
    have hn' : n' ≤ 10 := by rw [← hy.length]; exact (errL_ok.1 h2).1
    obtain ⟨ho, hi, hh⟩ := h3
    simp only at ho hi hh
    have HNO := hide (fun e (hk : errK xs ys ps = e) (hne : e ≠ 0) => show cstV xs ys ⟨o, i, h⟩ ps = 0 from cstV_no (by rw [HQ.out, hk]; exact hne))
    clear hx hy hp he h1 h2
    go_enter Try.func20, Try.ntmps20
    go_wp2_with (go_at_call 55; refine (validateAll_any A n c xs A' n' c' ys o i h _ HX.out HY.out).mono ?_; rintro e1 w1 ⟨rfl, b1⟩; rw [HE.out]; have B1 := hide b1; have BK1 := hide (HBK.out.keep b1 hz); have X1 := hide (HX.out.below b1 (Nat.le_refl _)); have Y1 := hide (HY.out.below b1 (Nat.le_refl _)); have P1 := hide (HP.out.below b1 (Nat.le_refl _)); have hz1 : w.heap.size < w1.heap.size := Nat.lt_of_lt_of_le hz b1.size; clear b1)
    have BW := hide (BX.out.trans (B1.out.mono (Nat.le_of_lt hz)))
    clear HBK HX HY HP BX B1 hz
    go_loopw [25] (fun a25 wr => ∃ t : Nat, t ≤ np ∧ a25 = .int .i64 t ∧ Hid (RgTo n n' ps t) ∧ Hid (Below w1.heap.size w1 wr)) (fun a25 _ => np - (intOf a25).toNat)
    case atStart => exact ⟨0, Nat.zero_le _, rfl, hide (fun k hk => by omega), hide (Below.refl _ _)⟩
    case round =>
      obtain ⟨t, ht, rfl, HR, HB⟩ := hrel
      by_cases hlt : t < np
      · have htn : (t : Int) < (np : Int) := by omega
        obtain ⟨bp, op, hrp⟩ := P1.out.below HB.out (Nat.le_refl _)
        obtain rfl := hrp.at_ (by omega)
        have hbp := hrp.lt (by omega)
        have hcp := hrp.cap
        have hmp := hrp.max
        obtain ⟨p1, p2⟩ := cPr hrp hlt
        have HB2 := hide (HB.out.alloc HB.out.size (.cells #[.int .i64 (ps.getD t pr0).1, .int .i64 (ps.getD t pr0).2] 62))
        have HBAD := hide (fun (hb : ¬ rng n n' (ps.getD t pr0)) => show errK xs ys ps = 1 from errK_rg (k := t) (by rw [HLP.out]; exact hlt) (by rw [HLX.out, HLY.out]; exact hb))
        have HSUC := hide (fun (hb : rng n n' (ps.getD t pr0)) => rg_succ HR.out hb)
        clear hrp HR
        generalize ps.getD t pr0 = p at *
        obtain ⟨pa, pb⟩ := p
        dsimp only at p1 p2 HB2
        unfold rng at HBAD HSUC
        dsimp only at HBAD HSUC
        by_cases c1' : pa < 0
        · have HK := hide (HBAD.out (by omega))
          have HK2 := hide (HNO.out 1 HK.out (by decide))
          go_wp2_with fail
          go_ret2
          exact ⟨by rw [HK2.out, HQ.out, HK.out]; rfl, BW.out.trans (HB2.out.mono (Nat.le_of_lt hz1))⟩
        · have c1'' : 0 ≤ pa := by omega
          by_cases c2' : (n : Int) ≤ pa
          · have HK := hide (HBAD.out (by omega))
            have HK2 := hide (HNO.out 1 HK.out (by decide))
            go_wp2_with fail
            go_ret2
            exact ⟨by rw [HK2.out, HQ.out, HK.out]; rfl, BW.out.trans (HB2.out.mono (Nat.le_of_lt hz1))⟩
          · have c2'' : pa < (n : Int) := by omega
            by_cases c3' : pb < 0
            · have HK := hide (HBAD.out (by omega))
              have HK2 := hide (HNO.out 1 HK.out (by decide))
              go_wp2_with fail
              go_ret2
              exact ⟨by rw [HK2.out, HQ.out, HK.out]; rfl, BW.out.trans (HB2.out.mono (Nat.le_of_lt hz1))⟩
            · have c3'' : 0 ≤ pb := by omega
              by_cases c4' : (n' : Int) ≤ pb
              · have HK := hide (HBAD.out (by omega))
                have HK2 := hide (HNO.out 1 HK.out (by decide))
                go_wp2_with fail
                go_ret2
                exact ⟨by rw [HK2.out, HQ.out, HK.out]; rfl, BW.out.trans (HB2.out.mono (Nat.le_of_lt hz1))⟩
              · have c4'' : pb < (n' : Int) := by omega
                have HR2 := hide (HSUC.out (by omega))
                go_wp2_with fail
                go_roundw
                case rel => exact ⟨t + 1, by omega, by go_num, HR2, HB2⟩
                case measure => simp [intOf]; omega
      · obtain rfl : t = np := by omega
        rename World => wa
        have BWA := hide (BW.out.trans (HB.out.mono (Nat.le_of_lt hz1)))
        have XA := hide (X1.out.below HB.out (Nat.le_refl _))
        have YA := hide (Y1.out.below HB.out (Nat.le_refl _))
        have PA := hide (P1.out.below HB.out (Nat.le_refl _))
        have BKA := hide (BK1.out.keep HB.out hz1)
        have hza : w.heap.size < wa.heap.size := Nat.lt_of_lt_of_le hz1 HB.out.size
        have HRK := hide (show Bk (wa.alloc (.cells #[.int .i64 (-1), .int .i64 (-1)] 62)) wa.heap.size 62 #[.int .i64 (lastP ps 0).1, .int .i64 (lastP ps 0).2] from Bk.born wa 62 #[.int .i64 (-1), .int .i64 (-1)])
        have HBL := hide ((Below.refl wa.heap.size wa).alloc (Nat.le_refl _) (.cells #[.int .i64 (-1), .int .i64 (-1)] 62))
        clear X1 Y1 P1 BK1 BW HB hz1
        go_wp2_with fail
        go_loopw [55] (fun a55 wr => ∃ t' : Nat, t' ≤ t ∧ a55 = .int .i64 t' ∧ Hid (AsTo ps t') ∧ Hid (Bk wr wa.heap.size 62 #[.int .i64 (lastP ps t').1, .int .i64 (lastP ps t').2]) ∧ Hid (Below wa.heap.size wa wr)) (fun a55 _ => t - (intOf a55).toNat)
        case atStart => exact ⟨0, Nat.zero_le _, rfl, hide (fun k hk => by omega), HRK, HBL⟩
        case round =>
          clear HRK HBL
          obtain ⟨s, hs, rfl, HA, HK, HB⟩ := hrel
          by_cases hls : s < t
          · have hsn : (s : Int) < (t : Int) := by omega
            obtain ⟨bp, op, hrp⟩ := PA.out.below HB.out (Nat.le_refl _)
            obtain rfl := hrp.at_ (by omega)
            have hbp := hrp.lt (by omega)
            have hcp := hrp.cap
            have hmp := hrp.max
            obtain ⟨p1, p2⟩ := cPr hrp hls
            obtain ⟨l1, l2⟩ := bk_two HK.out
            have hli := HK.out.in_
            have lf0 := HK.out.fr 0
            have lf1 := HK.out.fr 1
            have HRGS := hide (HR.out s hls)
            have HBAD := hide (fun (hb : ¬ ((lastP ps s).1 < (ps.getD s pr0).1 ∧ (lastP ps s).2 < (ps.getD s pr0).2)) => show errK xs ys ps = 6 from errK_as (by rw [HLX.out, HLY.out, HLP.out]; exact HR.out) (fun ha => hb (by
              rcases Nat.eq_zero_or_pos s with e | e
              · subst e
                have := HRGS.out
                unfold rng at this
                rw [lastP_zero]
                dsimp only
                omega
              · obtain ⟨q, rfl⟩ : ∃ q, s = q + 1 := ⟨s - 1, by omega⟩
                rw [lastP_succ]
                exact ha q (by rw [HLP.out]; exact hls))))
            have HSUC := hide (fun (hb : (lastP ps s).1 < (ps.getD s pr0).1 ∧ (lastP ps s).2 < (ps.getD s pr0).2) => as_succ HA.out (fun h0 => by
              obtain ⟨q, rfl⟩ : ∃ q, s = q + 1 := ⟨s - 1, by omega⟩
              rw [lastP_succ] at hb
              exact hb))
            have HLS := hide (lastP_succ ps s)
            have HB2 := hide (HB.out.alloc HB.out.size (.cells #[.int .i64 (ps.getD s pr0).1, .int .i64 (ps.getD s pr0).2] 62))
            have HK2 := hide (HK.out.more (.cells #[.int .i64 (ps.getD s pr0).1, .int .i64 (ps.getD s pr0).2] 62))
            have HK0 := HK
            clear hrp HA HRGS HK
            generalize ps.getD s pr0 = p at *
            generalize lastP ps s = q at *
            obtain ⟨pa, pb⟩ := p
            obtain ⟨qa, qb⟩ := q
            dsimp only at p1 p2 l1 l2 HBAD HSUC HB2 HK2
            by_cases c1' : pa ≤ qa
            · have HK := hide (HBAD.out (by omega))
              have HK2' := hide (HNO.out 6 HK.out (by decide))
              go_wp2_with fail
              go_ret2
              exact ⟨by rw [HK2'.out, HQ.out, HK.out]; rfl, BWA.out.trans (HB2.out.mono (Nat.le_of_lt hza))⟩
            · have c1'' : qa < pa := by omega
              by_cases c2' : pb ≤ qb
              · have HK := hide (HBAD.out (by omega))
                have HK2' := hide (HNO.out 6 HK.out (by decide))
                go_wp2_with fail
                go_ret2
                exact ⟨by rw [HK2'.out, HQ.out, HK.out]; rfl, BWA.out.trans (HB2.out.mono (Nat.le_of_lt hza))⟩
              · have c2'' : qb < pb := by omega
                have HA2 := hide (HSUC.out ⟨c1'', c2''⟩)
                go_wp2_with fail
                go_roundw
                case rel => exact ⟨s + 1, by omega, by go_num, HA2, hide (by rw [HLS.out]; have := ((HK0.out.put 0 (.int .i64 pa)).put 1 (.int .i64 pb)).more (.cells #[.int .i64 pa, .int .i64 pb] 62); simpa using this), hide (((HB.out.setCell (p := ⟨wa.heap.size, 0, none⟩) (Nat.le_refl _) _).setCell (p := ⟨wa.heap.size, 1, none⟩) (Nat.le_refl _) _).alloc (by have := HB.out.size; simp; omega) _)⟩
                case measure => simp [intOf]; omega
          · obtain rfl : s = t := by omega
            have HOK := hide (show errK xs ys ps = 0 from errK_ok (by rw [HLX.out, HLY.out, HLP.out]; exact HR.out) (by rw [HLP.out]; exact HA.out))
            have HCV := hide (show cstV xs ys ⟨o, i, h⟩ ps = cstP xs ys ⟨o, i, h⟩ ps from cstV_ok (by rw [HQ.out, HOK.out]))
            have hle := as_len (l := xs) (m := ys) (ps := ps) (by rw [HLX.out, HLY.out, HLP.out]; exact HR.out) (by rw [HLP.out]; exact HA.out)
            rw [HLX.out, HLY.out, HLP.out] at hle
            have k0 := (BKA.out.keep HB.out hza).at_ 0
            have k1 := (BKA.out.keep HB.out hza).at_ 1
            have k2 := (BKA.out.keep HB.out hza).at_ 2
            simp at k0 k1 k2
            go_wp2_with (go_at_call 56; refine (cost_any A n c xs A' n' c' ys o i h Ap s cp ps _ (XA.out.below HB.out (Nat.le_refl _)) (YA.out.below HB.out (Nat.le_refl _)) (PA.out.below HB.out (Nat.le_refl _)) hn hn' ho hi hh HR.out hle.1 hle.2).mono ?_; rintro e5 w5 ⟨rfl, b5⟩; have B5 := hide (le_call HB.out b5); clear b5)
            go_ret2
            exact ⟨by rw [HCV.out, HQ.out, HOK.out]; rfl, BWA.out.trans (B5.out.mono (Nat.le_of_lt hza))⟩
  · have HQ := hide (errQ_no (ps := ps) he)
    have HV := hide (cstV_no (ps := ps) (by rw [HQ.out]; exact he))
    have hne : (errD xs ys ⟨o, i, h⟩ != 0) = true := by simpa using he
    clear hx hy hp he
    go_enter Try.func20, Try.ntmps20
    go_wp2_with (go_at_call 55; refine (validateAll_any A n c xs A' n' c' ys o i h _ HX.out HY.out).mono ?_; rintro e1 w1 ⟨rfl, b1⟩; have B1 := hide b1; clear b1)
    go_ret2
    exact ⟨by rw [HV.out, HQ.out]; rfl, le_call BX.out B1.out⟩
end Go.Proofs.Ytndfdminjegldaa
