/- Walks: which comparisons are right, the document. -/
import Derived.Test.YtndfdminjegldaaWalkS
namespace Go.Proofs.Ytndfdminjegldaa
open Go.RowKit Go.Shelf
attribute [local go_sem] Oper.semAt_some

theorem as_one {ps : List Pr} : AsTo ps 1 := fun k hk => by omega
theorem as_le1 {ps : List Pr} {t np : Nat} (h : AsTo ps t) (h1 : 1 ≤ t) (h2 : np ≤ t) : AsTo ps np := fun k hk => h k (by omega)
set_option maxRecDepth 100000 in
set_option maxHeartbeats 16000000 in
theorem rCheckPairs_any (A : Option Addr) (n c : Nat) (xs : List Int) (A' : Option Addr) (n' c' : Nat) (ys : List Int) (o i h : Int) (Ap : Option Addr) (np cp : Nat) (ps : List Pr) (w : World) (hx : R E1 w A n c xs) (hy : R E1 w A' n' c' ys) (hp : R EP w Ap np cp ps) :
    Calls Try.prog 21 #[.slice A n c, .slice A' n' c', cV o i h, .slice Ap np cp] w fun e w' => e = .returned (.tuple #[.int .i64 (cstV xs ys ⟨o, i, h⟩ ps), .int .i64 (errQ xs ys ⟨o, i, h⟩ ps)]) ∧ Below w.heap.size w w' := by
  have BX := hide ((Below.refl w.heap.size w).alloc (Nat.le_refl _) (.cells #[.int .i64 o, .int .i64 i, .int .i64 h] 24))
  have HBK := hide (Bk.born w 24 #[.int .i64 o, .int .i64 i, .int .i64 h])
  have HX := hide (hx.below BX.out (Nat.le_refl _))
  have HY := hide (hy.below BX.out (Nat.le_refl _))
  have HP := hide (hp.below BX.out (Nat.le_refl _))
  have HLX := hide hx.length
  have HLY := hide hy.length
  have HLP := hide hp.length
  have hz : w.heap.size < (w.alloc (.cells #[.int .i64 o, .int .i64 i, .int .i64 h] 24)).heap.size := by simp
  by_cases he : errD xs ys ⟨o, i, h⟩ = 0
  · have HE := hide he
    have HQ := hide (errQ_yes (ps := ps) he)
    obtain ⟨h1, h2, h3⟩ := errD_ok.1 he
    have hn : n ≤ 10 := by rw [← hx.length]; exact (errL_ok.1 h1).1
    have hn' : n' ≤ 10 := by rw [← hy.length]; exact (errL_ok.1 h2).1
    have HC := hide h3
    obtain ⟨ho, hi, hh⟩ := h3
    simp only at ho hi hh
    have HNO := hide (fun e (hk : errK xs ys ps = e) (hne : e ≠ 0) => show cstV xs ys ⟨o, i, h⟩ ps = 0 from cstV_no (by rw [HQ.out, hk]; exact hne))
    clear hx hy hp he h1 h2
    go_enter Try.func21, Try.ntmps21
    go_wp2_with (go_at_call 57; refine (rcosted_any A n c xs A' n' c' ys o i h _ HX.out HY.out).mono ?_; rintro e1 w1 ⟨rfl, b1⟩; rw [HE.out]; have B1 := hide b1; have BK1 := hide (HBK.out.keep b1 hz); have X1 := hide (HX.out.below b1 (Nat.le_refl _)); have Y1 := hide (HY.out.below b1 (Nat.le_refl _)); have P1 := hide (HP.out.below b1 (Nat.le_refl _)); have hz1 : w.heap.size < w1.heap.size := Nat.lt_of_lt_of_le hz b1.size; clear b1)
    have BW := hide (BX.out.trans (B1.out.mono (Nat.le_of_lt hz)))
    clear HBK HX HY HP BX B1 hz
    have wn1 : IntKind.i64.wrap ((n : Int) - 1) = (n : Int) - 1 := IntWalk.i64_in _ (by omega)
    have wn2 : IntKind.i64.wrap ((n' : Int) - 1) = (n' : Int) - 1 := IntWalk.i64_in _ (by omega)
    go_loopw [11] (fun a11 wr => ∃ t : Nat, t ≤ np ∧ a11 = .int .i64 t ∧ Hid (RgTo n n' ps t) ∧ w1 = wr) (fun a11 _ => np - (intOf a11).toNat)
    case atStart => exact ⟨0, Nat.zero_le _, rfl, hide (fun k hk => by omega), rfl⟩
    case round =>
      obtain ⟨t, ht, rfl, HR, rfl⟩ := hrel
      by_cases hlt : t < np
      · have htn : (t : Int) < (np : Int) := by omega
        obtain ⟨bp, op, hrp⟩ := P1.out
        obtain rfl := hrp.at_ (by omega)
        have hbp := hrp.lt (by omega)
        have hcp := hrp.cap
        have hmp := hrp.max
        obtain ⟨p1, p2⟩ := cPr hrp hlt
        have HBAD := hide (fun (hb : ¬ rng n n' (ps.getD t pr0)) => show errK xs ys ps = 1 from errK_rg (k := t) (by rw [HLP.out]; exact hlt) (by rw [HLX.out, HLY.out]; exact hb))
        have HSUC := hide (fun (hb : rng n n' (ps.getD t pr0)) => rg_succ HR.out hb)
        clear hrp HR
        generalize ps.getD t pr0 = p at *
        obtain ⟨pa, pb⟩ := p
        dsimp only at p1 p2
        unfold rng at HBAD HSUC
        dsimp only at HBAD HSUC
        rcases withinB_dec pa 0 ((n : Int) - 1) with ⟨q1, q1'⟩ | ⟨q1, q1'⟩
        · rcases withinB_dec pb 0 ((n' : Int) - 1) with ⟨q2, q2'⟩ | ⟨q2, q2'⟩
          · have Q1 := hide q1
            have Q2 := hide q2
            have HR2 := hide (HSUC.out (by omega))
            clear q1 q2 q1' q2'
            go_wp2_with (first
              | (have hgd := D1; clear hgd; go_at_call 58; refine (within_any pb 0 ((n' : Int) - 1) _).mono ?_; rintro e2 w2 ⟨rfl, rfl⟩; rw [Q2.out])
              | (go_at_call 58; refine (within_any pa 0 ((n : Int) - 1) _).mono ?_; rintro e2 w2 ⟨rfl, rfl⟩; rw [Q1.out]; have D1 := hide True.intro))
            go_roundw
            case rel => exact ⟨t + 1, by omega, by go_num, HR2, by trivial⟩
            case measure => simp [intOf]; omega
          · have Q1 := hide q1
            have Q2 := hide q2
            have HK := hide (HBAD.out (by omega))
            have HK2 := hide (HNO.out 1 HK.out (by decide))
            clear q1 q2 q1' q2'
            go_wp2_with (first
              | (have hgd := D1; clear hgd; go_at_call 58; refine (within_any pb 0 ((n' : Int) - 1) _).mono ?_; rintro e2 w2 ⟨rfl, rfl⟩; rw [Q2.out])
              | (go_at_call 58; refine (within_any pa 0 ((n : Int) - 1) _).mono ?_; rintro e2 w2 ⟨rfl, rfl⟩; rw [Q1.out]; have D1 := hide True.intro))
            go_ret2
            exact ⟨by rw [HK2.out, HQ.out, HK.out]; rfl, BW.out⟩
        · have Q1 := hide q1
          have HK := hide (HBAD.out (by omega))
          have HK2 := hide (HNO.out 1 HK.out (by decide))
          clear q1 q1'
          go_wp2_with (go_at_call 58; refine (within_any pa 0 ((n : Int) - 1) _).mono ?_; rintro e2 w2 ⟨rfl, rfl⟩; rw [Q1.out])
          go_ret2
          exact ⟨by rw [HK2.out, HQ.out, HK.out]; rfl, BW.out⟩
      · obtain rfl : t = np := by omega
        clear wn1 wn2
        go_wp2_with fail
        go_loopw [12] (fun a12 wr => ∃ s : Nat, 1 ≤ s ∧ (s ≤ t ∨ s = 1) ∧ a12 = .int .i64 s ∧ Hid (AsTo ps s) ∧ ∃ q, wr = w1.drewN q) (fun a12 _ => t - (intOf a12).toNat)
        case atStart => exact ⟨1, Nat.le_refl _, .inr rfl, rfl, hide as_one, 0, rfl⟩
        case round =>
          obtain ⟨s, hs1, hs, rfl, HA, q, rfl⟩ := hrel
          by_cases hls : s < t
          · have hsn : (s : Int) < (t : Int) := by omega
            obtain ⟨r, rfl⟩ : ∃ r, s = r + 1 := ⟨s - 1, by omega⟩
            obtain ⟨bp, op, hrp⟩ := P1.out
            obtain rfl := hrp.at_ (by omega)
            have hbp := hrp.lt (by omega)
            have hcp := hrp.cap
            have hmp := hrp.max
            obtain ⟨p1, p2⟩ := cPr hrp hls
            obtain ⟨l1, l2⟩ := cPr hrp (k := r) (by omega)
            have HBAD := hide (fun (hb : ¬ ((ps.getD r pr0).1 < (ps.getD (r + 1) pr0).1 ∧ (ps.getD r pr0).2 < (ps.getD (r + 1) pr0).2)) => show errK xs ys ps = 6 from errK_as (by rw [HLX.out, HLY.out, HLP.out]; exact HR.out) (fun ha => hb (ha r (by rw [HLP.out]; exact hls))))
            have HSUC := hide (fun (hb : (ps.getD r pr0).1 < (ps.getD (r + 1) pr0).1 ∧ (ps.getD r pr0).2 < (ps.getD (r + 1) pr0).2) => as_succ HA.out (fun _ => hb))
            clear hrp HA
            generalize ps.getD (r + 1) pr0 = p at *
            generalize ps.getD r pr0 = u at *
            obtain ⟨pa, pb⟩ := p
            obtain ⟨qa, qb⟩ := u
            dsimp only at p1 p2 l1 l2 HBAD HSUC
            have i0 : (0 : Int) ≤ (r : Int) := by omega
            have i1 : (r : Int) < (t : Int) := by omega
            have i2 : ((r : Int) + 1).toNat = r + 1 := by omega
            have i3 : (0 : Int) ≤ (r : Int) + 1 := by omega
            have i4 : (r : Int) + 1 < (t : Int) := by omega
            have i5 : IntKind.i64.wrap ((r : Int) + 1 - 1) = (r : Int) := by rw [Int.add_sub_cancel]; exact IntWalk.i64_in _ (by omega)
            by_cases c1' : pa ≤ qa
            · have HK := hide (HBAD.out (by omega))
              have HK2' := hide (HNO.out 6 HK.out (by decide))
              go_wp2_with fail
              go_quiet (fail)
              go_wp2_with fail
              go_ret2
              exact ⟨by rw [HK2'.out, HQ.out, HK.out]; rfl, below_drewN (below_drewN BW.out _) _⟩
            · have c1'' : qa < pa := by omega
              have c1b : decide (pa ≤ qa) = false := by simpa using c1''
              clear c1'
              by_cases c2' : pb ≤ qb
              · have HK := hide (HBAD.out (by omega))
                have HK2' := hide (HNO.out 6 HK.out (by decide))
                go_wp2_with fail
                go_quiet (fail)
                go_wp2_with fail
                go_ret2
                exact ⟨by rw [HK2'.out, HQ.out, HK.out]; rfl, below_drewN (below_drewN BW.out _) _⟩
              · have c2'' : qb < pb := by omega
                have c2b : decide (pb ≤ qb) = false := by simpa using c2''
                clear c2'
                have HA2 := hide (HSUC.out ⟨c1'', c2''⟩)
                go_wp2_with fail
                go_quiet (fail)
                go_wp2_with fail
                go_roundw
                case rel => exact ⟨r + 1 + 1, by omega, by omega, by go_num, HA2, _, rfl⟩
                case measure => simp [intOf]; omega
          · have hts : (t : Int) ≤ (s : Int) := by omega
            have HA1 := hide (as_le1 HA.out hs1 (by omega : t ≤ s))
            have HOK := hide (show errK xs ys ps = 0 from errK_ok (by rw [HLX.out, HLY.out, HLP.out]; exact HR.out) (by rw [HLP.out]; exact HA1.out))
            have HCV := hide (show cstV xs ys ⟨o, i, h⟩ ps = cstP xs ys ⟨o, i, h⟩ ps from cstV_ok (by rw [HQ.out, HOK.out]))
            have hle := as_len (l := xs) (m := ys) (ps := ps) (by rw [HLX.out, HLY.out, HLP.out]; exact HR.out) (by rw [HLP.out]; exact HA1.out)
            rw [HLX.out, HLY.out, HLP.out] at hle
            have m1 := mulb (x := (n : Int) - (t : Int)) ho (by omega)
            have m2 := mulb (x := (n' : Int) - (t : Int)) hi (by omega)
            obtain ⟨P, hP⟩ : ∃ P, o * ((n : Int) - (t : Int)) = P := ⟨_, rfl⟩
            obtain ⟨Q, hQ⟩ : ∃ Q, i * ((n' : Int) - (t : Int)) = Q := ⟨_, rfl⟩
            rw [hP] at m1
            rw [hQ] at m2
            have HPQ := hide (show cstP xs ys ⟨o, i, h⟩ ps = P + Q + smQ xs ys ⟨o, i, h⟩ ps t from by unfold cstP; rw [HLX.out, HLY.out, HLP.out, ← hP, ← hQ])
            have q1 : IntKind.i64.wrap ((n : Int) - (t : Int)) = (n : Int) - (t : Int) := IntWalk.i64_in _ (by omega)
            have q2 : IntKind.i64.wrap (o * ((n : Int) - (t : Int))) = P := by rw [hP]; exact IntWalk.i64_in _ (by omega)
            have q3 : IntKind.i64.wrap ((n' : Int) - (t : Int)) = (n' : Int) - (t : Int) := IntWalk.i64_in _ (by omega)
            have q4 : IntKind.i64.wrap (i * ((n' : Int) - (t : Int))) = Q := by rw [hQ]; exact IntWalk.i64_in _ (by omega)
            have k0 : (w1.drewN q).cell? ⟨w.heap.size, 0, none⟩ = some (.int .i64 o) := BK1.out.at_ 0
            have k1 : (w1.drewN q).cell? ⟨w.heap.size, 1, none⟩ = some (.int .i64 i) := BK1.out.at_ 1
            have BKZ := hide (BK1.out.draws q)
            have XZ := hide (X1.out.drewN q)
            have YZ := hide (Y1.out.drewN q)
            have PZ := hide (P1.out.drewN q)
            have BWZ := hide (below_drewN BW.out q)
            have hzz : w.heap.size < (w1.drewN q).heap.size := hz1
            clear hP hQ BK1 X1 Y1 P1 BW hz1
            generalize w1.drewN q = wz at *
            go_wp2_with fail
            clear q1 q2 q3 q4 k0 k1
            go_loopw [13, 14] (fun a13 a14 wr => ∃ (v : Nat) (S : Int), v ≤ t ∧ a13 = .int .i64 S ∧ a14 = .int .i64 v ∧ Hid (S = P + Q + smQ xs ys ⟨o, i, h⟩ ps v) ∧ Hid (Below wz.heap.size wz wr)) (fun _ a14 _ => t - (intOf a14).toNat)
            case atStart => exact ⟨0, P + Q, Nat.zero_le _, rfl, rfl, hide (by rw [smQ]; omega), hide (Below.refl _ _)⟩
            case round =>
              obtain ⟨v, S, hv, rfl, rfl, HS, HB⟩ := hrel
              by_cases hlv : v < t
              · have hvn : (v : Int) < (t : Int) := by omega
                obtain ⟨bp, op, hrp⟩ := PZ.out.below HB.out (Nat.le_refl _)
                obtain rfl := hrp.at_ (by omega)
                have hbp := hrp.lt (by omega)
                have hcp := hrp.cap
                have hmp := hrp.max
                obtain ⟨p1, p2⟩ := cPr hrp hlv
                have hrg := HR.out v hlv
                have hsm := smQ_bd (l := xs) (m := ys) (ps := ps) HC.out v
                have HSS := hide (show smQ xs ys ⟨o, i, h⟩ ps (v + 1) = smQ xs ys ⟨o, i, h⟩ ps v + chg ⟨o, i, h⟩ (xs.getD (ps.getD v pr0).1.toNat 0) (ys.getD (ps.getD v pr0).2.toNat 0) from rfl)
                clear hrp
                generalize ps.getD v pr0 = p at *
                obtain ⟨pa, pb⟩ := p
                unfold rng at hrg
                dsimp only at p1 p2 hrg HSS
                obtain ⟨ia, rfl⟩ : ∃ ia : Nat, pa = ia := ⟨pa.toNat, by omega⟩
                obtain ⟨ib, rfl⟩ : ∃ ib : Nat, pb = ib := ⟨pb.toNat, by omega⟩
                obtain ⟨⟨_, r1⟩, _, r2⟩ := hrg
                rw [Int.toNat_natCast, Int.toNat_natCast] at HSS
                obtain ⟨bx, ox, hrx⟩ := XZ.out.below HB.out (Nat.le_refl _)
                obtain rfl := hrx.at_ (by omega)
                have hbx := hrx.lt (by omega)
                have hcx := hrx.cap
                have hmx := hrx.max
                have cx := c1 hrx (k := ia) (by omega)
                obtain ⟨by', oy, hry⟩ := YZ.out.below HB.out (Nat.le_refl _)
                obtain rfl := hry.at_ (by omega)
                have hby := hry.lt (by omega)
                have hcy := hry.cap
                have hmy := hry.max
                have cy := c1 hry (k := ib) (by omega)
                have kk0 := (BKZ.out.keep HB.out hzz).at_ 0
                have kk1 := (BKZ.out.keep HB.out hzz).at_ 1
                have kk2 := (BKZ.out.keep HB.out hzz).at_ 2
                simp at kk0 kk1 kk2
                have hwz : w.heap.size < wr.heap.size := Nat.lt_of_lt_of_le hzz HB.out.size
                have hSb : 0 ≤ S ∧ S ≤ 300 := by have := HS.out; omega
                have bc := chg_bd HC.out (xs.getD ia 0) (ys.getD ib 0)
                have HCH := hide (fun W => rchange_any (xs.getD ia 0) (ys.getD ib 0) o i h W)
                clear hrx hry hsm
                generalize chg ⟨o, i, h⟩ (xs.getD ia 0) (ys.getD ib 0) = ch at *
                generalize xs.getD ia 0 = x at *
                generalize ys.getD ib 0 = y at *
                have HS2 := hide (show S + ch = P + Q + smQ xs ys ⟨o, i, h⟩ ps (v + 1) from by rw [HSS.out, HS.out]; omega)
                have w1' : IntKind.i64.wrap (S + ch) = S + ch := IntWalk.i64_in _ (by omega)
                go_wp2_with fail
                go_region_held3 (fun w' => w'.cell? ⟨w.heap.size, 0, none⟩ = some (.int .i64 o) ∧ w'.cell? ⟨w.heap.size, 1, none⟩ = some (.int .i64 i) ∧ w'.cell? ⟨w.heap.size, 2, none⟩ = some (.int .i64 h) ∧ w'.cell? ⟨bx, ox + ia, none⟩ = some (.int .i64 x) ∧ w'.cell? ⟨by', oy + ib, none⟩ = some (.int .i64 y) ∧ w'.cell? ⟨bp, op + v * 2, none⟩ = some (.int .i64 ia) ∧ w'.cell? ⟨bp, op + v * 2 + 1, none⟩ = some (.int .i64 ib))
                  (first
                    | go_keep
                    | (go_split_ands
                       refine ⟨?_, ?_, ?_, ?_, ?_, ?_, ?_⟩ <;> (rw [hb8.cell (by simp; omega)]; assumption)))
                  (first
                    | (go_at_call 59; refine (HCH.out _).mono ?_; rintro e8 w8 ⟨rfl, hb8⟩))
                all_goals
                  go_wp2_with fail
                  go_roundw
                  case rel => exact ⟨v + 1, S + ch, by omega, rfl, by go_num, HS2, hide (HB.out.drew.trans (hb8.mono HB.out.size))⟩
                  case measure => simp [intOf]; omega
              · obtain rfl : v = t := by omega
                have HV := hide (show cstV xs ys ⟨o, i, h⟩ ps = S from by rw [HCV.out, HPQ.out, HS.out])
                go_wp2_with fail
                go_ret2
                exact ⟨by rw [HV.out, HQ.out, HOK.out]; rfl, BWZ.out.trans (HB.out.mono (Nat.le_of_lt hzz))⟩
  · have HQ := hide (errQ_no (ps := ps) he)
    have HV := hide (cstV_no (ps := ps) (by rw [HQ.out]; exact he))
    have hne : (errD xs ys ⟨o, i, h⟩ != 0) = true := by simpa using he
    clear hx hy hp he
    go_enter Try.func21, Try.ntmps21
    go_wp2_with (go_at_call 57; refine (rcosted_any A n c xs A' n' c' ys o i h _ HX.out HY.out).mono ?_; rintro e1 w1 ⟨rfl, b1⟩; have B1 := hide b1; clear b1)
    go_ret2
    exact ⟨by rw [HV.out, HQ.out]; rfl, le_call BX.out B1.out⟩
end Go.Proofs.Ytndfdminjegldaa
