/- The walk of TopHaze. -/
import Derived.Test.YtlmmkaadoicogaaMathT
namespace Go.Proofs.Ytlmmkaadoicogaa
open Go.RowKit

set_option maxHeartbeats 1000000 in
theorem topfair_any (A : Option Addr) (n c : Nat) (l : Rd) (w : World) (h : Row w A n c l) (hn : n ≤ 1000) (hf : ∀ k, k < n → 0 ≤ (l.getD k (0, 0)).1 ∧ (l.getD k (0, 0)).1 ≤ 1000000 ∧ 1 ≤ (l.getD k (0, 0)).2 ∧ (l.getD k (0, 0)).2 ≤ 1000) :
    Calls Try.prog 58 #[.slice A n c] w fun e w' => e = .returned (.bool true) ∧ w = w' := by
  obtain ⟨b, off, h1, hcap, hmax, h2, h3, h4⟩ := h
  have H2 := hide h2
  have H4 := hide h4
  have HF := hide hf
  clear h1 h2 h3 h4 hf
  go_enter Try.func58, Try.ntmps58
  go_wp2
  go_loop [3] (fun i => ∃ k : Nat, k ≤ n ∧ i = .int .i64 k) (fun i => n - (intOf i).toNat)
  case atStart => exact ⟨0, Nat.zero_le _, rfl⟩
  case round =>
    obtain ⟨k, hk, rfl⟩ := hrel
    by_cases hlt : k < n
    · obtain rfl := H2.out (by omega)
      obtain ⟨c1, c2⟩ := H4.out k hlt
      obtain ⟨f1, f2, f3, f4⟩ := HF.out k hlt
      generalize (l.getD k (0, 0)).1 = x at *
      generalize (l.getD k (0, 0)).2 = y at *
      go_wp2
      go_round
      case rel => exact ⟨k + 1, by omega, by go_num⟩
      case measure => simp [intOf]; omega
    · go_wp2
      go_ret
      exact ⟨rfl, rfl⟩

set_option maxRecDepth 100000 in
set_option maxHeartbeats 6000000 in
theorem TopHaze_walk (A : Option Addr) (n c : Nat) (xs : Rd) (B : Option Addr) (m cc : Nat) (ys : List Int) (hour : Int) (w : World) (h : Row w A n c xs) (hy : IRow w B m cc ys) :
    Calls Try.prog 17 #[.slice A n c, .slice B m cc, .int .i64 hour] w fun e w' => e = .returned (.bool true) ∧ Below w.heap.size w w' := by
  have HR := hide h
  have HY := hide hy
  have HL := hide h.length
  clear h hy
  go_enter Try.func17, Try.ntmps17
  go_wp2_with fail
  have hb0 : Bk (w.alloc (.cells (cells2 kx).toArray 51)) w.heap.size 51 (cells2 kx).toArray := Bk.born _ _ _
  have HROW := hide (Row.of_bk hb0 (show kx.length = 3 from rfl) (by omega))
  have B0 := hide ((Below.refl w.heap.size w).alloc (Nat.le_refl _) (.cells (cells2 kx).toArray 51))
  clear hb0
  refine (Misfit_any _ _ _ kx _ HROW.out (by omega)).mono ?_
  rw [kx_err, kx_mis]
  rintro e w1 ⟨rfl, b1⟩
  simp only
  have B1 := hide ((B0.out.trans (b1.mono B0.out.size)).alloc (B0.out.trans (b1.mono B0.out.size)).size (.cells #[.int .i64 1, .int .i64 2] 26))
  clear b1 HROW B0
  go_wp2_with fail
  by_cases hn : 100 < n
  case pos =>
    refine (Long_yes _ _ _ _ hn).mono ?_
    rintro e w2 ⟨rfl, rfl⟩
    go_wp2_with fail
    go_ret
    exact ⟨rfl, B1.out⟩
  have hn' : n ≤ 100 := by omega
  refine (Long_no _ _ _ _ hn').mono ?_
  rintro e w2 ⟨rfl, rfl⟩
  by_cases hm : (100 : Int) < m
  case pos =>
    go_wp2_with fail
    go_ret
    exact ⟨rfl, B1.out⟩
  have hm' : ¬ (100 : Int) < m := hm
  clear hn hm
  go_wp2_with fail
  refine (Best_any _ _ _ xs _ (HR.out.below B1.out (Nat.le_refl _)) (by omega)).mono ?_
  rintro e w3 ⟨Al, nl, cl, rfl, ol, b3⟩
  have B3 := hide (B1.out.trans (b3.mono B1.out.size))
  have RL0 := hide ol.row
  clear b3 ol hm'
  go_wp2_with fail
  refine (Blocks_any _ _ _ xs _ (HR.out.below B3.out (Nat.le_refl _)) (by omega)).mono ?_
  rintro e w4 ⟨Ab, nb, cb, rfl, ob, b4⟩
  have B4 := hide (B3.out.trans (b4.mono B3.out.size))
  have RB0 := hide ob.row
  replace RL0 := hide (RL0.out.below b4 (Nat.le_refl _))
  clear b4 ob
  obtain ⟨p, q, hpq⟩ : ∃ p q, misOr xs = (p, q) := ⟨_, _, rfl⟩
  have HMO := hide hpq
  clear hpq
  go_wp2_with fail
  refine (Misfit_any _ _ _ xs _ (HR.out.below B4.out (Nat.le_refl _)) (by omega)).mono ?_
  rw [HMO.out]
  rintro e w5 ⟨rfl, b5⟩
  simp only
  have B5 := hide ((B4.out.trans (b5.mono B4.out.size)).alloc (B4.out.trans (b5.mono B4.out.size)).size (.cells #[.int .i64 p, .int .i64 q] 26))
  have M5 := hide (Bk.born w5 26 #[.int .i64 p, .int .i64 q])
  have RL := hide (RL0.out.below (b5.alloc b5.size (.cells #[.int .i64 p, .int .i64 q] 26)) (Nat.le_refl _))
  have RB := hide (RB0.out.below (b5.alloc b5.size (.cells #[.int .i64 p, .int .i64 q] 26)) (Nat.le_refl _))
  clear b5 RL0 RB0 B1 B3 B4
  by_cases he : errH xs = 0
  case neg =>
    have he' := errH_ne he
    go_wp2_with fail
    go_ret
    exact ⟨rfl, B5.out⟩
  obtain ⟨e1, e2, e3⟩ := errH_zero he
  rw [HL.out] at e1 e2
  rw [if_pos he] at RL RB
  have hnl : nl = n := by have := RL.out.length; rw [best_len, HL.out] at this; exact this.symm
  subst hnl
  have HE := hide he
  have O := hide e3
  have HLX := hide (show xs.length ≤ 12 by rw [HL.out]; exact e2)
  obtain ⟨st, hst⟩ := stk_exists e3 xs.length (Nat.le_refl _)
  obtain ⟨l, hlr⟩ : ∃ l, l = st.reverse := ⟨_, rfl⟩
  have hst' : Stk xs l.reverse xs.length := by rw [hlr, List.reverse_reverse]; exact hst
  have HBK := hide (blocks_runs e3 hst')
  have hsq := sq_of_stk hst'
  rw [List.reverse_reverse, rowS_best e3 hst', HL.out] at hsq
  have HSQ := hide hsq
  rw [HBK.out] at RB
  have HLM := hide (show l.length = nb by have := RB.out.length; rwa [List.length_map] at this)
  have hmis := HMO.out
  unfold misOr at hmis
  rw [if_pos he, HL.out] at hmis
  have MB0 := Mf_all e3 HLX.out
  rw [HL.out] at MB0
  obtain ⟨mb1, mb2, mb3, mb4⟩ := MB0
  have hp1 : nu (Mf xs nl) = p := congrArg Prod.fst hmis
  have hq1 : de (Mf xs nl) = q := congrArg Prod.snd hmis
  have HP := hide hp1
  have HQ := hide hq1
  rw [hp1] at mb1 mb2
  rw [hq1] at mb2 mb3 mb4
  rw [P9_12] at mb4
  have HFR := hide (fun k (hk : k < nl) => small_rr e3 HLX.out (i := k) (by rw [HL.out]; exact hk))
  have hfair : ∀ k, k < nl → 0 ≤ ((best xs).getD k (0, 0)).1 ∧ ((best xs).getD k (0, 0)).1 ≤ 1000000 ∧ 1 ≤ ((best xs).getD k (0, 0)).2 ∧ ((best xs).getD k (0, 0)).2 ≤ 1000 := fun k hk => by
    rw [best_get xs (by rw [HL.out]; exact hk)]
    obtain ⟨s1, s2, s3, s4⟩ := HFR.out k hk
    simp only
    omega
  have HFA := hide hfair
  clear he e3 hst hst' hlr hsq hmis hp1 hq1 st hfair
  rw [HE.out]
  obtain ⟨t0, t1, _, _, _⟩ := M5.out.two
  go_wp2_with fail
  refine (topfair_any _ _ _ (best xs) _ RL.out (by omega) HFA.out).mono ?_
  rintro e w6 ⟨rfl, rfl⟩
  go_wp2_with fail
  clear t0 t1
  have MI := M5.out.in_
  have g5lt := M5.out.in_
  generalize hW : w5.alloc (.cells #[.int .i64 p, .int .i64 q] 26) = W at *
  generalize w5.heap.size = g5 at *
  have HHR := hide (HR.out.below B5.out (Nat.le_refl _))
  have hcapH : nl ≤ c ∧ c ≤ 9223372036854775807 := by obtain ⟨b, off, r⟩ := HR.out; exact ⟨r.cap, r.max⟩
  clear hW
  go_loopw [15] (fun si wr => ∃ i : Nat, i ≤ nl ∧ si = .int .i64 i ∧ Below W.heap.size W wr) (fun si _ => nl - (intOf si).toNat)
  case atStart => exact ⟨0, by omega, rfl, Below.refl _ _⟩
  case round => as_aux_lemma =>
    obtain ⟨i, hi1, rfl, hbel⟩ := hrel
    obtain ⟨wa, rfl⟩ : ∃ v : World, v = wr := ⟨_, rfl⟩
    have HB := hide hbel
    clear hbel
    have zW := HB.out.size
    by_cases hlt : i < nl
    · have hix : i < xs.length := by rw [HL.out]; exact hlt
      have l2 : (i : Int) < nl := by omega
      have KL := hide (show Bk (wa.alloc (.cells #[.int .i64 0, .int .i64 0] 26)) wa.heap.size 26 #[.int .i64 (loP xs i 0).1, .int .i64 (loP xs i 0).2] from Bk.born wa 26 #[.int .i64 0, .int .i64 0])
      go_wp2_with fail
      go_loopw [17] (fun sa wq => ∃ a : Nat, a ≤ i + 1 ∧ sa = .int .i64 a ∧ Bk wq wa.heap.size 26 #[.int .i64 (loP xs i a).1, .int .i64 (loP xs i a).2] ∧ Below wa.heap.size wa wq) (fun sa _ => i + 1 - (intOf sa).toNat)
      case atStart => exact ⟨0, by omega, rfl, KL.out, (Below.refl wa.heap.size wa).alloc (Nat.le_refl _) _⟩
      case round => as_aux_lemma =>
        obtain ⟨a, ha1, rfl, hkl, hbel2⟩ := hrel
        obtain ⟨wb, rfl⟩ : ∃ v : World, v = wr := ⟨_, rfl⟩
        have KL2 := hide hkl
        have HB2 := hide hbel2
        clear hkl hbel2
        have zr := HB2.out.size
        by_cases hai : a ≤ i
        · have l3 : (a : Int) ≤ i := by omega
          have hlow := KL2.out.in_
          have KH := hide (show Bk (wb.alloc (.cells #[.int .i64 0, .int .i64 0] 26)) wb.heap.size 26 #[.int .i64 (hiP xs a i 0).1, .int .i64 (hiP xs a i 0).2] from Bk.born wb 26 #[.int .i64 0, .int .i64 0])
          have KL3 := hide (KL2.out.more (.cells #[.int .i64 0, .int .i64 0] 26))
          go_wp2_with fail
          go_loopw [19] (fun sb w3 => ∃ k b : Nat, b = i + k ∧ b ≤ nl ∧ sb = .int .i64 b ∧ Bk w3 wa.heap.size 26 #[.int .i64 (loP xs i a).1, .int .i64 (loP xs i a).2] ∧
              Bk w3 wb.heap.size 26 #[.int .i64 (hiP xs a i k).1, .int .i64 (hiP xs a i k).2] ∧ Below wa.heap.size wa w3) (fun sb _ => nl - (intOf sb).toNat)
          case atStart => exact ⟨0, i, rfl, by omega, rfl, KL3.out, KH.out, HB2.out.alloc HB2.out.size _⟩
          case round => as_aux_lemma =>
            obtain ⟨k, b, hb, hbn, rfl, hkl, hkh, hbel3⟩ := hrel
            have KL4 := hide hkl
            have KH4 := hide hkh
            have HB3 := hide hbel3
            have Hb := hide hb
            clear hkl hkh hbel3 hb
            have z3 := HB3.out.size
            have zl := KL4.out.in_
            have zh := KH4.out.in_
            by_cases hbl : b < nl
            · have l4 : (b : Int) < nl := by omega
              have hbx : b < xs.length := by rw [HL.out]; exact hbl
              have hab : a ≤ b := by have := Hb.out; omega
              have HMV := hide (fun V (hV : Row V A nl c xs) => Mean_any A nl c xs (a : Int) (b : Int) V hV (by omega))
              rw [errM_in HE.out hab hbx, meanOr_in HE.out hab hbx] at HMV
              obtain ⟨s1, s2, s3, s4⟩ := small_mq O.out hab hbx HLX.out
              have HRW := hide (HHR.out.below (HB.out.trans (HB3.out.mono HB.out.size)) (Nat.le_refl _))
              go_wp2_with fail
              refine (HMV.out _ HRW.out).mono ?_
              rintro e w4 ⟨rfl, b4⟩
              simp only
              have KL5 := hide ((KL4.out.keep b4 zl).more (.cells #[.int .i64 (nu (mq xs a b)), .int .i64 (de (mq xs a b))] 26))
              have KH5 := hide ((KH4.out.keep b4 zh).more (.cells #[.int .i64 (nu (mq xs a b)), .int .i64 (de (mq xs a b))] 26))
              have KM5 := hide (Bk.born w4 26 #[.int .i64 (nu (mq xs a b)), .int .i64 (de (mq xs a b))])
              have HB5 := hide ((HB3.out.trans (b4.mono HB3.out.size)).alloc (HB3.out.trans (b4.mono HB3.out.size)).size (.cells #[.int .i64 (nu (mq xs a b)), .int .i64 (de (mq xs a b))] 26))
              clear b4
              obtain ⟨y0, y1, _, _, _⟩ := KM5.out.two
              obtain ⟨x0, x1, f0, f1, _⟩ := KH5.out.two
              cases k with
              | zero =>
                obtain rfl : b = i := Hb.out
                have HV := hide (hiP_one xs a b)
                have eq0 : ((b : Int) == b) = true := by simp
                go_wp2_with fail
                go_roundw
                case rel => exact ⟨1, b + 1, rfl, by omega, by go_num, (KL5.out.apart (by simp; omega) _).apart (by simp; omega) _, by rw [HV.out]; exact KH5.out.set2, (HB5.out.setCell (by simp; omega) _).setCell (by simp; omega) _⟩
                case measure => simp [intOf]; omega
              | succ k =>
                have eq0 : ((b : Int) == i) = false := by have := Hb.out; simp; omega
                have HV := hide (hiP_succ xs a i k)
                rw [← Hb.out] at HV
                have HH := hide (show hiP xs a i (k + 1) = (nu (hiTo (vq xs) (wq xs) a i k), de (hiTo (vq xs) (wq xs) a i k)) from rfl)
                rw [HH.out] at x0 x1 HV KH5
                obtain ⟨r1, r2, r3, r4⟩ := small_hiTo O.out HLX.out hai (k := k) (by have := Hb.out; omega)
                have HLS := hide (fun V => Less_any (hiTo (vq xs) (wq xs) a i k) (mq xs a b) V r1 (by omega) (by omega) s1 (by omega) (by omega))
                have HMQ := hide (show rq (mq xs a b) = (nu (mq xs a b), de (mq xs a b)) from rfl)
                rw [HMQ.out] at HV
                generalize lessB (hiTo (vq xs) (wq xs) a i k) (mq xs a b) = bb at *
                generalize nu (hiTo (vq xs) (wq xs) a i k) = u1 at *
                generalize de (hiTo (vq xs) (wq xs) a i k) = u2 at *
                generalize nu (mq xs a b) = v1 at *
                generalize de (mq xs a b) = v2 at *
                go_wp2_with fail
                refine (HLS.out _).mono ?_
                rintro e w6 ⟨rfl, b6⟩
                have KL6 := hide (KL5.out.keep b6 KL5.out.in_)
                have KH6 := hide (KH5.out.keep b6 KH5.out.in_)
                have KM6 := hide (KM5.out.keep b6 KM5.out.in_)
                have HB6 := hide (HB5.out.trans (b6.mono HB5.out.size))
                clear b6 x0 x1 y0 y1 f0 f1
                obtain ⟨y0, y1, _, _, _⟩ := KM6.out.two
                obtain ⟨x0, x1, f0, f1, _⟩ := KH6.out.two
                cases bb with
                | true =>
                  rw [if_pos rfl] at HV
                  go_wp2_with fail
                  go_roundw
                  case rel => exact ⟨k + 2, b + 1, by have := Hb.out; omega, by omega, by go_num, (KL6.out.apart (by simp; omega) _).apart (by simp; omega) _, by rw [HV.out]; exact KH6.out.set2, (HB6.out.setCell (by simp; omega) _).setCell (by simp; omega) _⟩
                  case measure => simp [intOf]; omega
                | false =>
                  rw [if_neg (by simp)] at HV
                  go_wp2_with fail
                  go_roundw
                  case rel => exact ⟨k + 2, b + 1, by have := Hb.out; omega, by omega, by go_num, KL6.out, by rw [HV.out]; exact KH6.out, HB6.out⟩
                  case measure => simp [intOf]; omega
            · obtain rfl : b = nl := by omega
              have l4 : ¬ (b : Int) < b := by omega
              have HHI := hide (show hiP xs a i k = (nu (hi (vq xs) (wq xs) xs.length a i), de (hi (vq xs) (wq xs) xs.length a i)) by
                unfold hiP hi
                rw [if_neg (by have := Hb.out; omega), HL.out, show k - 1 = b - 1 - i by have := Hb.out; omega]
                rfl)
              rw [HHI.out] at KH4
              obtain ⟨s1, s2, s3, s4⟩ := small_hi O.out HLX.out hai hix
              obtain ⟨y0, y1, _, _, _⟩ := KH4.out.two
              obtain ⟨x0, x1, f0, f1, _⟩ := KL4.out.two
              cases a with
              | zero =>
                have HV := hide (loP_one xs i)
                have HMQ := hide (show rq (hi (vq xs) (wq xs) xs.length 0 i) = (nu (hi (vq xs) (wq xs) xs.length 0 i), de (hi (vq xs) (wq xs) xs.length 0 i)) from rfl)
                rw [HMQ.out] at HV
                go_wp2_with fail
                go_roundw
                case rel => exact ⟨1, by omega, by go_num, by rw [HV.out]; exact KL4.out.set2, (HB3.out.setCell (by simp) _).setCell (by simp) _⟩
                case measure => first | (simp [intOf]; done) | (simp [intOf]; omega)
              | succ a =>
                have eq0 : ((a : Int) + 1 == 0) = false := by rw [beq_eq_false_iff_ne]; omega
                have HV := hide (loP_succ xs i a)
                have HH := hide (show loP xs i (a + 1) = (nu (loTo (vq xs) (wq xs) xs.length i a), de (loTo (vq xs) (wq xs) xs.length i a)) from rfl)
                rw [HH.out] at x0 x1 HV KL4
                obtain ⟨r1, r2, r3, r4⟩ := small_loTo O.out HLX.out hix (k := a) (by omega)
                have HLS := hide (fun V => Less_any (hi (vq xs) (wq xs) xs.length (a + 1) i) (loTo (vq xs) (wq xs) xs.length i a) V s1 (by omega) (by omega) r1 (by omega) (by omega))
                have HMQ := hide (show rq (hi (vq xs) (wq xs) xs.length (a + 1) i) = (nu (hi (vq xs) (wq xs) xs.length (a + 1) i), de (hi (vq xs) (wq xs) xs.length (a + 1) i)) from rfl)
                rw [HMQ.out] at HV
                generalize lessB (hi (vq xs) (wq xs) xs.length (a + 1) i) (loTo (vq xs) (wq xs) xs.length i a) = bb at *
                generalize nu (hi (vq xs) (wq xs) xs.length (a + 1) i) = u1 at *
                generalize de (hi (vq xs) (wq xs) xs.length (a + 1) i) = u2 at *
                generalize nu (loTo (vq xs) (wq xs) xs.length i a) = v1 at *
                generalize de (loTo (vq xs) (wq xs) xs.length i a) = v2 at *
                go_wp2_with fail
                refine (HLS.out _).mono ?_
                rintro e w6 ⟨rfl, b6⟩
                have KL6 := hide (KL4.out.keep b6 zl)
                have KH6 := hide (KH4.out.keep b6 zh)
                have HB6 := hide (HB3.out.trans (b6.mono HB3.out.size))
                clear b6 x0 x1 y0 y1 f0 f1
                obtain ⟨y0, y1, _, _, _⟩ := KH6.out.two
                obtain ⟨x0, x1, f0, f1, _⟩ := KL6.out.two
                cases bb with
                | true =>
                  rw [if_pos rfl] at HV
                  go_wp2_with fail
                  go_roundw
                  case rel => exact ⟨a + 2, by omega, by go_num, by rw [HV.out]; exact KL6.out.set2, (HB6.out.setCell (by simp) _).setCell (by simp) _⟩
                  case measure => simp [intOf]; omega
                | false =>
                  rw [if_neg (by simp)] at HV
                  go_wp2_with fail
                  go_roundw
                  case rel => exact ⟨a + 2, by omega, by go_num, by rw [HV.out]; exact KL6.out, HB6.out⟩
                  case measure => simp [intOf]; omega
        · obtain rfl : a = i + 1 := by omega
          have l3 : ¬ (i : Int) + 1 ≤ i := by omega
          have HLO := hide (show loP xs i (i + 1) = (nu (rr xs i), de (rr xs i)) by rw [rr_mm xs hix]; rfl)
          rw [HLO.out] at KL2
          obtain ⟨x0, x1, _, _, _⟩ := KL2.out.two
          have HBW := hide (HB.out.trans (HB2.out.mono HB.out.size))
          obtain ⟨bl, ol, rl⟩ := RL.out
          obtain rfl := rl.at_ (by omega)
          have q1 := rl.cap
          have q2 := rl.max
          have r2 := rl.below HBW.out (Nat.le_refl _)
          obtain ⟨c0, c1⟩ := r2.cell i hlt
          rw [best_get xs hix] at c0 c1
          simp only at c0 c1
          have sl := r2.lt (by omega)
          have sx := KL2.out.in_
          cases i with
          | zero =>
            clear rl r2
            rw [Nat.zero_mul, Nat.add_zero] at c0
            rw [Nat.zero_mul, Nat.add_zero] at c1
            generalize nu (rr xs 0) = u1 at *
            generalize de (rr xs 0) = u2 at *
            go_wp2_with fail
            go_quiet (fail)
            go_wp2_with fail
            go_roundw
            case rel => exact ⟨1, by omega, by go_num, below_drewN HBW.out _⟩
            case measure => simp [intOf]; omega
          | succ j =>
            obtain ⟨d0, d1⟩ := r2.cell j (by omega)
            rw [best_get xs (by omega)] at d0 d1
            simp only at d0 d1
            clear rl r2
            obtain ⟨s1, s2, s3, s4⟩ := HFR.out j (by omega)
            obtain ⟨r1, r2, r3, r4⟩ := HFR.out (j + 1) hlt
            have HLS := hide (fun V => Less_any (rr xs j) (rr xs (j + 1)) V s1 (by omega) (by omega) r1 (by omega) (by omega))
            rw [rr_le O.out hix] at HLS
            have wj : IntKind.i64.wrap ((j : Int) + 1 - 1) = j := by rw [Int.add_sub_cancel]; exact IntWalk.i64_in _ (by omega)
            have wj2 : IntKind.i64.wrap (j : Int) = j := IntWalk.i64_in _ (by omega)
            have wj3 : ((j : Int) + 1 - 1) = j := by omega
            have l5 : (0 : Int) < (j : Int) + 1 := by omega
            have l9 : (0 : Int) ≤ (j : Int) := by omega
            have l6 : (j : Int) < nl := by omega
            have l7 : (0 : Int) ≤ (j : Int) + 1 := by omega
            have l8 : (j : Int) + 1 < nl := by omega
            clear s1 s2 s3 s4 r1 r2 r3 r4
            generalize nu (rr xs (j + 1)) = u1 at *
            generalize de (rr xs (j + 1)) = u2 at *
            generalize nu (rr xs j) = v1 at *
            generalize de (rr xs j) = v2 at *
            go_wp2_with fail
            go_region_held3 (fun w' => w'.cell? ⟨wa.heap.size, 0, none⟩ = some (.int .i64 u1) ∧ w'.cell? ⟨wa.heap.size, 1, none⟩ = some (.int .i64 u2) ∧ w'.cell? ⟨bl, ol + (j + 1) * 2, none⟩ = some (.int .i64 u1) ∧ w'.cell? ⟨bl, ol + (j + 1) * 2 + 1, none⟩ = some (.int .i64 u2) ∧ w'.cell? ⟨bl, ol + j * 2, none⟩ = some (.int .i64 v1) ∧ w'.cell? ⟨bl, ol + j * 2 + 1, none⟩ = some (.int .i64 v2))
              (first
                | go_keep
                | (go_split_ands
                   refine ⟨?_, ?_, ?_, ?_, ?_, ?_⟩ <;> (rw [hb8.cell (by simp; omega)]; assumption)))
              (first
                | (go_at_call 36; refine (HLS.out _).mono ?_; rintro e8 w8 ⟨rfl, hb8⟩))
            all_goals
              go_wp2_with fail
              go_roundw
              case rel => exact ⟨j + 2, by omega, by go_num, (below_drewN HBW.out 1).trans (hb8.mono HBW.out.size)⟩
              case measure => simp [intOf]; omega
    · obtain rfl : i = nl := by omega
      have MB4 := hide (M5.out.keep HB.out g5lt)
      have HBZ := hide (B5.out.trans (HB.out.mono B5.out.size))
      have l4 : ¬ (i : Int) < i := by omega
      go_wp2_with fail
      go_loopw [22, 23] (fun st sk wq => ∃ k at_ : Nat, k ≤ nb ∧ sk = .int .i64 k ∧ st = .int .i64 at_ ∧ Sq xs (bestR xs) (l.drop k) at_ i ∧ Below W.heap.size W wq) (fun _ sk _ => nb - (intOf sk).toNat)
      case atStart => exact ⟨0, 0, by omega, rfl, rfl, HSQ.out, HB.out⟩
      case round => as_aux_lemma =>
        obtain ⟨k, at_, hk, rfl, rfl, hsq, hbel4⟩ := hrel
        obtain ⟨wc, rfl⟩ : ∃ v : World, v = wr := ⟨_, rfl⟩
        have HB4 := hide hbel4
        clear hbel4
        have zc := HB4.out.size
        by_cases hkb : k < nb
        · have hlt' : k < l.length := by rw [HLM.out]; exact hkb
          rw [List.drop_eq_getElem_cons hlt'] at hsq
          have hgetk : l[k]? = some l[k] := List.getElem?_eq_getElem hlt'
          generalize l[k] = r at hsq hgetk
          obtain ⟨hra', hgood, hval, hsq'⟩ := hsq
          have HRA := hide hra'
          have HG4 := hide (runs_get hgetk)
          have hle := hgood.le
          have hltb : r.b < i := by have := hgood.lt; rw [HL.out] at this; exact this
          have HVA := hide hval
          have HSQ' := hide hsq'
          subst hra'
          clear hval hsq' hgetk hgood HRA
          obtain ⟨bB, oB, z1⟩ := RB.out
          obtain rfl := z1.at_ (by omega)
          have v1 := z1.cap
          have v2 := z1.max
          have u1 := z1.below HB4.out (Nat.le_refl _)
          obtain ⟨c0, c1', c2', c3⟩ := u1.cell k hkb
          rw [HG4.out] at c0 c1' c2' c3
          simp only at c0 c1' c2' c3
          obtain ⟨bl, ol, rl⟩ := RL.out
          obtain rfl := rl.at_ (by omega)
          have q1 := rl.cap
          have q2 := rl.max
          have HRL := hide (rl.below HB4.out (Nat.le_refl _))
          clear z1 u1 rl
          have l2 : (k : Int) < nb := by omega
          have l5 : (r.a : Int) ≤ r.b := by omega
          have l6 : (r.b : Int) < i := by omega
          go_wp2_with fail
          go_loopw [22] (fun st wq => ∃ j q : Nat, r.a ≤ j ∧ j ≤ r.b + 1 ∧ st = .int .i64 j ∧ wq = wc.drewN q) (fun st _ => r.b + 1 - (intOf st).toNat)
          case atStart => exact ⟨r.a, 0, Nat.le_refl _, by omega, rfl, rfl⟩
          case round => as_aux_lemma =>
            obtain ⟨j, q0, hj1, hj2, rfl, rfl⟩ := hrel
            by_cases hjb : j ≤ r.b
            · obtain ⟨d0, d1⟩ := HRL.out.cell j (by omega)
              rw [best_get xs (by rw [HL.out]; omega)] at d0 d1
              rw [show rr xs j = rt r.n r.d from HVA.out j hj1 hjb] at d0 d1
              simp only at d0 d1
              have l7 : (j : Int) ≤ r.b := by omega
              have l8 : (j : Int) < i := by omega
              generalize nu (rt r.n r.d) = y1 at *
              generalize de (rt r.n r.d) = y2 at *
              go_wp2_with fail
              go_quiet (fail)
              go_wp2_with fail
              go_roundw
              case rel => exact ⟨j + 1, _, by omega, by omega, by go_num, rfl⟩
              case measure => simp [intOf]; omega
            · obtain rfl : j = r.b + 1 := by omega
              have l7 : ¬ (r.b : Int) + 1 ≤ r.b := by omega
              go_wp2_with fail
              go_roundw
              case rel => exact ⟨k + 1, r.b + 1, by omega, by go_num, by go_num, HSQ'.out, below_drewN HB4.out _⟩
              case measure => simp [intOf]; omega
        · obtain rfl : k = nb := by omega
          have hd : l.drop k = [] := List.drop_eq_nil_of_le (by rw [HLM.out]; exact Nat.le_refl _)
          rw [hd] at hsq
          have hi : at_ = i := hsq
          subst hi
          clear hd hsq
          have l9 : ¬ (k : Int) < k := by omega
          have HBW := hide (B5.out.trans (HB4.out.mono B5.out.size))
          have MB5 := hide (M5.out.keep HB4.out g5lt)
          go_wp2_with fail
          refine (IsFalling_any _ _ _ xs _ (HR.out.below HBW.out (Nat.le_refl _)) (by omega)).mono ?_
          have hfb : fallB xs = decide (p = 0) := by
            have h1 := mf_fall O.out
            have h2 := fallB_iff xs
            rw [HL.out, HP.out] at h1
            rw [HL.out] at h2
            apply Bool.eq_iff_iff.2
            rw [h2, ← h1, decide_eq_true_iff]
          rw [HE.out, show fallOr xs = fallB xs from by unfold fallOr; rw [if_pos HE.out], hfb]
          obtain ⟨fb, hfb2⟩ : ∃ fb, decide (p = 0) = fb := ⟨_, rfl⟩
          have hfb3 : (p == 0) = fb := by rw [← hfb2]; rfl
          rw [hfb2]
          rintro e w7 ⟨rfl, b7⟩
          have HBy := hide (HBW.out.trans (b7.mono HBW.out.size))
          have MBy := hide (MB5.out.keep b7 MB5.out.in_)
          have HCy := hide (HB4.out.trans (b7.mono HB4.out.size))
          clear b7 hfb
          obtain ⟨t0, t1, _, _, _⟩ := MBy.out.two
          go_wp2_with fail
          clear hfb2 hfb3
          refine (Pool_any _ _ _ xs hour _ (HR.out.below HBy.out (Nat.le_refl _)) (by omega)).mono ?_
          rintro e w8 ⟨Ap, np, cp, rfl, op, b8⟩
          have HBx := hide (HBy.out.trans (b8.mono HBy.out.size))
          have MBx := hide (MBy.out.keep b8 MBy.out.in_)
          have HCx := hide (HCy.out.trans (b8.mono HCy.out.size))
          have OP := hide op
          clear b8 op t0 t1
          obtain ⟨t0, t1, _, _, _⟩ := MBx.out.two
          by_cases hpe : errP xs hour = 0
          case neg =>
            have hpe' : (errP xs hour == 0) = false := by simpa using hpe
            have HBz := HBx
            have MBz := MBx
            clear OP hpe
            by_cases hmn : m = at_
            case neg =>
              have hmn' : ((m : Int) != (at_ : Int)) = true := by simp; omega
              go_wp2_with fail
              go_ret
              exact ⟨rfl, HBz.out⟩
            subst hmn
            have HN := hide fun (hf : Fall ys xs.length) => whole_le (q := Mf xs xs.length) (Mf_bd O.out) (nearest_le O.out (ys := ys) fun i hi => hf i hi)
            rw [HL.out, HP.out, HQ.out] at HN
            obtain ⟨bx, ox, hx⟩ := HR.out
            obtain ⟨by2, oy, hy⟩ := HY.out
            obtain rfl := hx.at_ (by omega)
            obtain rfl := hy.at_ (by omega)
            have RX := hide (hx.below HBz.out (Nat.le_refl _))
            have RY := hide (hy.below HBz.out (Nat.le_refl _))
            have B1 := HBz.out
            have K1 := MBz
            clear hx hy
            go_wp2_with fail
            go_loopw [29, 30] (fun s t wr => ∃ i : Nat, i ≤ m ∧ s = .int .i64 (sN xs ys i) ∧ t = .int .i64 i ∧ Hid (Fall ys i) ∧ Hid (SmallTo ys i) ∧ RowAt wr (some ⟨bx, ox, none⟩) m c xs bx ox ∧ IRowAt wr (some ⟨by2, oy, none⟩) m cc ys by2 oy ∧ Bk wr g5 26 #[.int .i64 p, .int .i64 q] ∧ Below w.heap.size w wr) (fun _ t _ => m - (intOf t).toNat)
            case atStart => exact ⟨0, Nat.zero_le _, rfl, rfl, hide fun k hk => by omega, hide fun k hk => by omega, RX.out, RY.out, K1.out, B1⟩
            case round => as_aux_lemma =>
              -- round
              obtain ⟨i, hi, rfl, rfl, hf, hs, hx, hy, hk, hbel⟩ := hrel
              have K := hide hk
              have RX2 := hide hx
              have RY2 := hide hy
              have hmc := hx.cap
              have hmx := hx.max
              have hmcc := hy.cap
              have hmy := hy.max
              have sb := sN_bd O.out (ys := ys) (k := i) (by rw [HL.out]; exact hi) hs.out
              by_cases hlt : i < m
              · obtain ⟨c1, c2⟩ := hx.cell i hlt
                have d1 := hy.cell i hlt
                have dp := hy.cell (i - 1) (by omega)
                obtain ⟨v0, v1, u0, u1⟩ := okH_get O.out (i := i) (by rw [HL.out]; exact hlt)
                have HSU := hide (sN_succ xs ys i)
                have HFA : Hid (i = 0 ∨ yI ys i ≤ yI ys (i - 1) → Fall ys (i + 1)) := hide fun h k hk' => by
                  by_cases hki : k + 1 = i
                  · rcases h with h | h
                    · omega
                    · subst hki
                      simpa using h
                  · exact hf.out k (by omega)
                have HSM : Hid (0 ≤ yI ys i ∧ yI ys i ≤ 1000 → SmallTo ys (i + 1)) := hide fun h k hk' => by
                  by_cases hki : k = i
                  · rw [hki]; exact h
                  · exact hs.out k (by omega)
                have l0 : (0 : Int) ≤ i := by omega
                have l1 : (i : Int) < m := by omega
                rw [show (xs.getD i (0, 0)).1 = vI xs i from rfl] at c1
                rw [show (xs.getD i (0, 0)).2 = wI xs i from rfl] at c2
                rw [show ys.getD i 0 = yI ys i from rfl] at d1
                rw [show ys.getD (i - 1) 0 = yI ys (i - 1) from rfl] at dp
                have HV : Hid ((xs.getD i (0, 0)).1 = vI xs i) := hide rfl
                have HU : Hid ((xs.getD i (0, 0)).2 = wI xs i) := hide rfl
                have HYI : Hid (ys.getD i 0 = yI ys i) := hide rfl
                clear hx hy hk HN
                generalize vI xs i = v at *
                generalize wI xs i = u at *
                generalize yI ys i = y at *
                generalize yI ys (i - 1) = yp at *
                generalize sN xs ys i = S at *
                go_wp2_with fail
                by_cases y0 : y < 0
                · have g1 : decide (y < 0) = true := by simpa using y0
                  go_quiet (fail)
                  go_wp2_with fail
                  go_ret
                  exact ⟨rfl, below_drewN hbel _⟩
                · have g1 : decide (y < 0) = false := by simpa using y0
                  by_cases y1 : 1000 < y
                  · have g2 : decide (1000 < y) = true := by simpa using y1
                    go_quiet (fail)
                    go_wp2_with fail
                    go_ret
                    exact ⟨rfl, below_drewN hbel _⟩
                  · have g2 : decide (1000 < y) = false := by simpa using y1
                    have SM := hide (HSM.out ⟨by omega, by omega⟩)
                    have e1 : -1000 ≤ v - y := by omega
                    have e2 : v - y ≤ 100 := by omega
                    have e3 : -9000 ≤ u * (v - y) ∧ u * (v - y) ≤ 900 := by
                      have a1 : u * (v - y) ≤ u * 100 := Int.mul_le_mul_of_nonneg_left e2 (by omega)
                      have a2 : u * (-1000) ≤ u * (v - y) := Int.mul_le_mul_of_nonneg_left e1 (by omega)
                      omega
                    have e4 : 0 ≤ u * (v - y) * (v - y) ∧ u * (v - y) * (v - y) ≤ 9000000 := by
                      have q0 : 0 ≤ (v - y) * (v - y) := by
                        rcases Int.le_total 0 (v - y) with hd | hd
                        · exact Int.mul_nonneg hd hd
                        · exact Int.mul_nonneg_of_nonpos_of_nonpos hd hd
                      have p : (v - y) * (v - y) ≤ 1000 * 1000 := by
                        rcases Int.le_total 0 (v - y) with hd | hd
                        · exact Int.mul_le_mul (by omega) (by omega) hd (by omega)
                        · have : (-(v - y)) * (-(v - y)) ≤ 1000 * 1000 := Int.mul_le_mul (by omega) (by omega) (by omega) (by omega)
                          rw [Int.neg_mul_neg] at this
                          exact this
                      rw [Int.mul_assoc]
                      have m1 : u * ((v - y) * (v - y)) ≤ 9 * (1000 * 1000) := Int.mul_le_mul (by omega) p q0 (by omega)
                      have m0 : 0 ≤ u * ((v - y) * (v - y)) := Int.mul_nonneg (by omega) q0
                      omega
                    have hw1 : IntKind.i64.wrap (v - y) = v - y := IntWalk.i64_in _ (by omega)
                    have hw2 : IntKind.i64.wrap (u * (v - y)) = u * (v - y) := IntWalk.i64_in _ (by omega)
                    have hw3 : IntKind.i64.wrap (u * (v - y) * (v - y)) = u * (v - y) * (v - y) := IntWalk.i64_in _ (by omega)
                    have hw4 : IntKind.i64.wrap (S + u * (v - y) * (v - y)) = S + u * (v - y) * (v - y) := IntWalk.i64_in _ (by omega)
                    by_cases i0 : i = 0
                    · have g0 : decide ((0 : Int) < (i : Int)) = false := by simp; omega
                      have g0' : decide (0 < i) = false := by simp; omega
                      have FA := hide (HFA.out (.inl i0))
                      clear i0
                      go_quiet (fail)
                      go_wp2_with fail
                      clear g0 g0' g1 g2
                      have hbel3 := below_drewN hbel nq
                      have RX3 := hide (RX2.out.below (below_drewN (Below.refl wr.heap.size wr) nq) (Nat.le_refl _))
                      have RY3 := hide (RY2.out.below (below_drewN (Below.refl wr.heap.size wr) nq) (Nat.le_refl _))
                      have K3 := hide (K.out.draws nq)
                      clear c1 c2 d1 dp hbel RX2 RY2 K
                      generalize wr.drewN nq = w3 at *
                      obtain ⟨c1, c2⟩ := RX3.out.cell i hlt
                      have d1 := RY3.out.cell i hlt
                      rw [HV.out] at c1
                      rw [HU.out] at c2
                      rw [HYI.out] at d1
                      go_quiet (fail)
                      go_wp2_with fail
                      go_roundw
                      case rel => exact ⟨i + 1, by omega, by rw [HSU.out], by go_num, FA, SM, RX3.out.below (below_drewN (Below.refl w3.heap.size w3) _) (Nat.le_refl _), RY3.out.below (below_drewN (Below.refl w3.heap.size w3) _) (Nat.le_refl _), K3.out.draws _, below_drewN hbel3 _⟩
                      case measure => simp [intOf]; omega
                    · have g0 : decide ((0 : Int) < (i : Int)) = true := by simp; omega
                      have g0' : decide (0 < i) = true := by simp; omega
                      have l2 : (0 : Int) ≤ (i : Int) - 1 := by omega
                      have l4 : (i : Int) - 1 < m := by omega
                      have l3 : ((i : Int) - 1).toNat = i - 1 := by omega
                      have hw0 : IntKind.i64.wrap ((i : Int) - 1) = (i : Int) - 1 := IntWalk.i64_in _ (by omega)
                      by_cases y2 : yp < y
                      · have g3 : decide (yp < y) = true := by simpa using y2
                        go_quiet (fail)
                        go_wp2_with fail
                        go_ret
                        exact ⟨rfl, below_drewN hbel _⟩
                      · have g3 : decide (yp < y) = false := by simpa using y2
                        have FA := hide (HFA.out (.inr (by omega)))
                        go_quiet (fail)
                        go_wp2_with fail
                        clear g0 g0' g1 g2 g3 hw0
                        have hbel3 := below_drewN hbel nq
                        have RX3 := hide (RX2.out.below (below_drewN (Below.refl wr.heap.size wr) nq) (Nat.le_refl _))
                        have RY3 := hide (RY2.out.below (below_drewN (Below.refl wr.heap.size wr) nq) (Nat.le_refl _))
                        have K3 := hide (K.out.draws nq)
                        clear c1 c2 d1 dp hbel RX2 RY2 K
                        generalize wr.drewN nq = w3 at *
                        obtain ⟨c1, c2⟩ := RX3.out.cell i hlt
                        have d1 := RY3.out.cell i hlt
                        rw [HV.out] at c1
                        rw [HU.out] at c2
                        rw [HYI.out] at d1
                        go_quiet (fail)
                        go_wp2_with fail
                        go_roundw
                        case rel => exact ⟨i + 1, by omega, by rw [HSU.out], by go_num, FA, SM, RX3.out.below (below_drewN (Below.refl w3.heap.size w3) _) (Nat.le_refl _), RY3.out.below (below_drewN (Below.refl w3.heap.size w3) _) (Nat.le_refl _), K3.out.draws _, below_drewN hbel3 _⟩
                        case measure => simp [intOf]; omega
              · obtain rfl : i = m := by omega
                have hfin := HN.out hf.out
                obtain ⟨k0, k1, _, _, _⟩ := hk.two
                have t0 : 0 ≤ Int.tdiv p q := Int.tdiv_nonneg (by omega) (by omega)
                have t1 : Int.tdiv p q ≤ p := by
                  rw [Int.tdiv_eq_ediv_of_nonneg (by omega)]
                  exact Int.ediv_le_self _ (by omega)
                have t2 : IntKind.i64.wrap (Int.tdiv p q) = Int.tdiv p q := IntWalk.i64_in _ (by omega)
                have t3 : ¬ q = 0 := by omega
                have t4 : (q == 0) = false := by simpa using t3
                clear hx hy hk HN RX2 RY2
                generalize sN xs ys i = S at *
                rcases hfin with hfin | ⟨hfin, hrem⟩
                · have g1 : decide (Int.tdiv p q < S) = true := by simpa using hfin
                  go_wp2_with fail
                  go_ret
                  exact ⟨rfl, hbel⟩
                · subst hfin
                  have g1 : decide (Int.tdiv p q < Int.tdiv p q) = false := by simp
                  have t5 : IntKind.i64.wrap (Int.tmod p q) = Int.tmod p q := IntWalk.i64_in _ (by omega)
                  go_wp2_with fail
                  go_ret
                  exact ⟨rfl, hbel⟩
          obtain ⟨he, hk1, hk2, hv, hd⟩ := errP_zero hpe
          have hi2 : hour.toNat + 1 < xs.length := by omega
          obtain ⟨m0, m1⟩ := mq_two_bd O.out hi2 hd
          have HEP := hide (show errH (poolK xs hour) = 0 from errH_ok (by unfold poolK; rw [poolL_len]; omega) (by unfold poolK; rw [poolL_len]; exact HLX.out) (poolL_ok O.out hi2 m0 m1))
          have HBP := hide (show best (poolK xs hour) = best xs by unfold best poolK; rw [poolL_best O.out hi2 hv hd])
          have hnp : np ≤ 1000 := by
            have := OP.out.len
            rw [if_pos hpe] at this
            unfold poolK at this
            rw [poolL_len, HL.out] at this
            omega
          rw [if_pos hpe] at OP
          rw [hpe]
          clear he hk1 hk2 hv hd hi2 m0 m1
          go_wp2_with fail
          refine (Best_any _ _ _ (poolK xs hour) _ OP.out.row hnp).mono ?_
          rintro e w9 ⟨A9, n9, c9, rfl, o9, b9⟩
          rw [HEP.out, if_pos rfl, HBP.out] at o9
          rw [HEP.out]
          have HBv := hide (HBx.out.trans (b9.mono HBx.out.size))
          have MBv := hide (MBx.out.keep b9 MBx.out.in_)
          have HCv := hide (HCx.out.trans (b9.mono HCx.out.size))
          have R9 := hide o9.row
          clear b9 o9 t0 t1 hpe
          go_wp2_with fail
          refine (SameRats_any _ _ _ (best xs) _ _ _ (best xs) _ R9.out (RL.out.below HCv.out (Nat.le_refl _))).mono ?_
          rw [eqL_self]
          rintro e w10 ⟨rfl, mm, rfl⟩
          have HBz := hide (below_drewN HBv.out mm)
          have MBz := hide (MBv.out.draws mm)
          obtain ⟨t0, t1, _, _, _⟩ := MBv.out.two
          by_cases hmn : m = at_
          case neg =>
            have hmn' : ((m : Int) != (at_ : Int)) = true := by simp; omega
            go_wp2_with fail
            go_ret
            exact ⟨rfl, HBz.out⟩
          subst hmn
          have HN := hide fun (hf : Fall ys xs.length) => whole_le (q := Mf xs xs.length) (Mf_bd O.out) (nearest_le O.out (ys := ys) fun i hi => hf i hi)
          rw [HL.out, HP.out, HQ.out] at HN
          obtain ⟨bx, ox, hx⟩ := HR.out
          obtain ⟨by2, oy, hy⟩ := HY.out
          obtain rfl := hx.at_ (by omega)
          obtain rfl := hy.at_ (by omega)
          have RX := hide (hx.below HBz.out (Nat.le_refl _))
          have RY := hide (hy.below HBz.out (Nat.le_refl _))
          have B1 := HBz.out
          have K1 := MBz
          clear hx hy
          go_wp2_with fail
          go_loopw [29, 30] (fun s t wr => ∃ i : Nat, i ≤ m ∧ s = .int .i64 (sN xs ys i) ∧ t = .int .i64 i ∧ Hid (Fall ys i) ∧ Hid (SmallTo ys i) ∧ RowAt wr (some ⟨bx, ox, none⟩) m c xs bx ox ∧ IRowAt wr (some ⟨by2, oy, none⟩) m cc ys by2 oy ∧ Bk wr g5 26 #[.int .i64 p, .int .i64 q] ∧ Below w.heap.size w wr) (fun _ t _ => m - (intOf t).toNat)
          case atStart => exact ⟨0, Nat.zero_le _, rfl, rfl, hide fun k hk => by omega, hide fun k hk => by omega, RX.out, RY.out, K1.out, B1⟩
          case round => as_aux_lemma =>
            -- round
            obtain ⟨i, hi, rfl, rfl, hf, hs, hx, hy, hk, hbel⟩ := hrel
            have K := hide hk
            have RX2 := hide hx
            have RY2 := hide hy
            have hmc := hx.cap
            have hmx := hx.max
            have hmcc := hy.cap
            have hmy := hy.max
            have sb := sN_bd O.out (ys := ys) (k := i) (by rw [HL.out]; exact hi) hs.out
            by_cases hlt : i < m
            · obtain ⟨c1, c2⟩ := hx.cell i hlt
              have d1 := hy.cell i hlt
              have dp := hy.cell (i - 1) (by omega)
              obtain ⟨v0, v1, u0, u1⟩ := okH_get O.out (i := i) (by rw [HL.out]; exact hlt)
              have HSU := hide (sN_succ xs ys i)
              have HFA : Hid (i = 0 ∨ yI ys i ≤ yI ys (i - 1) → Fall ys (i + 1)) := hide fun h k hk' => by
                by_cases hki : k + 1 = i
                · rcases h with h | h
                  · omega
                  · subst hki
                    simpa using h
                · exact hf.out k (by omega)
              have HSM : Hid (0 ≤ yI ys i ∧ yI ys i ≤ 1000 → SmallTo ys (i + 1)) := hide fun h k hk' => by
                by_cases hki : k = i
                · rw [hki]; exact h
                · exact hs.out k (by omega)
              have l0 : (0 : Int) ≤ i := by omega
              have l1 : (i : Int) < m := by omega
              rw [show (xs.getD i (0, 0)).1 = vI xs i from rfl] at c1
              rw [show (xs.getD i (0, 0)).2 = wI xs i from rfl] at c2
              rw [show ys.getD i 0 = yI ys i from rfl] at d1
              rw [show ys.getD (i - 1) 0 = yI ys (i - 1) from rfl] at dp
              have HV : Hid ((xs.getD i (0, 0)).1 = vI xs i) := hide rfl
              have HU : Hid ((xs.getD i (0, 0)).2 = wI xs i) := hide rfl
              have HYI : Hid (ys.getD i 0 = yI ys i) := hide rfl
              clear hx hy hk HN
              generalize vI xs i = v at *
              generalize wI xs i = u at *
              generalize yI ys i = y at *
              generalize yI ys (i - 1) = yp at *
              generalize sN xs ys i = S at *
              go_wp2_with fail
              by_cases y0 : y < 0
              · have g1 : decide (y < 0) = true := by simpa using y0
                go_quiet (fail)
                go_wp2_with fail
                go_ret
                exact ⟨rfl, below_drewN hbel _⟩
              · have g1 : decide (y < 0) = false := by simpa using y0
                by_cases y1 : 1000 < y
                · have g2 : decide (1000 < y) = true := by simpa using y1
                  go_quiet (fail)
                  go_wp2_with fail
                  go_ret
                  exact ⟨rfl, below_drewN hbel _⟩
                · have g2 : decide (1000 < y) = false := by simpa using y1
                  have SM := hide (HSM.out ⟨by omega, by omega⟩)
                  have e1 : -1000 ≤ v - y := by omega
                  have e2 : v - y ≤ 100 := by omega
                  have e3 : -9000 ≤ u * (v - y) ∧ u * (v - y) ≤ 900 := by
                    have a1 : u * (v - y) ≤ u * 100 := Int.mul_le_mul_of_nonneg_left e2 (by omega)
                    have a2 : u * (-1000) ≤ u * (v - y) := Int.mul_le_mul_of_nonneg_left e1 (by omega)
                    omega
                  have e4 : 0 ≤ u * (v - y) * (v - y) ∧ u * (v - y) * (v - y) ≤ 9000000 := by
                    have q0 : 0 ≤ (v - y) * (v - y) := by
                      rcases Int.le_total 0 (v - y) with hd | hd
                      · exact Int.mul_nonneg hd hd
                      · exact Int.mul_nonneg_of_nonpos_of_nonpos hd hd
                    have p : (v - y) * (v - y) ≤ 1000 * 1000 := by
                      rcases Int.le_total 0 (v - y) with hd | hd
                      · exact Int.mul_le_mul (by omega) (by omega) hd (by omega)
                      · have : (-(v - y)) * (-(v - y)) ≤ 1000 * 1000 := Int.mul_le_mul (by omega) (by omega) (by omega) (by omega)
                        rw [Int.neg_mul_neg] at this
                        exact this
                    rw [Int.mul_assoc]
                    have m1 : u * ((v - y) * (v - y)) ≤ 9 * (1000 * 1000) := Int.mul_le_mul (by omega) p q0 (by omega)
                    have m0 : 0 ≤ u * ((v - y) * (v - y)) := Int.mul_nonneg (by omega) q0
                    omega
                  have hw1 : IntKind.i64.wrap (v - y) = v - y := IntWalk.i64_in _ (by omega)
                  have hw2 : IntKind.i64.wrap (u * (v - y)) = u * (v - y) := IntWalk.i64_in _ (by omega)
                  have hw3 : IntKind.i64.wrap (u * (v - y) * (v - y)) = u * (v - y) * (v - y) := IntWalk.i64_in _ (by omega)
                  have hw4 : IntKind.i64.wrap (S + u * (v - y) * (v - y)) = S + u * (v - y) * (v - y) := IntWalk.i64_in _ (by omega)
                  by_cases i0 : i = 0
                  · have g0 : decide ((0 : Int) < (i : Int)) = false := by simp; omega
                    have g0' : decide (0 < i) = false := by simp; omega
                    have FA := hide (HFA.out (.inl i0))
                    clear i0
                    go_quiet (fail)
                    go_wp2_with fail
                    clear g0 g0' g1 g2
                    have hbel3 := below_drewN hbel nq
                    have RX3 := hide (RX2.out.below (below_drewN (Below.refl wr.heap.size wr) nq) (Nat.le_refl _))
                    have RY3 := hide (RY2.out.below (below_drewN (Below.refl wr.heap.size wr) nq) (Nat.le_refl _))
                    have K3 := hide (K.out.draws nq)
                    clear c1 c2 d1 dp hbel RX2 RY2 K
                    generalize wr.drewN nq = w3 at *
                    obtain ⟨c1, c2⟩ := RX3.out.cell i hlt
                    have d1 := RY3.out.cell i hlt
                    rw [HV.out] at c1
                    rw [HU.out] at c2
                    rw [HYI.out] at d1
                    go_quiet (fail)
                    go_wp2_with fail
                    go_roundw
                    case rel => exact ⟨i + 1, by omega, by rw [HSU.out], by go_num, FA, SM, RX3.out.below (below_drewN (Below.refl w3.heap.size w3) _) (Nat.le_refl _), RY3.out.below (below_drewN (Below.refl w3.heap.size w3) _) (Nat.le_refl _), K3.out.draws _, below_drewN hbel3 _⟩
                    case measure => simp [intOf]; omega
                  · have g0 : decide ((0 : Int) < (i : Int)) = true := by simp; omega
                    have g0' : decide (0 < i) = true := by simp; omega
                    have l2 : (0 : Int) ≤ (i : Int) - 1 := by omega
                    have l4 : (i : Int) - 1 < m := by omega
                    have l3 : ((i : Int) - 1).toNat = i - 1 := by omega
                    have hw0 : IntKind.i64.wrap ((i : Int) - 1) = (i : Int) - 1 := IntWalk.i64_in _ (by omega)
                    by_cases y2 : yp < y
                    · have g3 : decide (yp < y) = true := by simpa using y2
                      go_quiet (fail)
                      go_wp2_with fail
                      go_ret
                      exact ⟨rfl, below_drewN hbel _⟩
                    · have g3 : decide (yp < y) = false := by simpa using y2
                      have FA := hide (HFA.out (.inr (by omega)))
                      go_quiet (fail)
                      go_wp2_with fail
                      clear g0 g0' g1 g2 g3 hw0
                      have hbel3 := below_drewN hbel nq
                      have RX3 := hide (RX2.out.below (below_drewN (Below.refl wr.heap.size wr) nq) (Nat.le_refl _))
                      have RY3 := hide (RY2.out.below (below_drewN (Below.refl wr.heap.size wr) nq) (Nat.le_refl _))
                      have K3 := hide (K.out.draws nq)
                      clear c1 c2 d1 dp hbel RX2 RY2 K
                      generalize wr.drewN nq = w3 at *
                      obtain ⟨c1, c2⟩ := RX3.out.cell i hlt
                      have d1 := RY3.out.cell i hlt
                      rw [HV.out] at c1
                      rw [HU.out] at c2
                      rw [HYI.out] at d1
                      go_quiet (fail)
                      go_wp2_with fail
                      go_roundw
                      case rel => exact ⟨i + 1, by omega, by rw [HSU.out], by go_num, FA, SM, RX3.out.below (below_drewN (Below.refl w3.heap.size w3) _) (Nat.le_refl _), RY3.out.below (below_drewN (Below.refl w3.heap.size w3) _) (Nat.le_refl _), K3.out.draws _, below_drewN hbel3 _⟩
                      case measure => simp [intOf]; omega
            · obtain rfl : i = m := by omega
              have hfin := HN.out hf.out
              obtain ⟨k0, k1, _, _, _⟩ := hk.two
              have t0 : 0 ≤ Int.tdiv p q := Int.tdiv_nonneg (by omega) (by omega)
              have t1 : Int.tdiv p q ≤ p := by
                rw [Int.tdiv_eq_ediv_of_nonneg (by omega)]
                exact Int.ediv_le_self _ (by omega)
              have t2 : IntKind.i64.wrap (Int.tdiv p q) = Int.tdiv p q := IntWalk.i64_in _ (by omega)
              have t3 : ¬ q = 0 := by omega
              have t4 : (q == 0) = false := by simpa using t3
              clear hx hy hk HN RX2 RY2
              generalize sN xs ys i = S at *
              rcases hfin with hfin | ⟨hfin, hrem⟩
              · have g1 : decide (Int.tdiv p q < S) = true := by simpa using hfin
                go_wp2_with fail
                go_ret
                exact ⟨rfl, hbel⟩
              · subst hfin
                have g1 : decide (Int.tdiv p q < Int.tdiv p q) = false := by simp
                have t5 : IntKind.i64.wrap (Int.tmod p q) = Int.tmod p q := IntWalk.i64_in _ (by omega)
                go_wp2_with fail
                go_ret
                exact ⟨rfl, hbel⟩

end Go.Proofs.Ytlmmkaadoicogaa
