/- Walks: which tables grow slowly, the document. -/
import Derived.Test.YtndfdminjegldaaWalkX
import Derived.Test.YtndfdminjegldaaWalkP
namespace Go.Proofs.Ytndfdminjegldaa
open Go.RowKit Go.Shelf
attribute [local go_sem] Oper.semAt_some

def bad1 (T : Tbl) (c : Cst) (r k : Nat) : Prop := (0 < r ∧ tv T (r - 1) k + c.o < tv T r k) ∨ (0 < k ∧ tv T r (k - 1) + c.i < tv T r k)
def bad2 (l m : List Int) (T : Tbl) (c : Cst) (r k : Nat) : Prop := 0 < r ∧ 0 < k ∧ tv T (r - 1) (k - 1) + chg c (l.getD (r - 1) 0) (m.getD (k - 1) 0) < tv T r k
instance (T : Tbl) (c : Cst) (r k : Nat) : Decidable (bad1 T c r k) := by unfold bad1; infer_instance
instance (l m : List Int) (T : Tbl) (c : Cst) (r k : Nat) : Decidable (bad2 l m T c r k) := by unfold bad2; infer_instance
theorem okG_bad {l m : List Int} {c : Cst} {T : Tbl} {r k : Nat} (h1 : ¬ bad1 T c r k) (h2 : ¬ bad2 l m T c r k) : okG l m c T r k := by
  rw [okG_iff]
  unfold bad1 at h1
  unfold bad2 at h2
  exact ⟨fun hr => by omega, fun hk => by omega, fun hr hk => by omega⟩
theorem bad_no {l m : List Int} {c : Cst} {T : Tbl} {r k : Nat} (hr : r ≤ l.length) (hk : k ≤ m.length) (h : bad1 T c r k ∨ bad2 l m T c r k) : ¬ Grw l m c T := fun hg => by
  have := hg.2 r k (by omega) (.inl (by omega))
  rw [okG_iff] at this
  obtain ⟨a1, a2, a3⟩ := this
  rcases h with (⟨h0, h⟩ | ⟨h0, h⟩) | ⟨h0, h0', h⟩
  · have := a1 h0; omega
  · have := a2 h0; omega
  · have := a3 h0 h0'; omega
theorem dec_t {p : Prop} [Decidable p] (h : p) : Value.bool true = .bool (decide p) := by rw [decide_eq_true h]
theorem dec_f {p : Prop} [Decidable p] (h : ¬ p) : Value.bool false = .bool (decide p) := by rw [decide_eq_false h]
set_option maxRecDepth 100000 in
set_option maxHeartbeats 16000000 in
theorem rCheckTable_any (A : Option Addr) (n c : Nat) (xs : List Int) (A' : Option Addr) (n' c' : Nat) (ys : List Int) (o i h : Int) (At : Option Addr) (nt ct : Nat) (T : Tbl) (w : World) (hx : R E1 w A n c xs) (hy : R E1 w A' n' c' ys) (hT : RR w At nt ct T) :
    Calls Try.prog 34 #[.slice A n c, .slice A' n' c', cV o i h, .slice At nt ct] w fun e w' => e = .returned (.tuple #[.int .i64 (valG xs ys ⟨o, i, h⟩ T), .int .i64 (errG xs ys ⟨o, i, h⟩ T)]) ∧ Below w.heap.size w w' := by
  have BX := hide ((Below.refl w.heap.size w).alloc (Nat.le_refl _) (.cells #[.int .i64 o, .int .i64 i, .int .i64 h] 24))
  have HBK := hide (Bk.born w 24 #[.int .i64 o, .int .i64 i, .int .i64 h])
  have HX := hide (hx.below BX.out (Nat.le_refl _))
  have HY := hide (hy.below BX.out (Nat.le_refl _))
  have HT := hide (hT.below BX.out)
  have HLX := hide hx.length
  have HLY := hide hy.length
  have HLT := hide (rr_le hT).2
  have hlet := (rr_le hT).1
  have hz : w.heap.size < (w.alloc (.cells #[.int .i64 o, .int .i64 i, .int .i64 h] 24)).heap.size := by simp
  by_cases he : errD xs ys ⟨o, i, h⟩ = 0
  · have HE := hide he
    obtain ⟨h1, h2, h3⟩ := errD_ok.1 he
    have hn : n ≤ 10 := by rw [← hx.length]; exact (errL_ok.1 h1).1
    have hn' : n' ≤ 10 := by rw [← hy.length]; exact (errL_ok.1 h2).1
    have HC := hide h3
    obtain ⟨ho, hi, hh⟩ := h3
    simp only at ho hi hh
    have HNS := hide (fun (hs : ¬ Shp (n + 1) (n' + 1) T) => show errG xs ys ⟨o, i, h⟩ T = 1 ∧ valG xs ys ⟨o, i, h⟩ T = 0 from by
      have h0 := errG_sh (T := T) he (by rw [HLX.out, HLY.out]; exact hs)
      exact ⟨h0, valG_no (by rw [h0]; decide)⟩)
    have HNG := hide (fun (hs : Shp (n + 1) (n' + 1) T) (hg : ¬ Grw xs ys ⟨o, i, h⟩ T) => show errG xs ys ⟨o, i, h⟩ T = 7 ∧ valG xs ys ⟨o, i, h⟩ T = 0 from by
      have h0 := errG_gr (T := T) he (by rw [HLX.out, HLY.out]; exact hs) hg
      exact ⟨h0, valG_no (by rw [h0]; decide)⟩)
    have HYG := hide (fun (hs : Shp (n + 1) (n' + 1) T) (hg : Grw xs ys ⟨o, i, h⟩ T) => show errG xs ys ⟨o, i, h⟩ T = 0 ∧ valG xs ys ⟨o, i, h⟩ T = tv T n n' from by
      have h0 := errG_ok (T := T) he (by rw [HLX.out, HLY.out]; exact hs) hg
      exact ⟨h0, by rw [valG_ok h0, HLX.out, HLY.out]⟩)
    clear hx hy hT he h1 h2
    by_cases hnt : nt = n + 1
    · subst hnt
      obtain ⟨bt, ot, rfl, hct, hmt⟩ := rr_some HT.out (by omega)
      have hwn : IntKind.i64.wrap ((n : Int) + 1) = (n : Int) + 1 := IntWalk.i64_in _ (by omega)
      go_enter Try.func34, Try.ntmps34
      go_wp2_with (go_at_call 57; refine (rcosted_any A n c xs A' n' c' ys o i h _ HX.out HY.out).mono ?_; rintro e1 w1 ⟨rfl, b1⟩; rw [HE.out]; have B1 := hide b1; clear b1)
      have BW := hide (BX.out.trans (B1.out.mono (Nat.le_of_lt hz)))
      have HX1 := hide (HX.out.below B1.out (Nat.le_refl _))
      have HY1 := hide (HY.out.below B1.out (Nat.le_refl _))
      have HT1 := hide (HT.out.below B1.out)
      have HBK1 := hide (HBK.out.keep B1.out hz)
      have hz1 : w.heap.size < w1.heap.size := Nat.lt_of_lt_of_le hz B1.out.size
      clear HX HY HT HBK BX B1 hz
      go_loopw [11] (fun a11 wr => ∃ t : Nat, t ≤ n + 1 ∧ a11 = .int .i64 t ∧ Hid (ShTo (n' + 1) T t) ∧ w1 = wr) (fun a11 _ => n + 1 - (intOf a11).toNat)
      case atStart => exact ⟨0, Nat.zero_le _, rfl, hide (fun r hr => by omega), rfl⟩
      case round =>
        obtain ⟨t, ht, rfl, HS, rfl⟩ := hrel
        by_cases hlt : t < n + 1
        · have htn : (t : Int) < (n : Int) + 1 := by omega
          obtain ⟨hbt, Ar, nr, cr, hcell, hrow⟩ := rr_at HT1.out hlt
          have hlr := hrow.length
          have HROW := hide hrow
          have hler := hrow.le
          have HNO := hide (fun (hb : ¬ ShR (n' + 1) (T.getD t [])) => HNS.out (fun hs => hb (hs.2 t hlt)))
          have HSU := hide (fun (hb : ShR (n' + 1) (T.getD t [])) => sh_succ HS.out hb)
          clear hrow
          by_cases hm : nr = n' + 1
          · subst hm
            go_wp2_with fail
            go_loopw [12] (fun a12 wr => ∃ s : Nat, s ≤ n' + 1 ∧ a12 = .int .i64 s ∧ Hid (∀ k, k < s → -1000 ≤ (T.getD t []).getD k 0 ∧ (T.getD t []).getD k 0 ≤ 1000) ∧ w1 = wr) (fun a12 _ => n' + 1 - (intOf a12).toNat)
            case atStart => exact ⟨0, Nat.zero_le _, rfl, hide (fun k hk => by omega), rfl⟩
            case round =>
              obtain ⟨s, hs, rfl, HA, rfl⟩ := hrel
              by_cases hls : s < n' + 1
              · have hsn : (s : Int) < (n' : Int) + 1 := by omega
                obtain ⟨br, offr, hrr⟩ := HROW.out
                obtain rfl := hrr.at_ (by omega)
                have hbr := hrr.lt (by omega)
                have cv := c1 hrr hls
                have HAS := hide (fun (hb : -1000 ≤ (T.getD t []).getD s 0 ∧ (T.getD t []).getD s 0 ≤ 1000) => show ∀ k, k < s + 1 → -1000 ≤ (T.getD t []).getD k 0 ∧ (T.getD t []).getD k 0 ≤ 1000 from fun k hk => by
                  by_cases e : k = s
                  · rw [e]; exact hb
                  · exact HA.out k (by omega))
                have HAN := hide (fun (hb : ¬ (-1000 ≤ (T.getD t []).getD s 0 ∧ (T.getD t []).getD s 0 ≤ 1000)) => HNO.out (fun hs => hb (hs.2 s hls)))
                clear hrr HA
                generalize hV : (T.getD t []).getD s 0 = V at *
                clear hV
                rcases withinB_dec V (-1000) 1000 with ⟨q1, q1'⟩ | ⟨q1, q1'⟩
                · have Q1 := hide q1
                  have HA2 := hide (HAS.out q1')
                  clear q1 q1' HAS HAN
                  go_wp2_with (go_at_call 58; refine (within_any V (-1000) 1000 _).mono ?_; rintro e2 w2 ⟨rfl, rfl⟩; rw [Q1.out])
                  go_roundw
                  case rel => exact ⟨s + 1, by omega, by go_num, HA2, by trivial⟩
                  case measure => simp [intOf]; omega
                · have Q1 := hide q1
                  have HK := hide (HAN.out q1')
                  clear q1 q1' HAS HAN
                  go_wp2_with (go_at_call 58; refine (within_any V (-1000) 1000 _).mono ?_; rintro e2 w2 ⟨rfl, rfl⟩; rw [Q1.out])
                  go_ret2
                  exact ⟨by rw [HK.out.1, HK.out.2]; rfl, BW.out⟩
              · obtain rfl : s = n' + 1 := by omega
                have HS2 := hide (HSU.out ⟨hlr, HA.out⟩)
                go_wp2_with fail
                go_roundw
                case rel => exact ⟨t + 1, by omega, by go_num, HS2, by trivial⟩
                case measure => simp [intOf]; omega
          · have HK := hide (HNO.out (fun hs => hm (by rw [← hlr]; exact hs.1)))
            have hmi : ¬ (nr : Int) = (n' : Int) + 1 := by omega
            clear hm
            go_wp2_with fail
            go_ret2
            exact ⟨by rw [HK.out.1, HK.out.2]; rfl, BW.out⟩
        · obtain rfl : t = n + 1 := by omega
          have HSH := hide (show Shp (n + 1) (n' + 1) T from ⟨HLT.out, HS.out⟩)
          obtain ⟨hb0, _, b0, off0, c0, m1, m2, hb2, hc2, hc3⟩ := row_at HT1.out HSH.out (by omega) (r := 0) (by omega)
          have m3 := m2 0 (by omega)
          rw [Nat.add_zero] at m1 m3
          clear m2 HS
          by_cases h00 : tv T 0 0 = 0
          · have H00 := hide h00
            rw [h00] at m3
            clear h00
            go_wp2_with fail
            clear m1 m3 hb2 hc2 hc3 hb0
            go_loopw [13] (fun a13 wr => ∃ t : Nat, t ≤ n + 1 ∧ a13 = .int .i64 t ∧ Hid (GrTo xs ys ⟨o, i, h⟩ T (n' + 1) t 0) ∧ Hid (Below w1.heap.size w1 wr)) (fun a13 _ => n + 1 - (intOf a13).toNat)
            case atStart => exact ⟨0, Nat.zero_le _, rfl, hide gr_start, hide (Below.refl _ _)⟩
            case round =>
              obtain ⟨t, ht, rfl, HG, HB⟩ := hrel
              by_cases hlt : t < n + 1
              · have htn : (t : Int) < (n : Int) + 1 := by omega
                obtain ⟨hbw, _, br, offr, cr, m1, m2, hbr, hcr, hcr3⟩ := row_at HT1.out HSH.out (by omega) hlt
                have HM1 := hide m1
                have HM2 := hide m2
                clear m1 m2
                go_wp2_with fail
                go_loopg [14] (n' + 1) (fun gg a14 wr => ∃ s : Nat, s ≤ n' + 1 ∧ a14 = .int .i64 s ∧ n' + 1 - s ≤ gg ∧ Hid (GrTo xs ys ⟨o, i, h⟩ T (n' + 1) t s) ∧ Hid (Below w1.heap.size w1 wr))
                case atStart => exact ⟨0, Nat.zero_le _, rfl, by omega, HG, HB⟩
                case round =>
                  clear HG HB
                  obtain ⟨s, hs, rfl, hgg, HG, HB⟩ := hrel
                  have n1 := (HB.out.cell (p := ⟨bt, ot + t, none⟩) hbw).trans HM1.out
                  by_cases hls : s < n' + 1
                  · have hsn : (s : Int) < (n' : Int) + 1 := by omega
                    have n2 := (HB.out.cell (p := ⟨br, offr + s, none⟩) hbr).trans (HM2.out s hls)
                    have tb := tv_bd HSH.out hlt hls
                    have hbtw : bt < wr.heap.size := Nat.lt_of_lt_of_le hbw HB.out.size
                    have hbrw : br < wr.heap.size := Nat.lt_of_lt_of_le hbr HB.out.size
                    have hzw : w.heap.size < wr.heap.size := Nat.lt_of_lt_of_le hz1 HB.out.size
                    have HFA := hide (fun (hb : bad1 T ⟨o, i, h⟩ t s ∨ bad2 xs ys T ⟨o, i, h⟩ t s) => HNG.out HSH.out (bad_no (by rw [HLX.out]; omega) (by rw [HLY.out]; omega) hb))
                    have HSU := hide (fun (hb1 : ¬ bad1 T ⟨o, i, h⟩ t s) (hb2 : ¬ bad2 xs ys T ⟨o, i, h⟩ t s) => gr_succ HG.out (okG_bad hb1 hb2))
                    go_wp2_with fail
                    go_upto_region 24 with fail
                    go_cut [129] from 73 to 167 (fun a129 wx => a129 = .bool (decide (bad1 T ⟨o, i, h⟩ t s)) ∧ Hid (Below w1.heap.size w1 wx))
                    case first =>
                      have k0 := (HBK1.out.keep HB.out hz1).at_ 0
                      have k1 := (HBK1.out.keep HB.out hz1).at_ 1
                      simp at k0 k1
                      rcases Nat.eq_zero_or_pos t with t0 | t0
                      · subst t0
                        rw [Nat.add_zero] at n1
                        rcases Nat.eq_zero_or_pos s with s0 | s0
                        · subst s0
                          have HD := hide (show ¬ bad1 T ⟨o, i, h⟩ 0 0 from by unfold bad1; omega)
                          go_wp2_with fail
                          go_quiet (fail)
                          go_wp2_with fail
                          go_meet
                          exact ⟨dec_f HD.out, hide (below_drewN HB.out _)⟩
                        · obtain ⟨k, rfl⟩ : ∃ k, s = k + 1 := ⟨s - 1, by omega⟩
                          have k0 : (0 : Int) ≤ (k : Int) := by omega
                          have k1 : (0 : Int) < (k : Int) + 1 := by omega
                          have k2 : ((k : Int) + 1).toNat = k + 1 := by omega
                          have k3 : (0 : Int) ≤ (k : Int) + 1 := by omega
                          have k4 : (k : Int) + 1 < (n' : Int) + 1 := by omega
                          have k5 : IntKind.i64.wrap ((k : Int) + 1 - 1) = (k : Int) := by rw [Int.add_sub_cancel]; exact IntWalk.i64_in _ (by omega)
                          have k6 : (k : Int) < (n' : Int) + 1 := by omega
                          have k7 : (k : Int) < (n' : Int) := by omega
                          have k8 : IntKind.i64.wrap (k : Int) = (k : Int) := IntWalk.i64_in _ (by omega)
                          have k9 : k < n' := by omega
                          have k10 : k < n' + 1 := by omega
                          have v2 := (HB.out.cell (p := ⟨br, offr + k, none⟩) hbr).trans (HM2.out k (by omega))
                          have tb2 := tv_bd HSH.out (r := 0) (k := k) (by omega) (by omega)
                          by_cases hq : tv T 0 k + i < tv T 0 (k + 1)
                          · have HD := hide (show bad1 T ⟨o, i, h⟩ 0 (k + 1) from .inr ⟨by omega, hq⟩)
                            generalize tv T 0 k = y at *
                            generalize tv T 0 (k + 1) = V at *
                            have wy : IntKind.i64.wrap (y + i) = y + i := IntWalk.i64_in _ (by omega)
                            go_wp2_with fail
                            go_quiet (fail)
                            go_wp2_with fail
                            go_meet
                            exact ⟨dec_t HD.out, hide (below_drewN HB.out _)⟩
                          · have HD := hide (show ¬ bad1 T ⟨o, i, h⟩ 0 (k + 1) from by unfold bad1; rw [Nat.add_sub_cancel]; dsimp only; omega)
                            have hqb : decide (tv T 0 k + i < tv T 0 (k + 1)) = false := decide_eq_false hq
                            clear hq
                            generalize tv T 0 k = y at *
                            generalize tv T 0 (k + 1) = V at *
                            have wy : IntKind.i64.wrap (y + i) = y + i := IntWalk.i64_in _ (by omega)
                            go_wp2_with fail
                            go_quiet (fail)
                            go_wp2_with fail
                            go_meet
                            exact ⟨dec_f HD.out, hide (below_drewN HB.out _)⟩
                      · obtain ⟨r, rfl⟩ : ∃ r, t = r + 1 := ⟨t - 1, by omega⟩
                        have r0 : (0 : Int) ≤ (r : Int) := by omega
                        have r1 : (0 : Int) < (r : Int) + 1 := by omega
                        have r2 : ((r : Int) + 1).toNat = r + 1 := by omega
                        have r3 : (0 : Int) ≤ (r : Int) + 1 := by omega
                        have r4 : (r : Int) + 1 < (n : Int) + 1 := by omega
                        have r5 : IntKind.i64.wrap ((r : Int) + 1 - 1) = (r : Int) := by rw [Int.add_sub_cancel]; exact IntWalk.i64_in _ (by omega)
                        have r6 : (r : Int) < (n : Int) + 1 := by omega
                        have r7 : (r : Int) < (n : Int) := by omega
                        have r8 : IntKind.i64.wrap (r : Int) = (r : Int) := IntWalk.i64_in _ (by omega)
                        have r9 : r < n := by omega
                        have r10 : r < n + 1 := by omega
                        obtain ⟨_, _, b1', off1, c1', p1, p2, hb1', hc1', hc13⟩ := row_at HT1.out HSH.out (by omega) (r := r) (by omega)
                        have u1 := (HB.out.cell (p := ⟨bt, ot + r, none⟩) hbw).trans p1
                        have u2 := (HB.out.cell (p := ⟨b1', off1 + s, none⟩) hb1').trans (p2 s (by omega))
                        have tb1 := tv_bd HSH.out (r := r) (k := s) (by omega) (by omega)
                        clear p1 p2
                        by_cases hq : tv T r s + o < tv T (r + 1) s
                        · have HD := hide (show bad1 T ⟨o, i, h⟩ (r + 1) s from .inl ⟨by omega, hq⟩)
                          generalize tv T r s = x at *
                          generalize tv T (r + 1) s = V at *
                          have wx : IntKind.i64.wrap (x + o) = x + o := IntWalk.i64_in _ (by omega)
                          go_wp2_with fail
                          go_quiet (fail)
                          go_wp2_with fail
                          go_meet
                          exact ⟨dec_t HD.out, hide (below_drewN HB.out _)⟩
                        · have hq2 : tv T (r + 1) s ≤ tv T r s + o := by omega
                          rcases Nat.eq_zero_or_pos s with s0 | s0
                          · subst s0
                            rw [Nat.add_zero] at n2 u2
                            have HD := hide (show ¬ bad1 T ⟨o, i, h⟩ (r + 1) 0 from by unfold bad1; rw [Nat.add_sub_cancel]; dsimp only; omega)
                            have hqb : decide (tv T r 0 + o < tv T (r + 1) 0) = false := decide_eq_false hq
                            clear hq hq2
                            generalize tv T r 0 = x at *
                            generalize tv T (r + 1) 0 = V at *
                            have wx : IntKind.i64.wrap (x + o) = x + o := IntWalk.i64_in _ (by omega)
                            go_wp2_with fail
                            go_quiet (fail)
                            go_wp2_with fail
                            go_meet
                            exact ⟨dec_f HD.out, hide (below_drewN HB.out _)⟩
                          · obtain ⟨k, rfl⟩ : ∃ k, s = k + 1 := ⟨s - 1, by omega⟩
                            have k0 : (0 : Int) ≤ (k : Int) := by omega
                            have k1 : (0 : Int) < (k : Int) + 1 := by omega
                            have k2 : ((k : Int) + 1).toNat = k + 1 := by omega
                            have k3 : (0 : Int) ≤ (k : Int) + 1 := by omega
                            have k4 : (k : Int) + 1 < (n' : Int) + 1 := by omega
                            have k5 : IntKind.i64.wrap ((k : Int) + 1 - 1) = (k : Int) := by rw [Int.add_sub_cancel]; exact IntWalk.i64_in _ (by omega)
                            have k6 : (k : Int) < (n' : Int) + 1 := by omega
                            have k7 : (k : Int) < (n' : Int) := by omega
                            have k8 : IntKind.i64.wrap (k : Int) = (k : Int) := IntWalk.i64_in _ (by omega)
                            have k9 : k < n' := by omega
                            have k10 : k < n' + 1 := by omega
                            have v2 := (HB.out.cell (p := ⟨br, offr + k, none⟩) hbr).trans (HM2.out k (by omega))
                            have tb2 := tv_bd HSH.out (r := r + 1) (k := k) (by omega) (by omega)
                            by_cases hp : tv T (r + 1) k + i < tv T (r + 1) (k + 1)
                            · have HD := hide (show bad1 T ⟨o, i, h⟩ (r + 1) (k + 1) from .inr ⟨by omega, hp⟩)
                              have hqb : decide (tv T r (k + 1) + o < tv T (r + 1) (k + 1)) = false := decide_eq_false hq
                              clear hq hq2
                              generalize tv T r (k + 1) = x at *
                              generalize tv T (r + 1) k = y at *
                              generalize tv T (r + 1) (k + 1) = V at *
                              have wx : IntKind.i64.wrap (x + o) = x + o := IntWalk.i64_in _ (by omega)
                              have wy : IntKind.i64.wrap (y + i) = y + i := IntWalk.i64_in _ (by omega)
                              go_wp2_with fail
                              go_quiet (fail)
                              go_wp2_with fail
                              go_meet
                              exact ⟨dec_t HD.out, hide (below_drewN HB.out _)⟩
                            · have HD := hide (show ¬ bad1 T ⟨o, i, h⟩ (r + 1) (k + 1) from by unfold bad1; rw [Nat.add_sub_cancel, Nat.add_sub_cancel]; dsimp only; omega)
                              have hqb : decide (tv T r (k + 1) + o < tv T (r + 1) (k + 1)) = false := decide_eq_false hq
                              have hpb : decide (tv T (r + 1) k + i < tv T (r + 1) (k + 1)) = false := decide_eq_false hp
                              clear hq hp hq2
                              generalize tv T r (k + 1) = x at *
                              generalize tv T (r + 1) k = y at *
                              generalize tv T (r + 1) (k + 1) = V at *
                              have wx : IntKind.i64.wrap (x + o) = x + o := IntWalk.i64_in _ (by omega)
                              have wy : IntKind.i64.wrap (y + i) = y + i := IntWalk.i64_in _ (by omega)
                              go_wp2_with fail
                              go_quiet (fail)
                              go_wp2_with fail
                              go_meet
                              exact ⟨dec_f HD.out, hide (below_drewN HB.out _)⟩
                    case rest =>
                    obtain ⟨rfl, HB2⟩ := hcut
                    by_cases hbad : bad1 T ⟨o, i, h⟩ t s
                    · have HK := hide (HFA.out (.inl hbad))
                      have hdb : decide (bad1 T ⟨o, i, h⟩ t s) = true := decide_eq_true hbad
                      rw [hdb]
                      clear hbad hdb HB n1 n2
                      go_wp2_with fail
                      go_ret2
                      exact ⟨by rw [HK.out.1, HK.out.2]; rfl, BW.out.trans (HB2.out.mono (Nat.le_of_lt hz1))⟩
                    · have HB1 := hide hbad
                      have hdb : decide (bad1 T ⟨o, i, h⟩ t s) = false := decide_eq_false hbad
                      rw [hdb]
                      clear hbad hdb HB n1 n2
                      go_upto_region 26 with fail
                      go_cut [167] from 73 to 167 (fun a167 wx => a167 = .bool (decide (bad2 xs ys T ⟨o, i, h⟩ t s)) ∧ Hid (Below w1.heap.size w1 wx))
                      case first =>
                        rcases Nat.eq_zero_or_pos t with t0 | t0
                        · subst t0
                          have HD := hide (show ¬ bad2 xs ys T ⟨o, i, h⟩ 0 s from by unfold bad2; omega)
                          go_wp2_with fail
                          go_quiet (fail)
                          go_wp2_with fail
                          go_meet
                          exact ⟨dec_f HD.out, hide (below_drewN HB2.out _)⟩
                        · rcases Nat.eq_zero_or_pos s with s0 | s0
                          · subst s0
                            have HD := hide (show ¬ bad2 xs ys T ⟨o, i, h⟩ t 0 from by unfold bad2; omega)
                            have t1' : (0 : Int) < (t : Int) := by omega
                            go_wp2_with fail
                            go_quiet (fail)
                            go_wp2_with fail
                            go_meet
                            exact ⟨dec_f HD.out, hide (below_drewN HB2.out _)⟩
                          · obtain ⟨r, rfl⟩ : ∃ r, t = r + 1 := ⟨t - 1, by omega⟩
                            have r0 : (0 : Int) ≤ (r : Int) := by omega
                            have r1 : (0 : Int) < (r : Int) + 1 := by omega
                            have r2 : ((r : Int) + 1).toNat = r + 1 := by omega
                            have r3 : (0 : Int) ≤ (r : Int) + 1 := by omega
                            have r4 : (r : Int) + 1 < (n : Int) + 1 := by omega
                            have r5 : IntKind.i64.wrap ((r : Int) + 1 - 1) = (r : Int) := by rw [Int.add_sub_cancel]; exact IntWalk.i64_in _ (by omega)
                            have r6 : (r : Int) < (n : Int) + 1 := by omega
                            have r7 : (r : Int) < (n : Int) := by omega
                            have r8 : IntKind.i64.wrap (r : Int) = (r : Int) := IntWalk.i64_in _ (by omega)
                            have r9 : r < n := by omega
                            have r10 : r < n + 1 := by omega
                            obtain ⟨k, rfl⟩ : ∃ k, s = k + 1 := ⟨s - 1, by omega⟩
                            have k0 : (0 : Int) ≤ (k : Int) := by omega
                            have k1 : (0 : Int) < (k : Int) + 1 := by omega
                            have k2 : ((k : Int) + 1).toNat = k + 1 := by omega
                            have k3 : (0 : Int) ≤ (k : Int) + 1 := by omega
                            have k4 : (k : Int) + 1 < (n' : Int) + 1 := by omega
                            have k5 : IntKind.i64.wrap ((k : Int) + 1 - 1) = (k : Int) := by rw [Int.add_sub_cancel]; exact IntWalk.i64_in _ (by omega)
                            have k6 : (k : Int) < (n' : Int) + 1 := by omega
                            have k7 : (k : Int) < (n' : Int) := by omega
                            have k8 : IntKind.i64.wrap (k : Int) = (k : Int) := IntWalk.i64_in _ (by omega)
                            have k9 : k < n' := by omega
                            have k10 : k < n' + 1 := by omega
                            obtain ⟨_, _, b1', off1, c1', p1, p2, hb1', hc1', hc13⟩ := row_at HT1.out HSH.out (by omega) (r := r) (by omega)
                            have u1 := (HB2.out.cell (p := ⟨bt, ot + r, none⟩) hbw).trans p1
                            have u2 := (HB2.out.cell (p := ⟨b1', off1 + k, none⟩) hb1').trans (p2 k (by omega))
                            have tb1 := tv_bd HSH.out (r := r) (k := k) (by omega) (by omega)
                            clear p1 p2
                            have n1 := (HB2.out.cell (p := ⟨bt, ot + (r + 1), none⟩) hbw).trans HM1.out
                            have n2 := (HB2.out.cell (p := ⟨br, offr + (k + 1), none⟩) hbr).trans (HM2.out (k + 1) hls)
                            have hbtw2 : bt < wc.heap.size := Nat.lt_of_lt_of_le hbw HB2.out.size
                            have hbrw2 : br < wc.heap.size := Nat.lt_of_lt_of_le hbr HB2.out.size
                            have hb1w : b1' < wc.heap.size := Nat.lt_of_lt_of_le hb1' HB2.out.size
                            have hzw2 : w.heap.size < wc.heap.size := Nat.lt_of_lt_of_le hz1 HB2.out.size
                            have kk0 := (HBK1.out.keep HB2.out hz1).at_ 0
                            have kk1 := (HBK1.out.keep HB2.out hz1).at_ 1
                            have kk2 := (HBK1.out.keep HB2.out hz1).at_ 2
                            simp at kk0 kk1 kk2
                            obtain ⟨bx, ox, hrx⟩ := HX1.out.below HB2.out (Nat.le_refl _)
                            obtain rfl := hrx.at_ (by omega)
                            have hbx := hrx.lt (by omega)
                            have cx := c1 hrx (k := r) (by omega)
                            have hcx := hrx.cap
                            have hmx := hrx.max
                            obtain ⟨by', oy, hry⟩ := HY1.out.below HB2.out (Nat.le_refl _)
                            obtain rfl := hry.at_ (by omega)
                            have hby := hry.lt (by omega)
                            have cy := c1 hry (k := k) (by omega)
                            have hcy := hry.cap
                            have hmy := hry.max
                            have bc := chg_bd HC.out (xs.getD r 0) (ys.getD k 0)
                            have HCH := hide (fun W => rchange_any (xs.getD r 0) (ys.getD k 0) o i h W)
                            have HDE := hide (show bad2 xs ys T ⟨o, i, h⟩ (r + 1) (k + 1) ↔ tv T r k + chg ⟨o, i, h⟩ (xs.getD r 0) (ys.getD k 0) < tv T (r + 1) (k + 1) from by unfold bad2; rw [Nat.add_sub_cancel, Nat.add_sub_cancel]; omega)
                            clear hrx hry HFA HSU
                            generalize chg ⟨o, i, h⟩ (xs.getD r 0) (ys.getD k 0) = ch at *
                            generalize xs.getD r 0 = u at *
                            generalize ys.getD k 0 = v at *
                            generalize tv T r k = x at *
                            generalize tv T (r + 1) (k + 1) = V at *
                            have wx : IntKind.i64.wrap (x + ch) = x + ch := IntWalk.i64_in _ (by omega)
                            by_cases hq : x + ch < V
                            · have HD := hide (HDE.out.2 hq)
                              go_wp2_with fail
                              go_region_held3 (fun w' => w'.cell? ⟨w.heap.size, 0, none⟩ = some (.int .i64 o) ∧ w'.cell? ⟨w.heap.size, 1, none⟩ = some (.int .i64 i) ∧ w'.cell? ⟨w.heap.size, 2, none⟩ = some (.int .i64 h) ∧ w'.cell? ⟨bx, ox + r, none⟩ = some (.int .i64 u) ∧ w'.cell? ⟨by', oy + k, none⟩ = some (.int .i64 v) ∧ w'.cell? ⟨bt, ot + r, none⟩ = some (.slice (some ⟨b1', off1, none⟩) (n' + 1) c1') ∧ w'.cell? ⟨b1', off1 + k, none⟩ = some (.int .i64 x) ∧ w'.cell? ⟨bt, ot + (r + 1), none⟩ = some (.slice (some ⟨br, offr, none⟩) (n' + 1) cr) ∧ w'.cell? ⟨br, offr + (k + 1), none⟩ = some (.int .i64 V))
                                (first
                                  | go_keep
                                  | (go_split_ands
                                     refine ⟨?_, ?_, ?_, ?_, ?_, ?_, ?_, ?_, ?_⟩ <;> (rw [hb8.cell (by simp; omega)]; assumption)))
                                (first
                                  | (go_at_call 59; refine (HCH.out _).mono ?_; rintro e8 w8 ⟨rfl, hb8⟩))
                              all_goals
                                go_wp2_with fail
                                go_meet
                                exact ⟨dec_t HD.out, hide (HB2.out.drew.trans (hb8.mono HB2.out.size))⟩
                            · have HD := hide (fun hb => hq (HDE.out.1 hb))
                              have hqb : decide (x + ch < V) = false := decide_eq_false hq
                              clear hq
                              go_wp2_with fail
                              go_region_held3 (fun w' => w'.cell? ⟨w.heap.size, 0, none⟩ = some (.int .i64 o) ∧ w'.cell? ⟨w.heap.size, 1, none⟩ = some (.int .i64 i) ∧ w'.cell? ⟨w.heap.size, 2, none⟩ = some (.int .i64 h) ∧ w'.cell? ⟨bx, ox + r, none⟩ = some (.int .i64 u) ∧ w'.cell? ⟨by', oy + k, none⟩ = some (.int .i64 v) ∧ w'.cell? ⟨bt, ot + r, none⟩ = some (.slice (some ⟨b1', off1, none⟩) (n' + 1) c1') ∧ w'.cell? ⟨b1', off1 + k, none⟩ = some (.int .i64 x) ∧ w'.cell? ⟨bt, ot + (r + 1), none⟩ = some (.slice (some ⟨br, offr, none⟩) (n' + 1) cr) ∧ w'.cell? ⟨br, offr + (k + 1), none⟩ = some (.int .i64 V))
                                (first
                                  | go_keep
                                  | (go_split_ands
                                     refine ⟨?_, ?_, ?_, ?_, ?_, ?_, ?_, ?_, ?_⟩ <;> (rw [hb8.cell (by simp; omega)]; assumption)))
                                (first
                                  | (go_at_call 59; refine (HCH.out _).mono ?_; rintro e8 w8 ⟨rfl, hb8⟩))
                              all_goals
                                go_wp2_with fail
                                go_meet
                                exact ⟨dec_f HD.out, hide (HB2.out.drew.trans (hb8.mono HB2.out.size))⟩
                      case rest =>
                      obtain ⟨rfl, HB3⟩ := hcut
                      by_cases hbad : bad2 xs ys T ⟨o, i, h⟩ t s
                      · have HK := hide (HFA.out (.inr hbad))
                        have hdb : decide (bad2 xs ys T ⟨o, i, h⟩ t s) = true := decide_eq_true hbad
                        rw [hdb]
                        clear hbad hdb HB2
                        go_wp2_with fail
                        go_ret2
                        exact ⟨by rw [HK.out.1, HK.out.2]; rfl, BW.out.trans (HB3.out.mono (Nat.le_of_lt hz1))⟩
                      · have HG2 := hide (HSU.out HB1.out hbad)
                        have hdb : decide (bad2 xs ys T ⟨o, i, h⟩ t s) = false := decide_eq_false hbad
                        rw [hdb]
                        clear hbad hdb HB2
                        go_wp2_with fail
                        go_roundg (n' + 1 - (s + 1))
                        case measure => omega
                        case rel => exact ⟨s + 1, by omega, by go_num, by omega, HG2, HB3⟩
                  · obtain rfl : s = n' + 1 := by omega
                    have HG2 := hide (gr_row HG.out)
                    go_wp2_with fail
                    go_roundw
                    case rel => exact ⟨t + 1, by omega, by go_num, HG2, HB⟩
                    case measure => simp [intOf]; omega
              · obtain rfl : t = n + 1 := by omega
                have HK := hide (HYG.out HSH.out ⟨H00.out, by rw [HLX.out, HLY.out]; exact HG.out⟩)
                obtain ⟨hb0, _, b2, off2, c2, m1, m2, hb2, hc2, hc3⟩ := row_at (HT1.out.below HB.out) HSH.out (by omega) (r := n) (by omega)
                have m3 := m2 n' (by omega)
                clear m2
                go_wp2_with fail
                go_ret2
                exact ⟨by rw [HK.out.1, HK.out.2]; rfl, BW.out.trans (HB.out.mono (Nat.le_of_lt hz1))⟩
          · have hb : (tv T 0 0 != 0) = true := by simpa using h00
            have HK := hide (HNG.out HSH.out (fun hg => h00 hg.1))
            clear h00
            go_wp2_with fail
            go_ret2
            exact ⟨by rw [HK.out.1, HK.out.2]; rfl, BW.out⟩
    · have HK := hide (HNS.out (fun hs => hnt (by rw [← HLT.out]; exact hs.1)))
      have hmi : ¬ (nt : Int) = (n : Int) + 1 := by omega
      clear hnt
      go_enter Try.func34, Try.ntmps34
      go_wp2_with (go_at_call 57; refine (rcosted_any A n c xs A' n' c' ys o i h _ HX.out HY.out).mono ?_; rintro e1 w1 ⟨rfl, b1⟩; rw [HE.out]; have B1 := hide b1; clear b1)
      go_ret2
      exact ⟨by rw [HK.out.1, HK.out.2]; rfl, le_call BX.out B1.out⟩
  · have HEG := hide (errG_no (T := T) he)
    have HVG := hide (show valG xs ys ⟨o, i, h⟩ T = 0 from valG_no (by rw [HEG.out]; exact he))
    have hne : (errD xs ys ⟨o, i, h⟩ != 0) = true := by simpa using he
    clear hx hy hT he
    go_enter Try.func34, Try.ntmps34
    go_wp2_with (go_at_call 57; refine (rcosted_any A n c xs A' n' c' ys o i h _ HX.out HY.out).mono ?_; rintro e1 w1 ⟨rfl, b1⟩; have B1 := hide b1; clear b1)
    go_ret2
    exact ⟨by rw [HVG.out, HEG.out]; rfl, le_call BX.out B1.out⟩
end Go.Proofs.Ytndfdminjegldaa
