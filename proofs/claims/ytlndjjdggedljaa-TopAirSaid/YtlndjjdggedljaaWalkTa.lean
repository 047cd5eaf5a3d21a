/- The walk of TopAir. -/
import Derived.Test.YtlndjjdggedljaaWalkRn
namespace Go.Proofs.Ytlndjjdggedljaa
open Go.RowKit

theorem ex_fL : (tk 10 1 [0, 0] [5, 5]).fL 2 = [0, 10, 15] := by
  have f1 : (tk 10 1 [0, 0] [5, 5]).f 1 = 10 := by
    unfold Tk.f
    rw [Tk.F_eq]
    simp [firstMin, Tk.G, Tk.F_zero, Tk.tog, Tk.units, Tk.save, Tk.way, sm, tk]
  show [(tk 10 1 [0, 0] [5, 5]).f 0, (tk 10 1 [0, 0] [5, 5]).f 1, (tk 10 1 [0, 0] [5, 5]).f 2] = _
  rw [ex_f, f1, Tk.f_zero]
structure TopF (K h : Int) (cs ds : List Int) (n : Nat) : Prop where
  plan : errP K h cs ds ((tk K h cs ds).bL n) = 0
  cost : (tk K h cs ds).cost (pl ((tk K h cs ds).bL n)) n = (tk K h cs ds).f n
  tidy : (tk K h cs ds).Tidy (pl ((tk K h cs ds).bL n)) n
  proof_ : errB K h cs ds ((tk K h cs ds).bL n) ((tk K h cs ds).pL n) = 0
  set_ : errS K h cs ds (pumpL (pl ((tk K h cs ds).bL n)) n) = 0
  can : (tk K h cs ds).Can (inS (pumpL (pl ((tk K h cs ds).bL n)) n)) n
  again : errP K h cs ds ((tk K h cs ds).aL ((tk K h cs ds).ast (inS (pumpL (pl ((tk K h cs ds).bL n)) n))) n n) = 0
  sum_ : (tk K h cs ds).cost (pl ((tk K h cs ds).aL ((tk K h cs ds).ast (inS (pumpL (pl ((tk K h cs ds).bL n)) n))) n n)) n = (tk K h cs ds).f n
theorem top_facts {K h : Int} {cs ds : List Int} (o : OkT K h cs ds) : TopF K h cs ds ds.length := by
  obtain ⟨b1, b2, b3⟩ := best_ok o
  have r := errP_right b1
  have hS : SetTo (pumpL (pl ((tk K h cs ds).bL ds.length)) ds.length) ds.length (pumpL (pl ((tk K h cs ds).bL ds.length)) ds.length).length := pumpL_set _ fun s h1 _ => h1
  obtain ⟨c1, c2⟩ := Tk.set_le o.tk o.n2 r (S := inS (pumpL (pl ((tk K h cs ds).bL ds.length)) ds.length)) fun s hs => by
    rw [pumpL_in, decide_eq_true_iff]
    exact ⟨fun q => q.2, fun q => ⟨hs, q⟩⟩
  obtain ⟨s1, s2⟩ := sets_ok o (inS (pumpL (pl ((tk K h cs ds).bL ds.length)) ds.length)) rfl
  refine ⟨b1, b2, b3, proves_ok o, errS_ok o hS, c1, s1, ?_⟩
  rw [b2] at c2
  have e : (tk K h cs ds).cost (pl ((tk K h cs ds).aL ((tk K h cs ds).ast (inS (pumpL (pl ((tk K h cs ds).bL ds.length)) ds.length))) ds.length ds.length)) ds.length =
    (tk K h cs ds).cost ((tk K h cs ds).asg ((tk K h cs ds).ast (inS (pumpL (pl ((tk K h cs ds).bL ds.length)) ds.length))) ds.length) ds.length := cost_congr fun i hi => Tk.aL_get _ _ hi
  omega

set_option maxRecDepth 100000 in
set_option maxHeartbeats 40000000 in
theorem TopAir_walk (K h : Int) (A : Option Addr) (n c : Nat) (cs : List Int) (A' : Option Addr) (n' c' : Nat) (ds : List Int) (P : Option Addr) (np pc : Nat) (ps : List Int) (V : Option Addr) (nv vc : Nat) (vs : List Int) (S : Option Addr) (ns sc : Nat) (ss : List Int) (w : World)
    (hT : Tin w A n c cs A' n' c' ds) (hP : Row w P np pc ps) (hV : Row w V nv vc vs) (hS : Row w S ns sc ss) :
    Calls Try.prog 16 #[.agg #[.int .i64 K, .int .i64 h, .slice A n c, .slice A' n' c'], .agg #[.slice P np pc, .slice V nv vc], .slice S ns sc] w fun e w' => e = .returned (.bool true) ∧ Below w.heap.size w w' := by
  have HT := hide hT
  have HPr := hide hP
  have HVr := hide hV
  have HSr := hide hS
  have B0 := hide ((Below.refl w.heap.size w).alloc (Nat.le_refl _) (.cells #[.int .i64 K, .int .i64 h, .slice A n c, .slice A' n' c'] 24))
  have K0 := hide (Bk.born w 24 #[.int .i64 K, .int .i64 h, .slice A n c, .slice A' n' c'])
  have KC0 := hide (Bk.bornAt (w := w.alloc (.cells #[.int .i64 K, .int .i64 h, .slice A n c, .slice A' n' c'] 24)) (g := w.heap.size + 1) (t := 41) (cs := #[.slice P np pc, .slice V nv vc]) (by simp))
  replace K0 := hide (K0.out.more (.cells #[.slice P np pc, .slice V nv vc] 41))
  replace B0 := hide (B0.out.alloc (by simp) (.cells #[.slice P np pc, .slice V nv vc] 41))
  clear hT hP hV hS
  have B1 := hide (((B0.out.alloc (by simp; omega) (.cells #[.int .i64 0, .int .i64 0] 3))).alloc (by simp; omega) (.cells #[.int .i64 5, .int .i64 5] 3))
  have K1 := hide ((K0.out.more (.cells #[.int .i64 0, .int .i64 0] 3)).more (.cells #[.int .i64 5, .int .i64 5] 3))
  have KC1 := hide ((KC0.out.more (.cells #[.int .i64 0, .int .i64 0] 3)).more (.cells #[.int .i64 5, .int .i64 5] 3))
  have RE1 := hide ((Own.litAt (B := 0) ((w.alloc (.cells #[.int .i64 K, .int .i64 h, .slice A n c, .slice A' n' c'] 24)).alloc (.cells #[.slice P np pc, .slice V nv vc] 41)) [0, 0] (w.heap.size + 1 + 1) (by simp) (Nat.zero_le _) (by simp [maxLen])).row.alloc (.cells #[.int .i64 5, .int .i64 5] 3))
  have RE2 := hide (Own.litAt (B := 0) (((w.alloc (.cells #[.int .i64 K, .int .i64 h, .slice A n c, .slice A' n' c'] 24)).alloc (.cells #[.slice P np pc, .slice V nv vc] 41)).alloc (.cells #[.int .i64 0, .int .i64 0] 3)) [5, 5] (w.heap.size + 1 + 1 + 1) (by simp) (Nat.zero_le _) (by simp [maxLen])).row
  go_enter Try.func16, Try.ntmps16
  go_wp2_with fail
  refine (Firsts_any 10 1 _ 2 2 [0, 0] _ 2 2 [5, 5] _ ⟨RE1.out, RE2.out⟩).mono ?_
  rw [errT_ok ex_ok]
  rw [show [(5 : Int), 5].length = 2 from rfl]
  rw [ex_fL]
  rw [okl_zero rfl]
  rintro e w2 ⟨Ax, nx, cx, rfl, ox, b2⟩
  have B2 := hide (B1.out.trans (b2.mono B1.out.size))
  have K2 := hide (K1.out.keep b2 K1.out.in_)
  have KC2 := hide (KC1.out.keep b2 KC1.out.in_)
  clear b2
  have RX := hide (ox.row)
  clear ox RE1 RE2
  have B3 := hide (B2.out.alloc B2.out.size (.cells #[.int .i64 0, .int .i64 10, .int .i64 15] 3))
  have K3 := hide (K2.out.more (.cells #[.int .i64 0, .int .i64 10, .int .i64 15] 3))
  have KC3 := hide (KC2.out.more (.cells #[.int .i64 0, .int .i64 10, .int .i64 15] 3))
  replace RX := hide (RX.out.alloc (.cells #[.int .i64 0, .int .i64 10, .int .i64 15] 3))
  have RL := hide (Own.litAt (B := 0) w2 [0, 10, 15] w2.heap.size rfl (Nat.zero_le _) (by simp [maxLen])).row
  go_wp2_with fail
  refine (SameInts_any _ _ _ _ _ _ _ _ _ RX.out RL.out).mono ?_
  rw [eqL_self]
  rintro e w4 ⟨rfl, b4⟩
  have B4 := hide (B3.out.trans (b4.mono B3.out.size))
  have K4 := hide (K3.out.keep b4 K3.out.in_)
  have KC4 := hide (KC3.out.keep b4 KC3.out.in_)
  replace RX := hide (RX.out.below b4 (Nat.le_refl _))
  clear b4
  clear RX RL
  obtain ⟨k0, k1, k2, k3, _⟩ := K4.out.four
  obtain ⟨x0, x1, _, _, _⟩ := KC4.out.two
  by_cases hL : 100 < n ∨ 100 < n'
  case pos =>
    go_wp2_with fail
    refine (Long_any K h _ n c cs _ n' c' ds _ (HT.out.below B4.out (Nat.le_refl _))).mono ?_
    rw [decide_eq_true hL]
    rintro e w5 ⟨rfl, b5⟩
    have B5 := hide (B4.out.trans (b5.mono B4.out.size))
    have K5 := hide (K4.out.keep b5 K4.out.in_)
    have KC5 := hide (KC4.out.keep b5 KC4.out.in_)
    clear b5
    go_wp2_with fail
    go_ret
    exact ⟨rfl, B5.out⟩
  go_wp2_with fail
  refine (Long_any K h _ n c cs _ n' c' ds _ (HT.out.below B4.out (Nat.le_refl _))).mono ?_
  rw [decide_eq_false hL]
  rintro e w5 ⟨rfl, b5⟩
  have B5 := hide (B4.out.trans (b5.mono B4.out.size))
  have K5 := hide (K4.out.keep b5 K4.out.in_)
  have KC5 := hide (KC4.out.keep b5 KC4.out.in_)
  clear b5
  clear k0 k1 k2 k3 x0 x1 hL
  obtain ⟨k0, k1, k2, k3, _⟩ := K5.out.four
  obtain ⟨x0, x1, _, _, _⟩ := KC5.out.two
  by_cases hnp : (100 : Int) < np
  case pos =>
    go_wp2_with fail
    go_ret
    exact ⟨rfl, B5.out⟩
  have hnp' : ¬ (100 : Int) < np := hnp
  by_cases hnv : (100 : Int) < nv
  case pos =>
    go_wp2_with fail
    go_ret
    exact ⟨rfl, B5.out⟩
  have hnv' : ¬ (100 : Int) < nv := hnv
  by_cases hns : (100 : Int) < ns
  case pos =>
    go_wp2_with fail
    go_ret
    exact ⟨rfl, B5.out⟩
  have hns' : ¬ (100 : Int) < ns := hns
  go_wp2_with fail
  refine (Least_any K h _ n c cs _ n' c' ds _ (HT.out.below B5.out (Nat.le_refl _))).mono ?_
  rintro e w6 ⟨rfl, b6⟩
  have B6 := hide (B5.out.trans (b6.mono B5.out.size))
  have K6 := hide (K5.out.keep b6 K5.out.in_)
  have KC6 := hide (KC5.out.keep b6 KC5.out.in_)
  clear b6
  clear k0 k1 k2 k3 x0 x1 hnp hnv hns hnp' hnv' hns'
  obtain ⟨k0, k1, k2, k3, _⟩ := K6.out.four
  by_cases he : errT K h cs ds = 0
  case neg =>
    have he' : (errT K h cs ds != 0) = true := by simpa using he
    go_wp2_with fail
    go_ret
    exact ⟨rfl, B6.out⟩
  have HO := hide (errT_zero he)
  have HE0 := hide he
  have HN := hide HT.out.2.length
  obtain rfl : n = n' := by have := HO.out.c.1; have := HT.out.1.length; have := HN.out; omega
  have hn1 : 1 ≤ n := by have := HO.out.n1; have := HN.out; omega
  have hn2 : n ≤ 12 := by have := HO.out.n2; have := HN.out; omega
  have TF := hide (top_facts HO.out)
  have OK := hide HO.out.tk
  rw [HN.out] at TF OK
  rw [HE0.out, okv_zero rfl, HN.out]
  clear he
  go_wp2_with fail
  refine (Best_any K h _ n c cs _ n c' ds _ (HT.out.below B6.out (Nat.le_refl _))).mono ?_
  rw [HE0.out]
  rw [okl_zero rfl]
  rw [HN.out]
  rintro e w7 ⟨Ab, nb, cb, rfl, ob, b7⟩
  have B7 := hide (B6.out.trans (b7.mono B6.out.size))
  have K7 := hide (K6.out.keep b7 K6.out.in_)
  have KC7 := hide (KC6.out.keep b7 KC6.out.in_)
  clear b7
  obtain rfl : nb = n := by have := ob.len; rw [Tk.bL_len] at this; omega
  have RB := hide (ob.row)
  clear ob k0 k1 k2 k3
  obtain ⟨k0, k1, k2, k3, _⟩ := K7.out.four
  go_wp2_with fail
  refine (Prices_any K h _ nb c cs _ nb c' ds _ (HT.out.below B7.out (Nat.le_refl _))).mono ?_
  rw [HE0.out]
  rw [okl_zero rfl]
  rw [HN.out]
  rintro e w8 ⟨Av, nw, cv, rfl, ob, b8⟩
  have B8 := hide (B7.out.trans (b8.mono B7.out.size))
  have K8 := hide (K7.out.keep b8 K7.out.in_)
  have KC8 := hide (KC7.out.keep b8 KC7.out.in_)
  replace RB := hide (RB.out.below b8 (Nat.le_refl _))
  clear b8
  have RV := hide (ob.row)
  clear ob k0 k1 k2 k3
  obtain ⟨k0, k1, k2, k3, _⟩ := K8.out.four
  go_wp2_with fail
  refine (Firsts_any K h _ nb c cs _ nb c' ds _ (HT.out.below B8.out (Nat.le_refl _))).mono ?_
  rw [HE0.out]
  rw [okl_zero rfl]
  rw [HN.out]
  rintro e w9 ⟨Af, nf, cf, rfl, ob, b9⟩
  have B9 := hide (B8.out.trans (b9.mono B8.out.size))
  have K9 := hide (K8.out.keep b9 K8.out.in_)
  have KC9 := hide (KC8.out.keep b9 KC8.out.in_)
  replace RB := hide (RB.out.below b9 (Nat.le_refl _))
  replace RV := hide (RV.out.below b9 (Nat.le_refl _))
  clear b9
  have hnf : nf = nb + 1 := by have := ob.len; rw [Tk.fL_len] at this; omega
  have RF := hide (ob.row)
  clear ob k0 k1 k2 k3
  obtain ⟨k0, k1, k2, k3, _⟩ := K9.out.four
  obtain ⟨bf, off, rf⟩ := RF.out
  obtain rfl := rf.at_ (by omega)
  have cF := rf.cell nb (by omega)
  rw [Tk.fL_get _ (Nat.le_refl _)] at cF
  have HFL := hide (fun k (hk : k ≤ nb) => (tk K h cs ds).fL_get hk)
  have HFT := hide (fun k => f_take K h cs ds k)
  have hcf := rf.cap
  have hmf := rf.max
  clear rf
  have q1 : IntKind.i64.wrap ((nb : Int) + 1) = (nb : Int) + 1 := IntWalk.i64_in _ (by omega)
  have q2 : IntKind.i64.wrap ((nf : Int) - 1) = (nb : Int) := by rw [show (nf : Int) - 1 = (nb : Int) by omega]; exact IntWalk.i64_in _ (by omega)
  have q3 : ((nf : Int) != (nb : Int) + 1) = false := by simp; omega
  have q4 : (nb : Int) < nf := by omega
  have HNF := hide hnf
  clear hnf
  have LE := hide (fun p (r : (tk K h cs ds).Right p nb) => OK.out.least_le r)
  have WE := hide (fun v (r : (tk K h cs ds).Holds v nb) => OK.out.worth_le r (Nat.le_refl nb))
  go_wp2_with fail
  refine (CheckBest_any K h _ nb c cs _ nb c' ds _ nb cb _ _ nw cv _ _ (HT.out.below B9.out (Nat.le_refl _)) RB.out RV.out).mono ?_
  rw [TF.out.proof_]
  rintro e w10 ⟨rfl, b10⟩
  have B10 := hide (B9.out.trans (b10.mono B9.out.size))
  have K10 := hide (K9.out.keep b10 K9.out.in_)
  have KC10 := hide (KC9.out.keep b10 KC9.out.in_)
  replace RB := hide (RB.out.below b10 (Nat.le_refl _))
  replace RV := hide (RV.out.below b10 (Nat.le_refl _))
  replace RF := hide (RF.out.below b10 (Nat.le_refl _))
  clear b10
  have cF2 := (RF.out.below (Below.refl _ _) (Nat.le_refl _))
  clear cF cF2
  obtain ⟨bf2, off2, rf⟩ := RF.out
  obtain ⟨rfl, rfl⟩ : bf2 = bf ∧ off2 = off := by have := rf.at_ (by omega); simp at this; exact ⟨this.1.symm, this.2.symm⟩
  have cF := rf.cell nb (by have := HNF.out; omega)
  rw [HFL.out _ (Nat.le_refl _)] at cF
  clear rf k0 k1 k2 k3
  obtain ⟨k0, k1, k2, k3, _⟩ := K10.out.four
  go_wp2_with fail
  refine (CheckPlan_any K h _ nb c cs _ nb c' ds _ nb cb _ _ (HT.out.below B10.out (Nat.le_refl _)) RB.out).mono ?_
  rw [TF.out.plan]
  rw [okv_zero rfl]
  rw [HN.out]
  rw [TF.out.cost]
  rintro e w11 ⟨rfl, b11⟩
  have B11 := hide (B10.out.trans (b11.mono B10.out.size))
  have K11 := hide (K10.out.keep b11 K10.out.in_)
  have KC11 := hide (KC10.out.keep b11 KC10.out.in_)
  replace RB := hide (RB.out.below b11 (Nat.le_refl _))
  replace RV := hide (RV.out.below b11 (Nat.le_refl _))
  replace RF := hide (RF.out.below b11 (Nat.le_refl _))
  clear b11
  clear q1 q2 q3 q4 cF k0 k1 k2 k3
  obtain ⟨k0, k1, k2, k3, _⟩ := K11.out.four
  go_wp2_with fail
  refine (IsTidy_any K h _ nb c cs _ nb c' ds _ nb cb _ _ (HT.out.below B11.out (Nat.le_refl _)) RB.out).mono ?_
  rw [TF.out.plan]
  rw [okb_zero rfl]
  rw [HN.out]
  rw [decide_eq_true TF.out.tidy]
  rintro e w12 ⟨rfl, b12⟩
  have B12 := hide (B11.out.trans (b12.mono B11.out.size))
  have K12 := hide (K11.out.keep b12 K11.out.in_)
  have KC12 := hide (KC11.out.keep b12 KC11.out.in_)
  replace RB := hide (RB.out.below b12 (Nat.le_refl _))
  replace RV := hide (RV.out.below b12 (Nat.le_refl _))
  replace RF := hide (RF.out.below b12 (Nat.le_refl _))
  clear b12
  clear k0 k1 k2 k3
  obtain ⟨k0, k1, k2, k3, _⟩ := K12.out.four
  go_wp2_with fail
  refine (Starts_any K h _ nb c cs _ nb c' ds _ nb cb _ _ (HT.out.below B12.out (Nat.le_refl _)) RB.out).mono ?_
  rw [TF.out.plan]
  rw [okl_zero rfl]
  rw [HN.out]
  rintro e w13 ⟨As, nS, cS, rfl, ob, b13⟩
  have B13 := hide (B12.out.trans (b13.mono B12.out.size))
  have K13 := hide (K12.out.keep b13 K12.out.in_)
  have KC13 := hide (KC12.out.keep b13 KC12.out.in_)
  replace RB := hide (RB.out.below b13 (Nat.le_refl _))
  replace RV := hide (RV.out.below b13 (Nat.le_refl _))
  replace RF := hide (RF.out.below b13 (Nat.le_refl _))
  clear b13
  have RS := hide (ob.row)
  clear ob k0 k1 k2 k3
  obtain ⟨k0, k1, k2, k3, _⟩ := K13.out.four
  go_wp2_with fail
  refine ((At_any K h _ nb c cs _ nb c' ds _ nS cS _ _ (HT.out.below B13.out (Nat.le_refl _)) RS.out).mono fun _ _ q => q.pos TF.out.set_ TF.out.can).mono ?_
  rintro e w14 ⟨Ag, cg, rfl, ob, b14⟩
  have B14 := hide (B13.out.trans (b14.mono B13.out.size))
  have K14 := hide (K13.out.keep b14 K13.out.in_)
  have KC14 := hide (KC13.out.keep b14 KC13.out.in_)
  replace RB := hide (RB.out.below b14 (Nat.le_refl _))
  replace RV := hide (RV.out.below b14 (Nat.le_refl _))
  replace RF := hide (RF.out.below b14 (Nat.le_refl _))
  replace RS := hide (RS.out.below b14 (Nat.le_refl _))
  clear b14
  have RG := hide (ob.row)
  clear ob k0 k1 k2 k3
  obtain ⟨k0, k1, k2, k3, _⟩ := K14.out.four
  go_wp2_with fail
  refine (CheckPlan_any K h _ nb c cs _ nb c' ds _ nb cg _ _ (HT.out.below B14.out (Nat.le_refl _)) RG.out).mono ?_
  rw [TF.out.again]
  rw [okv_zero rfl]
  rw [HN.out]
  rw [TF.out.sum_]
  rintro e w15 ⟨rfl, b15⟩
  have B15 := hide (B14.out.trans (b15.mono B14.out.size))
  have K15 := hide (K14.out.keep b15 K14.out.in_)
  have KC15 := hide (KC14.out.keep b15 KC14.out.in_)
  replace RB := hide (RB.out.below b15 (Nat.le_refl _))
  replace RV := hide (RV.out.below b15 (Nat.le_refl _))
  replace RF := hide (RF.out.below b15 (Nat.le_refl _))
  replace RS := hide (RS.out.below b15 (Nat.le_refl _))
  replace RG := hide (RG.out.below b15 (Nat.le_refl _))
  clear b15
  clear k0 k1 k2 k3 TF
  clear RB RV RS RG
  have RFb := hide RF.out
  have cut := hide (Below.refl w15.heap.size w15)
  go_wp2_with fail
  go_loopw [22] (fun i wr => ∃ k : Nat, 1 ≤ k ∧ k ≤ nf ∧ i = .int .i64 k ∧ Below w15.heap.size w15 wr) (fun i _ => nf - (intOf i).toNat)
  case atStart => exact ⟨1, by omega, by have := HNF.out; omega, rfl, Below.refl _ _⟩
  case round =>
    obtain ⟨k, hk1, hk, rfl, hbel⟩ := hrel
    have HBL := hide hbel
    clear hbel
    have KW := hide (K15.out.keep HBL.out K15.out.in_)
    have KCW := hide (KC15.out.keep HBL.out KC15.out.in_)
    have BW := hide (B15.out.trans (HBL.out.mono B15.out.size))
    have RFW := hide (RF.out.below HBL.out (Nat.le_refl _))
    obtain ⟨k0, k1, k2, k3, _⟩ := KW.out.four
    obtain ⟨x0, x1, _, _, _⟩ := KCW.out.two
    by_cases hlt : k < nf
    · have l2 : (k : Int) < nf := by omega
      have hkn : k ≤ nb := by have := HNF.out; omega
      have OT := hide (HO.out.take (i := k) hk1 (by rw [HN.out]; exact hkn))
      have hl : (ds.take k).length = k := by rw [List.length_take, HN.out]; omega
      have BG := begF_ok HO.out (b := (k : Int)) ⟨by omega, by rw [HN.out]; omega⟩
      rw [Int.toNat_natCast] at BG
      have CC := hide (Below.refl wr.heap.size wr)
      clear x0 x1
      go_wp2_with fail
      refine (Begin_any K h _ nb c cs _ nb c' ds (k : Int) _ (HT.out.below BW.out (Nat.le_refl _))).mono ?_
      rw [BG]
      rintro e we ⟨Aa, na, ca, Ba, ma, da, rfl, oa, pa, be⟩
      replace CC := hide (CC.out.trans be)
      have Ra := hide oa.row
      have Pa := hide pa.row
      clear oa pa be k0 k1 k2 k3 BG
      go_wp2_with fail
      replace CC := hide (CC.out.alloc CC.out.size (.cells #[.int .i64 K, .int .i64 h, .slice Aa na ca, .slice Ba ma da] 24))
      replace Ra := hide (Ra.out.alloc (.cells #[.int .i64 K, .int .i64 h, .slice Aa na ca, .slice Ba ma da] 24))
      replace Pa := hide (Pa.out.alloc (.cells #[.int .i64 K, .int .i64 h, .slice Aa na ca, .slice Ba ma da] 24))
      refine (Least_any K h _ na ca _ _ ma da _ _ ⟨Ra.out, Pa.out⟩).mono ?_
      rw [errT_ok OT.out, okv_zero rfl, hl, HFT.out]
      rintro e wl ⟨rfl, bl⟩
      replace CC := hide (CC.out.trans (bl.mono CC.out.size))
      obtain ⟨bf3, off3, rf⟩ := RFW.out.below CC.out (Nat.le_refl _)
      obtain ⟨rfl, rfl⟩ : bf3 = bf2 ∧ off3 = off2 := by have := rf.at_ (by omega); simp at this; exact ⟨this.1.symm, this.2.symm⟩
      have cF := rf.cell k hlt
      rw [HFL.out _ hkn] at cF
      clear rf bl Ra Pa
      skip
      go_wp2_with fail
      go_roundw
      case rel => exact ⟨k + 1, by omega, by omega, by go_num, HBL.out.trans (CC.out.mono HBL.out.size)⟩
      case measure => simp [intOf]; omega
    · obtain rfl : k = nf := by omega
      clear RFW
      have B50 := BW
      have K50 := KW
      have KC50 := KCW
      by_cases hp : errP K h cs ds ps = 0
      case neg =>
        have hp' : (errP K h cs ds ps == 0) = false := by simpa using hp
        go_wp2_with fail
        refine (CheckPlan_any K h _ nb c cs _ nb c' ds _ np pc ps _ (HT.out.below B50.out (Nat.le_refl _)) (HPr.out.below B50.out (Nat.le_refl _))).mono ?_
        rintro e w51 ⟨rfl, b51⟩
        have B51 := hide (B50.out.trans (b51.mono B50.out.size))
        have K51 := hide (K50.out.keep b51 K50.out.in_)
        have KC51 := hide (KC50.out.keep b51 KC50.out.in_)
        clear b51
        clear k0 k1 k2 k3 x0 x1 hp
        obtain ⟨k0, k1, k2, k3, _⟩ := K51.out.four
        obtain ⟨x0, x1, _, _, _⟩ := KC51.out.two
        by_cases hv : errV K h cs ds vs = 0
        case neg =>
          have hv' : (errV K h cs ds vs == 0) = false := by simpa using hv
          go_wp2_with fail
          refine (CheckPrices_any K h _ nb c cs _ nb c' ds _ nv vc vs _ (HT.out.below B51.out (Nat.le_refl _)) (HVr.out.below B51.out (Nat.le_refl _))).mono ?_
          rintro e w52 ⟨rfl, b52⟩
          have B52 := hide (B51.out.trans (b52.mono B51.out.size))
          have K52 := hide (K51.out.keep b52 K51.out.in_)
          have KC52 := hide (KC51.out.keep b52 KC51.out.in_)
          clear b52
          clear k0 k1 k2 k3 x0 x1 hv
          obtain ⟨k0, k1, k2, k3, _⟩ := K52.out.four
          obtain ⟨x0, x1, _, _, _⟩ := KC52.out.two
          by_cases hg : errS K h cs ds ss = 0 ∧ (tk K h cs ds).Can (inS ss) nb
          case neg =>
            have HG := hide hg
            clear hg
            go_wp2_with fail
            refine ((At_any K h _ nb c cs _ nb c' ds _ ns sc ss _ (HT.out.below B52.out (Nat.le_refl _)) (HSr.out.below B52.out (Nat.le_refl _))).mono fun _ _ q => q.neg HG.out).mono ?_
            rintro e w53 ⟨rfl, b53⟩
            have B53 := hide (B52.out.trans (b53.mono B52.out.size))
            have K53 := hide (K52.out.keep b53 K52.out.in_)
            have KC53 := hide (KC52.out.keep b53 KC52.out.in_)
            clear b53
            clear k0 k1 k2 k3 x0 x1
            by_cases h9 : errS K h cs ds ss = 0
            · have h9' : (errS K h cs ds ss != 0) = false := by simpa using h9
              clear h9
              go_wp2_with fail
              go_ret
              exact ⟨rfl, B53.out⟩
            · have h9' : (errS K h cs ds ss != 0) = true := by simpa using h9
              clear h9
              go_wp2_with fail
              go_ret
              exact ⟨rfl, B53.out⟩
          have HG := hide hg.1
          have HC := hide hg.2
          clear hg
          have SO := hide (sets_ok HO.out (inS ss) HN.out)
          go_wp2_with fail
          refine ((At_any K h _ nb c cs _ nb c' ds _ ns sc ss _ (HT.out.below B52.out (Nat.le_refl _)) (HSr.out.below B52.out (Nat.le_refl _))).mono fun _ _ q => q.pos HG.out HC.out).mono ?_
          rintro e w53 ⟨A7, c7, rfl, o7, b53⟩
          have B53 := hide (B52.out.trans (b53.mono B52.out.size))
          have K53 := hide (K52.out.keep b53 K52.out.in_)
          have KC53 := hide (KC52.out.keep b53 KC52.out.in_)
          clear b53
          have R7 := hide (o7.row)
          clear o7 k0 k1 k2 k3 x0 x1
          obtain ⟨k0, k1, k2, k3, _⟩ := K53.out.four
          go_wp2_with fail
          refine (CheckPlan_any K h _ nb c cs _ nb c' ds _ nb c7 _ _ (HT.out.below B53.out (Nat.le_refl _)) R7.out).mono ?_
          rw [SO.out.1]
          rw [okv_zero rfl]
          rintro e w54 ⟨rfl, b54⟩
          have B54 := hide (B53.out.trans (b54.mono B53.out.size))
          have K54 := hide (K53.out.keep b54 K53.out.in_)
          have KC54 := hide (KC53.out.keep b54 KC53.out.in_)
          replace R7 := hide (R7.out.below b54 (Nat.le_refl _))
          clear b54
          clear k0 k1 k2 k3
          obtain ⟨k0, k1, k2, k3, _⟩ := K54.out.four
          have c9 := cn_some OK.out hn2
          go_wp2_with fail
          refine (Count_any K h _ nb c cs _ nb c' ds _ (HT.out.below B54.out (Nat.le_refl _))).mono ?_
          rw [HE0.out]
          rw [okv_zero rfl]
          rw [HN.out]
          rintro e w55 ⟨rfl, b55⟩
          have B55 := hide (B54.out.trans (b55.mono B54.out.size))
          have K55 := hide (K54.out.keep b55 K54.out.in_)
          have KC55 := hide (KC54.out.keep b55 KC54.out.in_)
          replace R7 := hide (R7.out.below b55 (Nat.le_refl _))
          clear b55
          clear k0 k1 k2 k3
          have s9 := SO.out.2
          rw [HN.out] at s9
          generalize (tk K h cs ds).cn nb (2 ^ nb) = q9 at *
          have c9' : (0 : Int) < q9 := by omega
          go_wp2_with fail
          go_ret
          exact ⟨rfl, B55.out⟩
        have l := WE.out _ (by have := (errV_zero hv).2.2; rw [HN.out] at this; exact this)
        have l' : ¬ (tk K h cs ds).f nb < sm (pl vs) 0 nb := by omega
        go_wp2_with fail
        refine (CheckPrices_any K h _ nb c cs _ nb c' ds _ nv vc vs _ (HT.out.below B51.out (Nat.le_refl _)) (HVr.out.below B51.out (Nat.le_refl _))).mono ?_
        rw [hv]
        rw [okv_zero rfl]
        rw [HN.out]
        rintro e w52 ⟨rfl, b52⟩
        have B52 := hide (B51.out.trans (b52.mono B51.out.size))
        have K52 := hide (K51.out.keep b52 K51.out.in_)
        have KC52 := hide (KC51.out.keep b52 KC51.out.in_)
        clear b52
        clear k0 k1 k2 k3 x0 x1 hv
        obtain ⟨k0, k1, k2, k3, _⟩ := K52.out.four
        obtain ⟨x0, x1, _, _, _⟩ := KC52.out.two
        by_cases hg : errS K h cs ds ss = 0 ∧ (tk K h cs ds).Can (inS ss) nb
        case neg =>
          have HG := hide hg
          clear hg
          go_wp2_with fail
          refine ((At_any K h _ nb c cs _ nb c' ds _ ns sc ss _ (HT.out.below B52.out (Nat.le_refl _)) (HSr.out.below B52.out (Nat.le_refl _))).mono fun _ _ q => q.neg HG.out).mono ?_
          rintro e w53 ⟨rfl, b53⟩
          have B53 := hide (B52.out.trans (b53.mono B52.out.size))
          have K53 := hide (K52.out.keep b53 K52.out.in_)
          have KC53 := hide (KC52.out.keep b53 KC52.out.in_)
          clear b53
          clear k0 k1 k2 k3 x0 x1
          by_cases h9 : errS K h cs ds ss = 0
          · have h9' : (errS K h cs ds ss != 0) = false := by simpa using h9
            clear h9
            go_wp2_with fail
            go_ret
            exact ⟨rfl, B53.out⟩
          · have h9' : (errS K h cs ds ss != 0) = true := by simpa using h9
            clear h9
            go_wp2_with fail
            go_ret
            exact ⟨rfl, B53.out⟩
        have HG := hide hg.1
        have HC := hide hg.2
        clear hg
        have SO := hide (sets_ok HO.out (inS ss) HN.out)
        go_wp2_with fail
        refine ((At_any K h _ nb c cs _ nb c' ds _ ns sc ss _ (HT.out.below B52.out (Nat.le_refl _)) (HSr.out.below B52.out (Nat.le_refl _))).mono fun _ _ q => q.pos HG.out HC.out).mono ?_
        rintro e w53 ⟨A7, c7, rfl, o7, b53⟩
        have B53 := hide (B52.out.trans (b53.mono B52.out.size))
        have K53 := hide (K52.out.keep b53 K52.out.in_)
        have KC53 := hide (KC52.out.keep b53 KC52.out.in_)
        clear b53
        have R7 := hide (o7.row)
        clear o7 k0 k1 k2 k3 x0 x1
        obtain ⟨k0, k1, k2, k3, _⟩ := K53.out.four
        go_wp2_with fail
        refine (CheckPlan_any K h _ nb c cs _ nb c' ds _ nb c7 _ _ (HT.out.below B53.out (Nat.le_refl _)) R7.out).mono ?_
        rw [SO.out.1]
        rw [okv_zero rfl]
        rintro e w54 ⟨rfl, b54⟩
        have B54 := hide (B53.out.trans (b54.mono B53.out.size))
        have K54 := hide (K53.out.keep b54 K53.out.in_)
        have KC54 := hide (KC53.out.keep b54 KC53.out.in_)
        replace R7 := hide (R7.out.below b54 (Nat.le_refl _))
        clear b54
        clear k0 k1 k2 k3
        obtain ⟨k0, k1, k2, k3, _⟩ := K54.out.four
        have c9 := cn_some OK.out hn2
        go_wp2_with fail
        refine (Count_any K h _ nb c cs _ nb c' ds _ (HT.out.below B54.out (Nat.le_refl _))).mono ?_
        rw [HE0.out]
        rw [okv_zero rfl]
        rw [HN.out]
        rintro e w55 ⟨rfl, b55⟩
        have B55 := hide (B54.out.trans (b55.mono B54.out.size))
        have K55 := hide (K54.out.keep b55 K54.out.in_)
        have KC55 := hide (KC54.out.keep b55 KC54.out.in_)
        replace R7 := hide (R7.out.below b55 (Nat.le_refl _))
        clear b55
        clear k0 k1 k2 k3
        have s9 := SO.out.2
        rw [HN.out] at s9
        generalize (tk K h cs ds).cn nb (2 ^ nb) = q9 at *
        have c9' : (0 : Int) < q9 := by omega
        go_wp2_with fail
        go_ret
        exact ⟨rfl, B55.out⟩
      have l := LE.out _ (by have := errP_right hp; rw [HN.out] at this; exact this)
      have l' : ¬ (tk K h cs ds).cost (pl ps) nb < (tk K h cs ds).f nb := by omega
      go_wp2_with fail
      refine (CheckPlan_any K h _ nb c cs _ nb c' ds _ np pc ps _ (HT.out.below B50.out (Nat.le_refl _)) (HPr.out.below B50.out (Nat.le_refl _))).mono ?_
      rw [hp]
      rw [okv_zero rfl]
      rw [HN.out]
      rintro e w51 ⟨rfl, b51⟩
      have B51 := hide (B50.out.trans (b51.mono B50.out.size))
      have K51 := hide (K50.out.keep b51 K50.out.in_)
      have KC51 := hide (KC50.out.keep b51 KC50.out.in_)
      clear b51
      clear k0 k1 k2 k3 x0 x1 hp
      obtain ⟨k0, k1, k2, k3, _⟩ := K51.out.four
      obtain ⟨x0, x1, _, _, _⟩ := KC51.out.two
      by_cases hv : errV K h cs ds vs = 0
      case neg =>
        have hv' : (errV K h cs ds vs == 0) = false := by simpa using hv
        go_wp2_with fail
        refine (CheckPrices_any K h _ nb c cs _ nb c' ds _ nv vc vs _ (HT.out.below B51.out (Nat.le_refl _)) (HVr.out.below B51.out (Nat.le_refl _))).mono ?_
        rintro e w52 ⟨rfl, b52⟩
        have B52 := hide (B51.out.trans (b52.mono B51.out.size))
        have K52 := hide (K51.out.keep b52 K51.out.in_)
        have KC52 := hide (KC51.out.keep b52 KC51.out.in_)
        clear b52
        clear k0 k1 k2 k3 x0 x1 hv
        obtain ⟨k0, k1, k2, k3, _⟩ := K52.out.four
        obtain ⟨x0, x1, _, _, _⟩ := KC52.out.two
        by_cases hg : errS K h cs ds ss = 0 ∧ (tk K h cs ds).Can (inS ss) nb
        case neg =>
          have HG := hide hg
          clear hg
          go_wp2_with fail
          refine ((At_any K h _ nb c cs _ nb c' ds _ ns sc ss _ (HT.out.below B52.out (Nat.le_refl _)) (HSr.out.below B52.out (Nat.le_refl _))).mono fun _ _ q => q.neg HG.out).mono ?_
          rintro e w53 ⟨rfl, b53⟩
          have B53 := hide (B52.out.trans (b53.mono B52.out.size))
          have K53 := hide (K52.out.keep b53 K52.out.in_)
          have KC53 := hide (KC52.out.keep b53 KC52.out.in_)
          clear b53
          clear k0 k1 k2 k3 x0 x1
          by_cases h9 : errS K h cs ds ss = 0
          · have h9' : (errS K h cs ds ss != 0) = false := by simpa using h9
            clear h9
            go_wp2_with fail
            go_ret
            exact ⟨rfl, B53.out⟩
          · have h9' : (errS K h cs ds ss != 0) = true := by simpa using h9
            clear h9
            go_wp2_with fail
            go_ret
            exact ⟨rfl, B53.out⟩
        have HG := hide hg.1
        have HC := hide hg.2
        clear hg
        have SO := hide (sets_ok HO.out (inS ss) HN.out)
        go_wp2_with fail
        refine ((At_any K h _ nb c cs _ nb c' ds _ ns sc ss _ (HT.out.below B52.out (Nat.le_refl _)) (HSr.out.below B52.out (Nat.le_refl _))).mono fun _ _ q => q.pos HG.out HC.out).mono ?_
        rintro e w53 ⟨A7, c7, rfl, o7, b53⟩
        have B53 := hide (B52.out.trans (b53.mono B52.out.size))
        have K53 := hide (K52.out.keep b53 K52.out.in_)
        have KC53 := hide (KC52.out.keep b53 KC52.out.in_)
        clear b53
        have R7 := hide (o7.row)
        clear o7 k0 k1 k2 k3 x0 x1
        obtain ⟨k0, k1, k2, k3, _⟩ := K53.out.four
        go_wp2_with fail
        refine (CheckPlan_any K h _ nb c cs _ nb c' ds _ nb c7 _ _ (HT.out.below B53.out (Nat.le_refl _)) R7.out).mono ?_
        rw [SO.out.1]
        rw [okv_zero rfl]
        rintro e w54 ⟨rfl, b54⟩
        have B54 := hide (B53.out.trans (b54.mono B53.out.size))
        have K54 := hide (K53.out.keep b54 K53.out.in_)
        have KC54 := hide (KC53.out.keep b54 KC53.out.in_)
        replace R7 := hide (R7.out.below b54 (Nat.le_refl _))
        clear b54
        clear k0 k1 k2 k3
        obtain ⟨k0, k1, k2, k3, _⟩ := K54.out.four
        have c9 := cn_some OK.out hn2
        go_wp2_with fail
        refine (Count_any K h _ nb c cs _ nb c' ds _ (HT.out.below B54.out (Nat.le_refl _))).mono ?_
        rw [HE0.out]
        rw [okv_zero rfl]
        rw [HN.out]
        rintro e w55 ⟨rfl, b55⟩
        have B55 := hide (B54.out.trans (b55.mono B54.out.size))
        have K55 := hide (K54.out.keep b55 K54.out.in_)
        have KC55 := hide (KC54.out.keep b55 KC54.out.in_)
        replace R7 := hide (R7.out.below b55 (Nat.le_refl _))
        clear b55
        clear k0 k1 k2 k3
        have s9 := SO.out.2
        rw [HN.out] at s9
        generalize (tk K h cs ds).cn nb (2 ^ nb) = q9 at *
        have c9' : (0 : Int) < q9 := by omega
        go_wp2_with fail
        go_ret
        exact ⟨rfl, B55.out⟩
      have l := WE.out _ (by have := (errV_zero hv).2.2; rw [HN.out] at this; exact this)
      have l' : ¬ (tk K h cs ds).f nb < sm (pl vs) 0 nb := by omega
      go_wp2_with fail
      refine (CheckPrices_any K h _ nb c cs _ nb c' ds _ nv vc vs _ (HT.out.below B51.out (Nat.le_refl _)) (HVr.out.below B51.out (Nat.le_refl _))).mono ?_
      rw [hv]
      rw [okv_zero rfl]
      rw [HN.out]
      rintro e w52 ⟨rfl, b52⟩
      have B52 := hide (B51.out.trans (b52.mono B51.out.size))
      have K52 := hide (K51.out.keep b52 K51.out.in_)
      have KC52 := hide (KC51.out.keep b52 KC51.out.in_)
      clear b52
      clear k0 k1 k2 k3 x0 x1 hv
      obtain ⟨k0, k1, k2, k3, _⟩ := K52.out.four
      obtain ⟨x0, x1, _, _, _⟩ := KC52.out.two
      by_cases hg : errS K h cs ds ss = 0 ∧ (tk K h cs ds).Can (inS ss) nb
      case neg =>
        have HG := hide hg
        clear hg
        go_wp2_with fail
        refine ((At_any K h _ nb c cs _ nb c' ds _ ns sc ss _ (HT.out.below B52.out (Nat.le_refl _)) (HSr.out.below B52.out (Nat.le_refl _))).mono fun _ _ q => q.neg HG.out).mono ?_
        rintro e w53 ⟨rfl, b53⟩
        have B53 := hide (B52.out.trans (b53.mono B52.out.size))
        have K53 := hide (K52.out.keep b53 K52.out.in_)
        have KC53 := hide (KC52.out.keep b53 KC52.out.in_)
        clear b53
        clear k0 k1 k2 k3 x0 x1
        by_cases h9 : errS K h cs ds ss = 0
        · have h9' : (errS K h cs ds ss != 0) = false := by simpa using h9
          clear h9
          go_wp2_with fail
          go_ret
          exact ⟨rfl, B53.out⟩
        · have h9' : (errS K h cs ds ss != 0) = true := by simpa using h9
          clear h9
          go_wp2_with fail
          go_ret
          exact ⟨rfl, B53.out⟩
      have HG := hide hg.1
      have HC := hide hg.2
      clear hg
      have SO := hide (sets_ok HO.out (inS ss) HN.out)
      go_wp2_with fail
      refine ((At_any K h _ nb c cs _ nb c' ds _ ns sc ss _ (HT.out.below B52.out (Nat.le_refl _)) (HSr.out.below B52.out (Nat.le_refl _))).mono fun _ _ q => q.pos HG.out HC.out).mono ?_
      rintro e w53 ⟨A7, c7, rfl, o7, b53⟩
      have B53 := hide (B52.out.trans (b53.mono B52.out.size))
      have K53 := hide (K52.out.keep b53 K52.out.in_)
      have KC53 := hide (KC52.out.keep b53 KC52.out.in_)
      clear b53
      have R7 := hide (o7.row)
      clear o7 k0 k1 k2 k3 x0 x1
      obtain ⟨k0, k1, k2, k3, _⟩ := K53.out.four
      go_wp2_with fail
      refine (CheckPlan_any K h _ nb c cs _ nb c' ds _ nb c7 _ _ (HT.out.below B53.out (Nat.le_refl _)) R7.out).mono ?_
      rw [SO.out.1]
      rw [okv_zero rfl]
      rintro e w54 ⟨rfl, b54⟩
      have B54 := hide (B53.out.trans (b54.mono B53.out.size))
      have K54 := hide (K53.out.keep b54 K53.out.in_)
      have KC54 := hide (KC53.out.keep b54 KC53.out.in_)
      replace R7 := hide (R7.out.below b54 (Nat.le_refl _))
      clear b54
      clear k0 k1 k2 k3
      obtain ⟨k0, k1, k2, k3, _⟩ := K54.out.four
      have c9 := cn_some OK.out hn2
      go_wp2_with fail
      refine (Count_any K h _ nb c cs _ nb c' ds _ (HT.out.below B54.out (Nat.le_refl _))).mono ?_
      rw [HE0.out]
      rw [okv_zero rfl]
      rw [HN.out]
      rintro e w55 ⟨rfl, b55⟩
      have B55 := hide (B54.out.trans (b55.mono B54.out.size))
      have K55 := hide (K54.out.keep b55 K54.out.in_)
      have KC55 := hide (KC54.out.keep b55 KC54.out.in_)
      replace R7 := hide (R7.out.below b55 (Nat.le_refl _))
      clear b55
      clear k0 k1 k2 k3
      have s9 := SO.out.2
      rw [HN.out] at s9
      generalize (tk K h cs ds).cn nb (2 ^ nb) = q9 at *
      have c9' : (0 : Int) < q9 := by omega
      go_wp2_with fail
      go_ret
      exact ⟨rfl, B55.out⟩

end Go.Proofs.Ytlndjjdggedljaa
