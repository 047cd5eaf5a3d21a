/- Walks of the program's own count of the best sets of hours: equal lists, the hours of a number, the count. -/
import Derived.Test.YtlndjjdggedljaaMathM
namespace Go.Proofs.Ytlndjjdggedljaa
open Go.RowKit

set_option maxHeartbeats 400000 in
theorem Equal_any (A : Option Addr) (n c : Nat) (xs : List Int) (A' : Option Addr) (n' c' : Nat) (ys : List Int) (w : World) (h : Row w A n c xs) (h' : Row w A' n' c' ys) :
    Calls Try.prog 79 #[.slice A n c, .slice A' n' c'] w fun e w' => e = .returned (.bool (eqL xs ys)) ∧ Drew w w' := by
  obtain ⟨b, off, h1, hcap, hmax, h2, h3, h4⟩ := h
  obtain ⟨b', off', h1', hcap', hmax', h2', h3', h4'⟩ := h'
  have H1 := hide h1
  have H2 := hide h2
  have H4 := hide h4
  have H1' := hide h1'
  have H2' := hide h2'
  have H4' := hide h4'
  clear h1 h2 h3 h4 h1' h2' h3' h4'
  by_cases hl : n = n'
  · subst hl
    go_enter Try.func79, Try.ntmps79
    go_wp2
    go_loopw [13] (fun i wr => ∃ k : Nat, k ≤ n ∧ i = .int .i64 k ∧ EqTo xs ys k ∧ Drew w wr) (fun i _ => n - (intOf i).toNat)
    case atStart => exact ⟨0, Nat.zero_le _, rfl, eqTo_zero _ _, Drew.refl _⟩
    case round =>
      obtain ⟨k, hk, rfl, hrep, hd⟩ := hrel
      by_cases hlt : k < n
      · have hcell := (hd.cell _).trans (H4.out k hlt)
        have hcell' := (hd.cell _).trans (H4'.out k hlt)
        have hA := H2.out (by omega)
        have hA' := H2'.out (by omega)
        generalize hx : xs.getD k 0 = x at hcell
        generalize hy : ys.getD k 0 = y at hcell'
        have HX := hide hx
        have HY := hide hy
        clear hx hy
        subst hA hA'
        have hi : (k : Int) < (n : Int) := by omega
        cases hxy : (x != y) with
        | false =>
          go_wp2
          go_quiet (fail)
          go_wp2
          go_roundw
          case rel => exact ⟨k + 1, by omega, by go_num, eqTo_succ hrep (by rw [HX.out, HY.out]; simpa using hxy), hd.more _⟩
          case measure => simp [intOf]; omega
        | true =>
          go_wp2
          go_quiet (fail)
          go_wp2
          go_ret
          exact ⟨ret_bool (eqL_ne (k := k) (by rw [HX.out, HY.out]; simpa using hxy)).symm, hd.more _⟩
      · go_wp2
        go_ret
        exact ⟨ret_bool (eqL_true (by rw [H1.out, H1'.out]) (by rw [H1.out, show n = k from by omega]; exact hrep)).symm, hd⟩
  · go_enter Try.func79, Try.ntmps79
    go_wp2
    go_ret
    exact ⟨ret_bool (eqL_len (by rw [H1.out, H1'.out]; exact hl)).symm, Drew.refl _⟩


theorem bit_fact {x k : Nat} (hk : k < 12) : bitS x k = (bits BinOp.and IntKind.i64 ((x : Int) / 2 ^ k) 1 == 1) := by
  have wq : IntKind.u64.wrap (k : Int) = k := IntWalk.u64_in _ (by omega)
  have wm : min k 64 = k := by omega
  unfold bitS
  rw [wq, Int.toNat_natCast, wm]

set_option maxHeartbeats 2000000 in
theorem members_any (x : Nat) (w : World) : Calls Try.prog 78 #[.int .i64 x] w fun e w' =>
    ∃ A1 m c1, e = .returned (.slice A1 m c1) ∧ Own w' w.heap.size A1 m c1 (pumpL (bitP x) 12) ∧ Below w.heap.size w w' := by
  go_enter Try.func78, Try.ntmps78
  go_wp2
  go_loopw [3, 5] (fun v i wr => ∃ (k m : Nat) (A1 : Option Addr) (c1 : Nat), k ≤ 12 ∧ i = .int .i64 k ∧ v = .slice A1 m c1 ∧ m ≤ k ∧ Own wr w.heap.size A1 m c1 (pumpL (bitP x) k) ∧ Below w.heap.size w wr) (fun _ i _ => 12 - (intOf i).toNat)
  case atStart => exact ⟨0, 0, none, 0, Nat.zero_le _, rfl, rfl, Nat.le_refl _, Own.nil _ _, Below.refl _ _⟩
  case round =>
    obtain ⟨k, m, A1, c1, hk, rfl, rfl, hm, hown, hb⟩ := hrel
    by_cases hlt : k < 12
    · have bt := bit_fact (x := x) hlt
      have HY := hide (fun h => pumpL_yes (p := bitP x) (k := k) ((bitP_pos x k).2 h))
      have HN := hide (fun (h : ¬ bitS x k = true) => pumpL_no (p := bitP x) (k := k) fun q => h ((bitP_pos x k).1 q))
      have wm : min k 64 = k := by omega
      have l2 : (k : Int) < 12 := by omega
      have hsz := hb.size
      generalize hbb : bits BinOp.and IntKind.i64 ((x : Int) / 2 ^ k) 1 = bb at *
      by_cases hS : bitS x k = true
      · rw [hS] at bt
        have bt2 : bb = 1 := by simpa using bt.symm
        subst bt2
        clear bt
        go_wp2_with (at_builtin; refine wpList_app1 _ rfl (.tmp 13) (.tmp 15) rfl w.heap.size m c1 A1 _ _ rfl rfl hown (by omega) hsz ?_; intro A2 c2 w2 hown1 hb1 hg1)
        go_roundw
        case rel => exact ⟨k + 1, m + 1, A2, c2, by omega, by go_num, by go_num, by omega, by rw [HY.out hS]; exact hown1, hb.trans (hb1.mono (by omega))⟩
        case measure => simp [intOf]; omega
      · have hS' : bitS x k = false := by simpa using hS
        rw [hS'] at bt
        have bt2 : ¬ bb = 1 := by intro q; rw [q] at bt; cases bt
        have bt3 : (bb == 1) = false := bt.symm
        clear bt
        go_wp2
        go_roundw
        case rel => exact ⟨k + 1, m, A1, c1, by omega, by go_num, by go_num, by omega, by rw [HN.out hS]; exact hown, hb⟩
        case measure => simp [intOf]; omega
    · obtain rfl : k = 12 := by omega
      go_wp2
      go_ret
      exact ⟨A1, m, c1, rfl, hown, hb⟩

theorem members_set {x n : Nat} (hn : n ≤ 12) (hx : x < 2 ^ n) : SetTo (pumpL (bitP x) 12) n (pumpL (bitP x) 12).length :=
  pumpL_set _ fun s h1 h2 => Classical.byContradiction fun q => bit_out hn hx (by omega) (by omega) ((bitP_pos x s).1 h2)
theorem members_in {x n s : Nat} (hn : n ≤ 12) (hs : s < n) : inS (pumpL (bitP x) 12) s = bitS x s := by
  rw [pumpL_in]
  apply Bool.eq_iff_iff.2
  rw [decide_eq_true_iff, bitP_pos]
  exact ⟨fun h => h.2, fun h => ⟨by omega, h⟩⟩
theorem full_iff {t : Tk} {n x : Nat} (hn : n ≤ 12) (hx : x < 2 ^ n) (can : t.Can (bitS x) n) :
    t.Full n x ↔ pumpL (pl (t.aL (t.ast (bitS x)) n n)) n = pumpL (bitP x) 12 ∧ t.setC n x = t.f n := by
  rw [pumpL_eq hn fun i h1 h2 h3 => bit_out hn hx h1 (by omega) ((bitP_pos x i).1 h3)]
  have e : ∀ i, i < n → pl (t.aL (t.ast (bitS x)) n n) i = t.asg (t.ast (bitS x)) n i := fun i hi => Tk.aL_get _ _ hi
  constructor
  · rintro ⟨_, h, g⟩
    exact ⟨fun i hi => by rw [e i hi, bitP_pos]; exact h i hi, g⟩
  · rintro ⟨h, g⟩
    exact ⟨can, fun i hi => by rw [← e i hi, ← bitP_pos]; exact h i hi, g⟩
theorem set_planIn {t : Tk} {n : Nat} (ok : t.Ok n) (hn : n ≤ 12) (a : Nat → Nat) : PlanIn (pl (t.aL a n n)) n := fun i hi => by
  have := Tk.asg_bound ok hn (a := a) (m := n) (Nat.le_refl n) i
  rw [← Tk.aL_get _ _ hi] at this
  exact this

set_option maxHeartbeats 4000000 in
theorem Count_any (K h : Int) (A : Option Addr) (n c : Nat) (cs : List Int) (A' : Option Addr) (n' c' : Nat) (ds : List Int) (w : World) (hT : Tin w A n c cs A' n' c' ds) :
    Calls Try.prog 53 #[.agg #[.int .i64 K, .int .i64 h, .slice A n c, .slice A' n' c']] w
      (NumPost (okv (errT K h cs ds) ((tk K h cs ds).cn ds.length (2 ^ ds.length) : Nat)) (errT K h cs ds) w) := by
  have HT := hide hT
  have L2 := hT.2.length
  have B0 := hide ((Below.refl w.heap.size w).alloc (Nat.le_refl _) (.cells #[.int .i64 K, .int .i64 h, .slice A n c, .slice A' n' c'] 24))
  have K0 := hide (Bk.born w 24 #[.int .i64 K, .int .i64 h, .slice A n c, .slice A' n' c'])
  clear hT
  by_cases he : errT K h cs ds = 0
  case neg =>
    have HE := hide he
    have he' : (errT K h cs ds != 0) = true := by simpa using he
    clear he
    go_enter Try.func53, Try.ntmps53
    go_wp2_with fail
    refine (Validate_any K h _ n c cs _ n' c' ds _ (HT.out.below B0.out (Nat.le_refl _))).mono ?_
    rintro e w1 ⟨rfl, b1⟩
    go_wp2_with fail
    go_ret2
    exact ⟨ret2_ii (okv_ne HE.out _).symm rfl, B0.out.trans (b1.mono B0.out.size)⟩
  have o := errT_zero he
  have hn1 : 1 ≤ n' := by have := o.n1; omega
  have hn : n' ≤ 12 := by have := o.n2; omega
  obtain rfl : n = n' := by have := o.c.1; have := HT.out.1.length; omega
  have OK := hide (by have := o.tk; rw [L2] at this; exact this)
  have HE := hide he
  have HN := hide L2
  clear o he
  have hmax : n ≤ 9223372036854775807 := by omega
  have wm : min n 64 = n := by omega
  obtain ⟨N, hN⟩ : ∃ N : Nat, 2 ^ n = N := ⟨_, rfl⟩
  have hN2 : N ≤ 4096 := by rw [← hN]; exact Nat.pow_le_pow_right (by omega) hn
  have hNi : (2 : Int) ^ n = N := by rw [← hN]; simp
  have wN : IntKind.i64.wrap ((2 : Int) ^ n) = N := by rw [hNi]; exact IntWalk.i64_in _ (by omega)
  have HNN := hide hN
  rw [L2, HE.out, okv_zero rfl, hN]
  clear hN hNi L2
  go_enter Try.func53, Try.ntmps53
  go_wp2_with fail
  refine (Validate_any K h _ n c cs _ n c' ds _ (HT.out.below B0.out (Nat.le_refl _))).mono ?_
  rw [HE.out]
  rintro e w1 ⟨rfl, b1⟩
  have B1 := hide (B0.out.trans (b1.mono B0.out.size))
  have K1 := hide (K0.out.keep b1 K0.out.in_)
  clear b1
  obtain ⟨k0, k1, k2, k3, _⟩ := K1.out.four
  go_wp2_with fail
  refine (least_any K h _ n c cs _ c' ds _ (HT.out.below B1.out (Nat.le_refl _)) OK.out hn1 hn).mono ?_
  generalize hfz : (tk K h cs ds).f n = fz
  rintro e w2 ⟨rfl, b2⟩
  have HFZ := hide hfz
  clear hfz
  have B2 := hide (B1.out.trans (b2.mono B1.out.size))
  have K2 := hide (K1.out.keep b2 K1.out.in_)
  clear b2 k0 k1 k2 k3
  obtain ⟨k0, k1, k2, k3, _⟩ := K2.out.four
  go_wp2_with fail
  clear k0 k1 k2 k3
  go_loopw [5, 22] (fun v i wr => ∃ j : Nat, j ≤ N ∧ i = .int .i64 j ∧ v = .int .i64 ((tk K h cs ds).cn n j : Nat) ∧
      Bk wr w.heap.size 24 #[.int .i64 K, .int .i64 h, .slice A n c, .slice A' n c'] ∧ Below w.heap.size w wr) (fun _ i _ => N - (intOf i).toNat)
  case atStart => exact ⟨0, by omega, rfl, rfl, K2.out, B2.out⟩
  case round =>
    obtain ⟨j, hj, rfl, rfl, hb, hbel⟩ := hrel
    have HB := hide hb
    have HBL := hide hbel
    clear hb hbel
    obtain ⟨k0, k1, k2, k3, _⟩ := HB.out.four
    by_cases hlt : j < N
    · have l2 : (j : Int) < N := by omega
      have HX := hide (show j < 2 ^ n by rw [HNN.out]; exact hlt)
      have HCL := hide ((tk K h cs ds).cn_le n j)
      have HCN := hide (fun g => Tk.cn_no (t := tk K h cs ds) (n := n) (j := j) g)
      have HCY := hide (fun g => Tk.cn_yes (t := tk K h cs ds) (n := n) (j := j) g)
      generalize (tk K h cs ds).cn n j = q at *
      have wc : IntKind.i64.wrap ((q : Int) + 1) = (q : Int) + 1 := IntWalk.i64_in _ (by have := HCL.out; omega)
      go_wp2_with fail
      refine (members_any j _).mono ?_
      rintro e w3 ⟨A1, m1, c1, rfl, o1, b3⟩
      have B3 := hide (HBL.out.trans (b3.mono HBL.out.size))
      have K3 := hide (HB.out.keep b3 HB.out.in_)
      have O1 := hide o1.row
      have LM := hide o1.len
      clear b3 o1 k0 k1 k2 k3
      obtain ⟨k0, k1, k2, k3, _⟩ := K3.out.four
      go_wp2_with fail
      refine ((at_any K h _ n c cs _ c' ds A1 m1 c1 _ _ (HT.out.below B3.out (Nat.le_refl _)) O1.out OK.out hn1 hn (by rw [← LM.out]; exact members_set hn HX.out)).mono fun _ _ q => q.to (S' := bitS j) fun s hs => members_in hn hs).mono ?_
      rintro e w4 ⟨b4, (⟨hno, rfl⟩ | ⟨hyes, A2, c2, rfl, o2⟩)⟩
      · have B4 := hide (B3.out.trans (b4.mono B3.out.size))
        have K4 := hide (K3.out.keep b4 K3.out.in_)
        have HV := hide (HCN.out fun g => hno g.1)
        clear b4 k0 k1 k2 k3 hno
        go_wp2_with fail
        go_roundw
        case rel => exact ⟨j + 1, by omega, by go_num, by rw [HV.out], K4.out, B4.out⟩
        case measure => simp [intOf]; omega
      · have B4 := hide (B3.out.trans (b4.mono B3.out.size))
        have K4 := hide (K3.out.keep b4 K3.out.in_)
        have R1 := hide (O1.out.below b4 (Nat.le_refl _))
        have R2 := hide o2.row
        have HF := hide (by have := full_iff hn HX.out hyes; rw [HFZ.out] at this; exact this)
        have HP := hide (set_planIn OK.out hn ((tk K h cs ds).ast (bitS j)))
        clear b4 o2 k0 k1 k2 k3 hyes
        obtain ⟨k0, k1, k2, k3, _⟩ := K4.out.four
        go_wp2_with fail
        refine (pumped_any A2 n c2 _ _ R2.out hn).mono ?_
        rintro e w5 ⟨A5, n5, c5, rfl, o5, b5⟩
        have B5 := hide (B4.out.trans (b5.mono B4.out.size))
        have K5 := hide (K4.out.keep b5 K4.out.in_)
        have R5 := hide o5.row
        have RB1 := hide (R1.out.below b5 (Nat.le_refl _))
        have RB2 := hide (R2.out.below b5 (Nat.le_refl _))
        clear b5 o5 k0 k1 k2 k3
        obtain ⟨k0, k1, k2, k3, _⟩ := K5.out.four
        go_wp2_with fail
        refine (Equal_any A5 n5 c5 _ A1 m1 c1 _ _ R5.out RB1.out).mono ?_
        rintro e w6 ⟨rfl, d6⟩
        have b6 := d6.below w5.heap.size
        have B6 := hide (B5.out.trans (b6.mono B5.out.size))
        have K6 := hide (K5.out.keep b6 K5.out.in_)
        have RC2 := hide (RB2.out.below b6 (Nat.le_refl _))
        clear b6 d6 k0 k1 k2 k3
        obtain ⟨k0, k1, k2, k3, _⟩ := K6.out.four
        by_cases hq : pumpL (pl ((tk K h cs ds).aL ((tk K h cs ds).ast (bitS j)) n n)) n = pumpL (bitP j) 12
        · have HQ := hide hq
          rw [eqL_iff.2 hq]
          clear hq
          go_wp2_with fail
          refine (cost_any K h _ n c cs _ c' ds A2 c2 _ _ (HT.out.below B6.out (Nat.le_refl _)) RC2.out OK.out HP.out hn1 hn).mono ?_
          rintro e w7 ⟨rfl, b7⟩
          have B7 := hide (B6.out.trans (b7.mono B6.out.size))
          have K7 := hide (K6.out.keep b7 K6.out.in_)
          clear b7 k0 k1 k2 k3
          rw [show (tk K h cs ds).cost (pl ((tk K h cs ds).aL ((tk K h cs ds).ast (bitS j)) n n)) n = (tk K h cs ds).setC n j from rfl]
          generalize (tk K h cs ds).setC n j = z1 at *
          by_cases hz : z1 = fz
          · have HV := hide (HCY.out (HF.out.2 ⟨HQ.out, hz⟩))
            have hz' : (z1 == fz) = true := by simpa using hz
            go_wp2_with fail
            go_roundw
            case rel => exact ⟨j + 1, by omega, by go_num, by rw [HV.out]; go_num, K7.out, B7.out⟩
            case measure => simp [intOf]; omega
          · have HV := hide (HCN.out fun g => hz (HF.out.1 g).2)
            have hz' : (z1 == fz) = false := by simpa using hz
            go_wp2_with fail
            go_roundw
            case rel => exact ⟨j + 1, by omega, by go_num, by rw [HV.out], K7.out, B7.out⟩
            case measure => simp [intOf]; omega
        · have HV := hide (HCN.out fun g => hq (HF.out.1 g).1)
          rw [show eqL (pumpL (pl ((tk K h cs ds).aL ((tk K h cs ds).ast (bitS j)) n n)) n) (pumpL (bitP j) 12) = false from by
            cases q : eqL (pumpL (pl ((tk K h cs ds).aL ((tk K h cs ds).ast (bitS j)) n n)) n) (pumpL (bitP j) 12) with
            | false => rfl
            | true => exact absurd (eqL_iff.1 q) hq]
          clear hq
          go_wp2_with fail
          go_roundw
          case rel => exact ⟨j + 1, by omega, by go_num, by rw [HV.out], K6.out, B6.out⟩
          case measure => simp [intOf]; omega
    · obtain rfl : j = N := by omega
      go_wp2_with fail
      go_ret2
      exact ⟨rfl, HBL.out⟩

end Go.Proofs.Ytlndjjdggedljaa
