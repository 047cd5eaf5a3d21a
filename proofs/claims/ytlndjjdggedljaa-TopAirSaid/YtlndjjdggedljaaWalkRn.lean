/- Walks of the document's own count of the best sets of hours, and of AirCounts. -/
import Derived.Test.YtlndjjdggedljaaWalkCn
namespace Go.Proofs.Ytlndjjdggedljaa
open Go.RowKit

set_option maxHeartbeats 4000000 in
theorem rCount_any (K h : Int) (A : Option Addr) (n c : Nat) (cs : List Int) (A' : Option Addr) (n' c' : Nat) (ds : List Int) (w : World) (hT : Tin w A n c cs A' n' c' ds) :
    Calls Try.prog 54 #[.agg #[.int .i64 K, .int .i64 h, .slice A n c, .slice A' n' c']] w
      (NumPost (okv (errT K h cs ds) ((tk K h cs ds).cn ds.length (2 ^ ds.length) : Nat)) (errT K h cs ds) w) := by
  have HT := hide hT
  have L2 := hT.2.length
  have B0 := hide ((Below.refl w.heap.size w).alloc (Nat.le_refl _) (.cells #[.int .i64 K, .int .i64 h, .slice A n c, .slice A' n' c'] 24))
  have K0 := hide (Bk.born w 24 #[.int .i64 K, .int .i64 h, .slice A n c, .slice A' n' c'])
  clear hT
  by_cases he : errT K h cs ds = 0
  case neg =>
    have HE := hide he
    have he' : (errT K h cs ds != 0) = true := by simpa using he
    clear he
    go_enter Try.func54, Try.ntmps54
    go_wp2_with fail
    refine (rValidate_any K h _ n c cs _ n' c' ds _ (HT.out.below B0.out (Nat.le_refl _))).mono ?_
    rintro e w1 ⟨rfl, b1⟩
    go_wp2_with fail
    go_ret2
    exact ⟨ret2_ii (okv_ne HE.out _).symm rfl, B0.out.trans (b1.mono B0.out.size)⟩
  have o := errT_zero he
  have hn1 : 1 ≤ n' := by have := o.n1; omega
  have hn : n' ≤ 12 := by have := o.n2; omega
  obtain rfl : n = n' := by have := o.c.1; have := HT.out.1.length; omega
  have OK := hide (by have := o.tk; rw [L2] at this; exact this)
  have HE := hide he
  have HA := hide (lb_all OK.out hn)
  clear o he
  have hmax : n ≤ 9223372036854775807 := by omega
  have wu : IntKind.u64.wrap (n : Int) = n := IntWalk.u64_in _ (by omega)
  have wm : min n 64 = n := by omega
  obtain ⟨N, hN⟩ : ∃ N : Nat, 2 ^ n = N := ⟨_, rfl⟩
  have hN2 : N ≤ 4096 := by rw [← hN]; exact Nat.pow_le_pow_right (by omega) hn
  have hNi : (2 : Int) ^ n = N := by rw [← hN]; simp
  have wN : IntKind.i64.wrap ((2 : Int) ^ n) = N := by rw [hNi]; exact IntWalk.i64_in _ (by omega)
  have HNN := hide hN
  rw [L2, HE.out, okv_zero rfl, hN]
  clear hN hNi L2
  go_enter Try.func54, Try.ntmps54
  go_wp2_with fail
  refine (rValidate_any K h _ n c cs _ n c' ds _ (HT.out.below B0.out (Nat.le_refl _))).mono ?_
  rw [HE.out]
  rintro e w1 ⟨rfl, b1⟩
  have B1 := hide (B0.out.trans (b1.mono B0.out.size))
  have K1 := hide (K0.out.keep b1 K0.out.in_)
  clear b1
  obtain ⟨k0, k1, k2, k3, _⟩ := K1.out.four
  go_wp2_with fail
  refine (rleast_any K h _ n c cs _ c' ds _ (HT.out.below B1.out (Nat.le_refl _)) OK.out hn1 hn).mono ?_
  rw [HA.out]
  generalize hfz : (tk K h cs ds).f n = fz
  rintro e w2 ⟨rfl, b2⟩
  have HFZ := hide hfz
  clear hfz
  have B2 := hide (B1.out.trans (b2.mono B1.out.size))
  have K2 := hide (K1.out.keep b2 K1.out.in_)
  clear b2 k0 k1 k2 k3
  go_wp2_with fail
  go_loopw [6, 7] (fun v i wr => ∃ j : Nat, j ≤ N ∧ i = .int .i64 j ∧ v = .int .i64 ((tk K h cs ds).cn n j : Nat) ∧
      Bk wr w.heap.size 24 #[.int .i64 K, .int .i64 h, .slice A n c, .slice A' n c'] ∧ Below w.heap.size w wr) (fun _ i _ => N - (intOf i).toNat)
  case atStart => exact ⟨0, by omega, rfl, rfl, K2.out, B2.out⟩
  case round =>
    obtain ⟨j, hj, rfl, rfl, hb, hbel⟩ := hrel
    have HB := hide hb
    have HBL := hide hbel
    clear hb hbel
    obtain ⟨k0, k1, k2, k3, _⟩ := HB.out.four
    by_cases hlt : j < N
    · have l2 : (j : Int) < N := by omega
      have HX := hide (show j < 2 ^ n by rw [HNN.out]; exact hlt)
      have HCL := hide ((tk K h cs ds).cn_le n j)
      have HCN := hide (fun g => Tk.cn_no (t := tk K h cs ds) (n := n) (j := j) g)
      have HCY := hide (fun g => Tk.cn_yes (t := tk K h cs ds) (n := n) (j := j) g)
      generalize (tk K h cs ds).cn n j = q at *
      have wc : IntKind.i64.wrap ((q : Int) + 1) = (q : Int) + 1 := IntWalk.i64_in _ (by have := HCL.out; omega)
      go_wp2_with fail
      refine (rat_any K h _ n c cs _ c' ds j _ (HT.out.below HBL.out (Nat.le_refl _)) OK.out hn1 hn).mono ?_
      rintro e w4 ⟨b4, (⟨hno, rfl⟩ | ⟨hyes, A2, c2, rfl, o2⟩)⟩
      · have B4 := hide (HBL.out.trans (b4.mono HBL.out.size))
        have K4 := hide (HB.out.keep b4 HB.out.in_)
        have HV := hide (HCN.out fun g => hno g.1)
        clear b4 k0 k1 k2 k3 hno
        go_wp2_with fail
        go_roundw
        case rel => exact ⟨j + 1, by omega, by go_num, by rw [HV.out], K4.out, B4.out⟩
        case measure => simp [intOf]; omega
      · have B4 := hide (HBL.out.trans (b4.mono HBL.out.size))
        have K4 := hide (HB.out.keep b4 HB.out.in_)
        have R2 := hide o2.row
        have HF := hide (by have := full_iff hn HX.out hyes; rw [HFZ.out] at this; exact this)
        have HP := hide (set_planIn OK.out hn ((tk K h cs ds).ast (bitS j)))
        clear b4 o2 k0 k1 k2 k3 hyes
        obtain ⟨k0, k1, k2, k3, _⟩ := K4.out.four
        go_wp2_with fail
        refine (rcost_any K h _ n c cs _ c' ds A2 c2 _ _ (HT.out.below B4.out (Nat.le_refl _)) R2.out OK.out HP.out hn1 hn).mono ?_
        rintro e w7 ⟨rfl, b7⟩
        have B7 := hide (B4.out.trans (b7.mono B4.out.size))
        have K7 := hide (K4.out.keep b7 K4.out.in_)
        have R7 := hide (R2.out.below b7 (Nat.le_refl _))
        clear b7 k0 k1 k2 k3
        rw [show (tk K h cs ds).cost (pl ((tk K h cs ds).aL ((tk K h cs ds).ast (bitS j)) n n)) n = (tk K h cs ds).setC n j from rfl]
        generalize (tk K h cs ds).setC n j = z1 at *
        by_cases hz : z1 = fz
        case neg =>
          have HV := hide (HCN.out fun g => hz (HF.out.1 g).2)
          have hz' : (z1 != fz) = true := by simpa using hz
          go_wp2_with fail
          go_roundw
          case rel => exact ⟨j + 1, by omega, by go_num, by rw [HV.out], K7.out, B7.out⟩
          case measure => simp [intOf]; omega
        have HZ := hide hz
        have hz' : (z1 != fz) = false := by simpa using hz
        clear hz
        have HFI := hide (show (tk K h cs ds).Full n j ↔ ∀ i, i < n → (0 < pl ((tk K h cs ds).aL ((tk K h cs ds).ast (bitS j)) n n) i ↔ bitS j i = true) by
          rw [HF.out, pumpL_eq hn fun i h1 h2 h3 => bit_out hn HX.out h1 (by omega) ((bitP_pos j i).1 h3)]
          constructor
          · rintro ⟨g, _⟩ i hi; rw [g i hi, bitP_pos]
          · intro g; exact ⟨fun i hi => by rw [g i hi, bitP_pos], HZ.out⟩)
        generalize (tk K h cs ds).aL ((tk K h cs ds).ast (bitS j)) n n = la at *
        go_wp2_with fail
        go_loopw [10, 11] (fun v i wi => ∃ (k : Nat) (b : Bool), k ≤ n ∧ i = .int .i64 k ∧ v = .bool b ∧ (b = true ↔ ∀ i, i < k → (0 < pl la i ↔ bitS j i = true)) ∧
            Bk wi w.heap.size 24 #[.int .i64 K, .int .i64 h, .slice A n c, .slice A' n c'] ∧ Below w7.heap.size w7 wi) (fun _ i _ => n - (intOf i).toNat)
        case atStart => exact ⟨0, true, by omega, rfl, rfl, by simp, K7.out, Below.refl _ _⟩
        case round =>
          obtain ⟨k, b, hk, rfl, rfl, hbi, hb, hbel⟩ := hrel
          have HBI := hide hbi
          have HBk := hide hb
          have HBi := hide hbel
          clear hbi hb hbel
          by_cases hlk : k < n
          · obtain ⟨bp, offp, rp⟩ := R7.out
            obtain rfl := rp.at_ (by omega)
            have rcap := rp.cap
            have rmax := rp.max
            have cz := (rp.below HBi.out (Nat.le_refl _)).cell k hlk
            rw [show la.getD k 0 = pl la k from rfl] at cz
            have l3 : (k : Int) < n := by omega
            cases b with
            | false =>
              have HNX := hide (show (false = true ↔ ∀ i, i < k + 1 → (0 < pl la i ↔ bitS j i = true)) by
                constructor
                · intro g; cases g
                · intro g; exact HBI.out.2 fun i hi => g i (by omega))
              go_wp2_with fail
              go_roundw
              case rel => exact ⟨k + 1, false, by omega, by go_num, rfl, HNX.out, HBk.out, HBi.out⟩
              case measure => simp [intOf]; omega
            | true =>
              have HNX := hide (fun (b : Bool) (e : b = true ↔ (0 < pl la k ↔ bitS j k = true)) => show (b = true ↔ ∀ i, i < k + 1 → (0 < pl la i ↔ bitS j i = true)) by
                rw [e]
                constructor
                · intro g i hi
                  by_cases q : i = k
                  · subst q; exact g
                  · exact HBI.out.1 rfl i (by omega)
                · intro g; exact g k (by omega))
              have bt := bit_fact (x := j) (k := k) (by omega)
              have wq : IntKind.u64.wrap (k : Int) = k := IntWalk.u64_in _ (by omega)
              have wk : min k 64 = k := by omega
              generalize hbb : bits BinOp.and IntKind.i64 ((j : Int) / 2 ^ k) 1 = bb at *
              generalize pl la k = z at *
              cases hS : bitS j k with
              | true =>
                rw [hS] at bt HNX
                have bt2 : bb = 1 := by simpa using bt.symm
                subst bt2
                clear bt
                by_cases hp : 0 < z
                · go_wp2_with fail
                  go_roundw
                  case rel => exact ⟨k + 1, true, by omega, by go_num, rfl, HNX.out true (by simp [hp]), HBk.out, HBi.out⟩
                  case measure => simp [intOf]; omega
                · go_wp2_with fail
                  go_roundw
                  case rel => exact ⟨k + 1, false, by omega, by go_num, rfl, HNX.out false (by simp [hp]), HBk.out, HBi.out⟩
                  case measure => simp [intOf]; omega
              | false =>
                rw [hS] at bt HNX
                have bt2 : ¬ bb = 1 := by intro q; rw [q] at bt; cases bt
                have bt3 : (bb == 1) = false := bt.symm
                clear bt
                by_cases hp : 0 < z
                · go_wp2_with fail
                  go_roundw
                  case rel => exact ⟨k + 1, false, by omega, by go_num, rfl, HNX.out false (by simp [hp]), HBk.out, HBi.out⟩
                  case measure => simp [intOf]; omega
                · go_wp2_with fail
                  go_roundw
                  case rel => exact ⟨k + 1, true, by omega, by go_num, rfl, HNX.out true (by simp [hp]), HBk.out, HBi.out⟩
                  case measure => simp [intOf]; omega
          · obtain rfl : k = n := by omega
            have LZ := hide (B7.out.trans (HBi.out.mono B7.out.size))
            cases b with
            | true =>
              have HV := hide (HCY.out (HFI.out.2 (HBI.out.1 rfl)))
              go_wp2_with fail
              go_roundw
              case rel => exact ⟨j + 1, by omega, by go_num, by rw [HV.out]; go_num, HBk.out, LZ.out⟩
              case measure => simp [intOf]; omega
            | false =>
              have HV := hide (HCN.out fun g => by have := HBI.out.2 (HFI.out.1 g); cases this)
              go_wp2_with fail
              go_roundw
              case rel => exact ⟨j + 1, by omega, by go_num, by rw [HV.out], HBk.out, LZ.out⟩
              case measure => simp [intOf]; omega
    · obtain rfl : j = N := by omega
      go_wp2_with fail
      go_ret2
      exact ⟨rfl, HBL.out⟩

set_option maxHeartbeats 4000000 in
theorem AirCounts_walk (K h : Int) (A : Option Addr) (n c : Nat) (cs : List Int) (A' : Option Addr) (n' c' : Nat) (ds : List Int) (w : World)
    (hT : Tin w A n c cs A' n' c' ds) :
    Calls Try.prog 15 #[.agg #[.int .i64 K, .int .i64 h, .slice A n c, .slice A' n' c']] w fun e w' => e = .returned (.bool true) ∧ Below w.heap.size w w' := by
  have HT := hide hT
  have B0 := hide ((Below.refl w.heap.size w).alloc (Nat.le_refl _) (.cells #[.int .i64 K, .int .i64 h, .slice A n c, .slice A' n' c'] 24))
  have K0 := hide (Bk.born w 24 #[.int .i64 K, .int .i64 h, .slice A n c, .slice A' n' c'])
  clear hT
  by_cases hL : 100 < n ∨ 100 < n'
  case pos =>
    go_enter Try.func15, Try.ntmps15
    go_wp2_with fail
    refine (Long_any K h _ n c cs _ n' c' ds _ (HT.out.below B0.out (Nat.le_refl _))).mono ?_
    rw [decide_eq_true hL]
    rintro e w1 ⟨rfl, b1⟩
    have B1 := hide (B0.out.trans (b1.mono B0.out.size))
    have K1 := hide (K0.out.keep b1 K0.out.in_)
    clear b1
    go_wp2_with fail
    refine (known_any _).mono ?_
    rintro e wz ⟨rfl, bz⟩
    go_wp2_with fail
    go_ret
    exact ⟨rfl, B1.out.trans (bz.mono B1.out.size)⟩
  go_enter Try.func15, Try.ntmps15
  go_wp2_with fail
  refine (Long_any K h _ n c cs _ n' c' ds _ (HT.out.below B0.out (Nat.le_refl _))).mono ?_
  rw [decide_eq_false hL]
  rintro e w1 ⟨rfl, b1⟩
  have B1 := hide (B0.out.trans (b1.mono B0.out.size))
  have K1 := hide (K0.out.keep b1 K0.out.in_)
  clear b1
  obtain ⟨k0, k1, k2, k3, _⟩ := K1.out.four
  have CP := hide (fun o => cn_some (t := tk K h cs ds) (OkT.tk (K := K) (h := h) (cs := cs) (ds := ds) o) o.n2)
  generalize hq : (tk K h cs ds).cn ds.length (2 ^ ds.length) = q at *
  by_cases he : errT K h cs ds = 0
  case neg =>
    have he' : (errT K h cs ds != 0) = true := by simpa using he
    have HV := hide (okv_ne he)
    clear he
    go_wp2_with fail
    refine (Count_any K h _ n c cs _ n' c' ds _ (HT.out.below B1.out (Nat.le_refl _))).mono ?_
    rw [hq]
    rw [HV.out]
    rintro e w2 ⟨rfl, b2⟩
    have B2 := hide (B1.out.trans (b2.mono B1.out.size))
    have K2 := hide (K1.out.keep b2 K1.out.in_)
    clear b2
    clear k0 k1 k2 k3
    obtain ⟨k0, k1, k2, k3, _⟩ := K2.out.four
    go_wp2_with fail
    refine (rCount_any K h _ n c cs _ n' c' ds _ (HT.out.below B2.out (Nat.le_refl _))).mono ?_
    rw [hq]
    rw [HV.out]
    rintro e w3 ⟨rfl, b3⟩
    have B3 := hide (B2.out.trans (b3.mono B2.out.size))
    have K3 := hide (K2.out.keep b3 K2.out.in_)
    clear b3
    clear k0 k1 k2 k3
    go_wp2_with fail
    refine (known_any _).mono ?_
    rintro e wz ⟨rfl, bz⟩
    go_wp2_with fail
    go_ret
    exact ⟨rfl, B3.out.trans (bz.mono B3.out.size)⟩
  have HE := hide he
  have q0 := CP.out (errT_zero he)
  clear he
  go_wp2_with fail
  refine (Count_any K h _ n c cs _ n' c' ds _ (HT.out.below B1.out (Nat.le_refl _))).mono ?_
  rw [hq]
  rw [HE.out]
  rw [okv_zero rfl]
  rintro e w2 ⟨rfl, b2⟩
  have B2 := hide (B1.out.trans (b2.mono B1.out.size))
  have K2 := hide (K1.out.keep b2 K1.out.in_)
  clear b2
  clear k0 k1 k2 k3
  obtain ⟨k0, k1, k2, k3, _⟩ := K2.out.four
  go_wp2_with fail
  refine (rCount_any K h _ n c cs _ n' c' ds _ (HT.out.below B2.out (Nat.le_refl _))).mono ?_
  rw [hq]
  rw [HE.out]
  rw [okv_zero rfl]
  rintro e w3 ⟨rfl, b3⟩
  have B3 := hide (B2.out.trans (b3.mono B2.out.size))
  have K3 := hide (K2.out.keep b3 K2.out.in_)
  clear b3
  clear k0 k1 k2 k3
  go_wp2_with fail
  refine (known_any _).mono ?_
  rintro e wz ⟨rfl, bz⟩
  go_wp2_with fail
  go_ret
  exact ⟨rfl, B3.out.trans (bz.mono B3.out.size)⟩

end Go.Proofs.Ytlndjjdggedljaa
