/- Group 6: texts WalkU, WalkPr, MathE, WalkV, WalkPv. -/
import Derived.Test.YtlndjjdggedljaaG5
/- WalkU -/
namespace Go.Proofs.Ytlndjjdggedljaa
open Go.RowKit

set_option maxHeartbeats 1000000 in
theorem rway_any (K h : Int) (A : Option Addr) (n c : Nat) (cs : List Int) (A' : Option Addr) (n' c' : Nat) (ds : List Int) (s u : Nat) (w : World) (hT : Tin w A n c cs A' n' c' ds)
    (ok : (tk K h cs ds).Ok n) (hs : s ≤ u) (hu : u < n) (hn : n ≤ 12) :
    Calls Try.prog 74 #[.agg #[.int .i64 K, .int .i64 h, .slice A n c, .slice A' n' c'], .int .i64 s, .int .i64 u] w fun e w' =>
      e = .returned (.int .i64 ((tk K h cs ds).way s u)) ∧ Below w.heap.size w w' := by
  have h0 := ok.h0
  have h1 := ok.h1
  have c0 := ok.c0 s (by omega)
  have c1 := ok.c1 s (by omega)
  rw [tk_c] at c0 c1
  replace h0 : 0 ≤ h := h0
  replace h1 : h ≤ 20 := h1
  have B := hide ((Below.refl w.heap.size w).alloc (Nat.le_refl _) (.cells #[.int .i64 K, .int .i64 h, .slice A n c, .slice A' n' c'] 24))
  obtain ⟨b, off, r⟩ := hT.1
  obtain rfl := r.at_ (by omega)
  have cell := (r.alloc (.cells #[.int .i64 K, .int .i64 h, .slice (some ⟨b, off, none⟩) n c, .slice A' n' c'] 24)).cell s (by omega)
  have hv : (tk K h cs ds).way s u = cs.getD s 0 + h * ((u : Int) - (s : Int)) := rfl
  have HV := hide hv
  have hcap := r.cap
  have hmax := r.max
  clear hT r hv ok
  generalize cs.getD s 0 = x at *
  have m0 : 0 ≤ h * ((u : Int) - (s : Int)) := Int.mul_nonneg h0 (by omega)
  have m1 : h * ((u : Int) - (s : Int)) ≤ 20 * 11 := Int.mul_le_mul h1 (by omega) (by omega) (by omega)
  have w1 : IntKind.i64.wrap ((u : Int) - (s : Int)) = (u : Int) - (s : Int) := IntWalk.i64_in _ (by omega)
  have w2 : IntKind.i64.wrap (h * ((u : Int) - (s : Int))) = h * ((u : Int) - (s : Int)) := IntWalk.i64_in _ (by omega)
  have w3 : IntKind.i64.wrap (x + h * ((u : Int) - (s : Int))) = x + h * ((u : Int) - (s : Int)) := IntWalk.i64_in _ (by omega)
  have l2 : (s : Int) < n := by omega
  go_enter Try.func74, Try.ntmps74
  go_wp2_with fail
  go_quiet (fail)
  clear w1 w2 w3
  go_wp2
  go_ret
  exact ⟨ret_i64 HV.out.symm, below_drewN B.out _⟩


set_option maxHeartbeats 4000000 in
theorem rCheckPrices_any (K h : Int) (A : Option Addr) (n c : Nat) (cs : List Int) (A' : Option Addr) (n' c' : Nat) (ds : List Int) (P : Option Addr) (np pc : Nat) (vs : List Int) (w : World)
    (hT : Tin w A n c cs A' n' c' ds) (hP : Row w P np pc vs) :
    Calls Try.prog 39 #[.agg #[.int .i64 K, .int .i64 h, .slice A n c, .slice A' n' c'], .slice P np pc] w
      (NumPost (okv (errV K h cs ds vs) (sm (pl vs) 0 ds.length)) (errV K h cs ds vs) w) := by
  have HT := hide hT
  have HPr := hide hP
  have L1 := hT.1.length
  have L2 := hT.2.length
  have L3 := hP.length
  have B0 := hide ((Below.refl w.heap.size w).alloc (Nat.le_refl _) (.cells #[.int .i64 K, .int .i64 h, .slice A n c, .slice A' n' c'] 24))
  have K0 := hide (Bk.born w 24 #[.int .i64 K, .int .i64 h, .slice A n c, .slice A' n' c'])
  clear hT hP
  by_cases o : OkT K h cs ds
  case neg =>
    have HV := hide (errV_task (vs := vs) o)
    have HE := hide (errT_no o)
    clear o
    go_enter Try.func39, Try.ntmps39
    go_wp2_with fail
    refine (rValidate_any K h _ n c cs _ n' c' ds _ (HT.out.alloc _)).mono ?_
    rw [HE.out]
    rintro e w1 ⟨rfl, b1⟩
    go_wp2_with fail
    go_ret2
    exact ⟨ret2_ii (by rw [HV.out]; rfl) HV.out.symm, B0.out.trans (b1.mono (by simp))⟩
  have hn1 : 1 ≤ n' := by have := o.n1; omega
  have hn2 : n' ≤ 12 := by have := o.n2; omega
  have hcn : cs.length = ds.length := by have := o.c.1; omega
  obtain rfl : n = n' := by omega
  have HE := hide (errT_ok o)
  have HN := hide L2
  by_cases a : AllOk vs ds.length 100000
  case neg =>
    have HV := hide (errV_arg (K := K) (h := h) (cs := cs) a)
    have ha := allB_false a
    rw [L2] at ha
    clear o a L1 L2 L3 hcn
    go_enter Try.func39, Try.ntmps39
    go_wp2_with fail
    refine (rValidate_any K h _ n c cs _ n c' ds _ (HT.out.alloc _)).mono ?_
    rw [HE.out]
    rintro e w1 ⟨rfl, b1⟩
    have B1 := hide (B0.out.trans (b1.mono (by simp)))
    have K1 := hide (K0.out.keep b1 (by simp))
    obtain ⟨k0, k1, k2, k3, _⟩ := K1.out.four
    clear b1
    go_wp2_with fail
    refine (rall_any _ np pc vs n 100000 _ (HPr.out.below B1.out (Nat.le_refl _))).mono ?_
    rw [ha]
    rintro e w2 ⟨rfl, rfl⟩
    go_wp2_with fail
    go_ret2
    exact ⟨ret2_ii (by rw [HV.out]; rfl) HV.out.symm, B1.out⟩
  have ha := allB_true a
  rw [L2] at ha
  obtain rfl : np = n := by have := a.1; omega
  have OK := hide (by have := o.tk; rw [L2] at this; exact this)
  have HPl := hide (by have := a.price; rw [L2] at this; exact this)
  have HF := hide (fun (f : (tk K h cs ds).Holds (pl vs) np) => errV_ok o a (by rw [L2]; exact f))
  have HFn := hide (fun (f : ¬ (tk K h cs ds).Holds (pl vs) np) => errV_proof o a (by rw [L2]; exact f))
  clear o a L1 L2 L3 hcn
  go_enter Try.func39, Try.ntmps39
  go_wp2_with fail
  refine (rValidate_any K h _ np c cs _ np c' ds _ (HT.out.alloc _)).mono ?_
  rw [HE.out]
  rintro e w1 ⟨rfl, b1⟩
  have B1 := hide (B0.out.trans (b1.mono (by simp)))
  have K1 := hide (K0.out.keep b1 (by simp))
  obtain ⟨k0, k1, k2, k3, _⟩ := K1.out.four
  clear b1
  go_wp2_with fail
  refine (rall_any _ np pc vs np 100000 _ (HPr.out.below B1.out (Nat.le_refl _))).mono ?_
  rw [ha]
  rintro e w2 ⟨rfl, rfl⟩
  have RT := hide HT.out.2
  obtain ⟨b, off, r⟩ := RT.out
  obtain rfl := r.at_ (by omega)
  obtain ⟨bp, offp, rp⟩ := HPr.out
  obtain rfl := rp.at_ (by omega)
  have R := hide (r.below B1.out (Nat.le_refl _))
  have RP := hide (rp.below B1.out (Nat.le_refl _))
  have HT1 := hide (HT.out.below B1.out (Nat.le_refl _))
  have hcap := r.cap
  have hmax := r.max
  have hcapp := rp.cap
  have hmaxp := rp.max
  clear r rp k0 k1 k2 k3
  have K0n := OK.out.K0
  have K1n := OK.out.K1
  replace K0n : 0 ≤ K := K0n
  replace K1n : K ≤ 999 := K1n
  go_wp2_with fail
  go_loopw [7, 8] (fun v i wr => ∃ q : Nat, q ≤ np ∧ i = .int .i64 q ∧ v = .int .i64 (sm (pl vs) 0 q) ∧ HoldTo (tk K h cs ds) (pl vs) np q ∧
      Bk wr w.heap.size 24 #[.int .i64 K, .int .i64 h, .slice A np c, .slice (some ⟨b, off, none⟩) np c'] ∧ Below w1.heap.size w1 wr) (fun _ i _ => np - (intOf i).toNat)
  case atStart => exact ⟨0, by omega, rfl, rfl, holdTo_zero _ _ _, K1.out, Below.refl _ _⟩
  case round =>
    obtain ⟨q, hq, rfl, rfl, hh, hb, hbel⟩ := hrel
    have s0 := HPl.out.sum hq
    by_cases hqn : q < np
    · have HY := hide (fun e => holdTo_succ hh e)
      replace HY : Hid (((tk K h cs ds).d q = 0 → pl vs q = 0) ∧ (tk K h cs ds).above (pl vs) q np ≤ K → HoldTo (tk K h cs ds) (pl vs) np (q + 1)) := HY
      have HNo := hide (fun (e : ¬ (((tk K h cs ds).d q = 0 → pl vs q = 0) ∧ (tk K h cs ds).above (pl vs) q np ≤ K)) => HFn.out fun f => e (f q hqn))
      have dd0 := OK.out.d0 q hqn
      have pp0 := HPl.out q hqn
      have cd := (R.out.below hbel (Nat.le_refl _)).cell q hqn
      have cp := (RP.out.below hbel (Nat.le_refl _)).cell q hqn
      rw [← tk_d K h cs ds q] at cd
      rw [show vs.getD q 0 = pl vs q from rfl] at cp
      have HSU := hide (sm_succ (f := pl vs) (s := 0) (n := q) (Nat.zero_le _))
      generalize hu : sm (pl vs) 0 q = su at *
      generalize hy : (tk K h cs ds).d q = y at *
      generalize hz : pl vs q = z at *
      have HBx := hide hb
      have HBLx := hide hbel
      have HYq := hide hy
      have HZq := hide hz
      clear hh hbel hu hy hz
      obtain ⟨k0, k1, k2, k3, kin⟩ := hb.four
      clear hb
      have l2 : (q : Int) < np := by omega
      by_cases hbad : y = 0 ∧ z ≠ 0
      · obtain ⟨rfl, hz0⟩ := hbad
        have hz1 : (z != 0) = true := by simpa using hz0
        have HV := hide (HNo.out fun e => hz0 (e.1 rfl))
        go_wp2_with fail
        go_ret2
        exact ⟨ret2_ii (by rw [HV.out]; rfl) HV.out.symm, B1.out.trans (HBLx.out.mono B1.out.size)⟩
      have HG := hide (fun (h0 : y = 0) => (Classical.not_not.1 fun hz0 => hbad ⟨h0, hz0⟩ : z = 0))
      have wsu : IntKind.i64.wrap (su + z) = su + z := IntWalk.i64_in _ (by omega)
      by_cases h0 : y = 0
      · have hz0 := HG.out h0
        subst h0 hz0
        go_wp2_with fail
        go_loopw [9, 10] (fun u i wi => ∃ k : Nat, q ≤ k ∧ k ≤ np ∧ i = .int .i64 k ∧ u = .int .i64 ((tk K h cs ds).above (pl vs) q k) ∧
            Bk wi w.heap.size 24 #[.int .i64 K, .int .i64 h, .slice A np c, .slice (some ⟨b, off, none⟩) np c'] ∧ Below w1.heap.size w1 wi) (fun _ i _ => np - (intOf i).toNat)
        case atStart => exact ⟨q, by omega, by omega, rfl, by simp [Tk.above, sm_self], HBx.out, HBLx.out⟩
        case round =>
          obtain ⟨k, hk0, hk, rfl, rfl, hb, hbel⟩ := hrel
          have u0 := OK.out.above_in HPl.out q (m := k) hk
          by_cases hlt : k < np
          · have d0 := OK.out.d0 k hlt
            have d1 := OK.out.d1 k hlt
            have x0 := OK.out.dw0 (s := q) (u := k) hk0 hlt
            have x1 := OK.out.dw1 (s := q) (u := k) hk0 hlt hn2
            have p0 := HPl.out k hlt
            have AS := hide (Tk.above_succ (tk K h cs ds) (pl vs) (s := q) (n := k) hk0)
            have AO := hide (show (tk K h cs ds).over (pl vs) q k = if pl vs k - (tk K h cs ds).d k * (tk K h cs ds).way q k < 0 then 0 else pl vs k - (tk K h cs ds).d k * (tk K h cs ds).way q k from rfl)
            have cd := (R.out.below hbel (Nat.le_refl _)).cell k hlt
            have cp := (RP.out.below hbel (Nat.le_refl _)).cell k hlt
            rw [← tk_d K h cs ds k] at cd
            rw [show vs.getD k 0 = pl vs k from rfl] at cp
            have HW := hide (fun W hw => rway_any K h A np c cs (some ⟨b, off, none⟩) np c' ds q k W hw OK.out hk0 hlt hn2)
            generalize (tk K h cs ds).above (pl vs) q k = u at *
            generalize (tk K h cs ds).over (pl vs) q k = ov at *
            generalize (tk K h cs ds).d k = y' at *
            generalize (tk K h cs ds).way q k = z' at *
            generalize pl vs k = v' at *
            obtain ⟨k0, k1, k2, k3, kin⟩ := hb.four
            have HB := hide hb
            have HBL := hide hbel
            have HTR := hide (HT1.out.below hbel (Nat.le_refl _))
            have hbx : b < wr.heap.size := (R.out.below hbel (Nat.le_refl _)).lt (by omega)
            have hby : bp < wr.heap.size := (RP.out.below hbel (Nat.le_refl _)).lt (by omega)
            have hsz := hbel.size
            clear hb hbel
            have ww1 : IntKind.i64.wrap (y' * z') = y' * z' := IntWalk.i64_in _ (by omega)
            have ww2 : IntKind.i64.wrap (v' - y' * z') = v' - y' * z' := IntWalk.i64_in _ (by omega)
            have ww3 : IntKind.i64.wrap (u + (v' - y' * z')) = u + (v' - y' * z') := IntWalk.i64_in _ (by omega)
            have l2 : (k : Int) < np := by omega
            go_wp2_with fail
            go_region_held3 (fun w' => w'.cell? ⟨w.heap.size, 0, none⟩ = some (.int .i64 K) ∧ w'.cell? ⟨w.heap.size, 1, none⟩ = some (.int .i64 h) ∧ w'.cell? ⟨w.heap.size, 2, none⟩ = some (.slice A np c) ∧ w'.cell? ⟨w.heap.size, 3, none⟩ = some (.slice (some ⟨b, off, none⟩) np c') ∧ w'.cell? ⟨b, off + k, none⟩ = some (.int .i64 y') ∧ w'.cell? ⟨bp, offp + k, none⟩ = some (.int .i64 v'))
              (first
                | go_keep
                | (go_split_ands
                   refine ⟨?_, ?_, ?_, ?_, ?_, ?_⟩ <;> (rw [hb8.cell (by simp; omega)]; assumption)))
              (first
                | (go_at_call 74; refine (HW.out _ (HTR.out.below (below_drewN (Below.refl wr.heap.size wr) 1) (Nat.le_refl _))).mono ?_; rintro e8 w8 ⟨rfl, hb8⟩))
            all_goals
              clear ww1 ww2 ww3
              have ov1 : 0 ≤ ov ∧ ov ≤ 100000 := by rw [AO.out]; split <;> omega
              have e9 : (if y' * z' < v' then v' - y' * z' else 0) = ov := by rw [AO.out]; split <;> split <;> omega
              rw [e9]
              have w4 : IntKind.i64.wrap (u + ov) = u + ov := IntWalk.i64_in _ (by omega)
              rw [w4]
              clear e9 w4
              go_wp2_with fail
              go_roundw
              case rel => exact ⟨k + 1, by omega, by omega, by go_num, by rw [AS.out], (HB.out.draws 1).keep hb8 kin, (below_drewN HBL.out 1).trans (hb8.mono (by simp; omega))⟩
              case measure => simp [intOf]; omega
          · obtain rfl : k = np := by omega
            have HBi := hide hb
            have HLi := hide hbel
            obtain ⟨k0, k1, k2, k3, kin⟩ := hb.four
            clear hb hbel
            generalize (tk K h cs ds).above (pl vs) q k = u at *
            by_cases hu : K < u
            · have HV := hide (HNo.out fun e => by have := e.2; omega)
              go_wp2_with fail
              go_ret2
              exact ⟨ret2_ii (by rw [HV.out]; rfl) HV.out.symm, B1.out.trans (HLi.out.mono B1.out.size)⟩
            · go_wp2_with fail
              go_roundw
              case rel => exact ⟨q + 1, by omega, by go_num, (by rw [HSU.out]; try simp), HY.out ⟨HG.out, by omega⟩, HBi.out, HLi.out⟩
              case measure => simp [intOf]; omega

      · have hye : (y == 0) = false := by simpa using h0
        clear h0 hbad
        go_wp2_with fail
        go_loopw [9, 10] (fun u i wi => ∃ k : Nat, q ≤ k ∧ k ≤ np ∧ i = .int .i64 k ∧ u = .int .i64 ((tk K h cs ds).above (pl vs) q k) ∧
            Bk wi w.heap.size 24 #[.int .i64 K, .int .i64 h, .slice A np c, .slice (some ⟨b, off, none⟩) np c'] ∧ Below w1.heap.size w1 wi) (fun _ i _ => np - (intOf i).toNat)
        case atStart => exact ⟨q, by omega, by omega, rfl, by simp [Tk.above, sm_self], HBx.out, HBLx.out⟩
        case round =>
          obtain ⟨k, hk0, hk, rfl, rfl, hb, hbel⟩ := hrel
          have u0 := OK.out.above_in HPl.out q (m := k) hk
          by_cases hlt : k < np
          · have d0 := OK.out.d0 k hlt
            have d1 := OK.out.d1 k hlt
            have x0 := OK.out.dw0 (s := q) (u := k) hk0 hlt
            have x1 := OK.out.dw1 (s := q) (u := k) hk0 hlt hn2
            have p0 := HPl.out k hlt
            have AS := hide (Tk.above_succ (tk K h cs ds) (pl vs) (s := q) (n := k) hk0)
            have AO := hide (show (tk K h cs ds).over (pl vs) q k = if pl vs k - (tk K h cs ds).d k * (tk K h cs ds).way q k < 0 then 0 else pl vs k - (tk K h cs ds).d k * (tk K h cs ds).way q k from rfl)
            have cd := (R.out.below hbel (Nat.le_refl _)).cell k hlt
            have cp := (RP.out.below hbel (Nat.le_refl _)).cell k hlt
            rw [← tk_d K h cs ds k] at cd
            rw [show vs.getD k 0 = pl vs k from rfl] at cp
            have HW := hide (fun W hw => rway_any K h A np c cs (some ⟨b, off, none⟩) np c' ds q k W hw OK.out hk0 hlt hn2)
            generalize (tk K h cs ds).above (pl vs) q k = u at *
            generalize (tk K h cs ds).over (pl vs) q k = ov at *
            generalize (tk K h cs ds).d k = y' at *
            generalize (tk K h cs ds).way q k = z' at *
            generalize pl vs k = v' at *
            obtain ⟨k0, k1, k2, k3, kin⟩ := hb.four
            have HB := hide hb
            have HBL := hide hbel
            have HTR := hide (HT1.out.below hbel (Nat.le_refl _))
            have hbx : b < wr.heap.size := (R.out.below hbel (Nat.le_refl _)).lt (by omega)
            have hby : bp < wr.heap.size := (RP.out.below hbel (Nat.le_refl _)).lt (by omega)
            have hsz := hbel.size
            clear hb hbel
            have ww1 : IntKind.i64.wrap (y' * z') = y' * z' := IntWalk.i64_in _ (by omega)
            have ww2 : IntKind.i64.wrap (v' - y' * z') = v' - y' * z' := IntWalk.i64_in _ (by omega)
            have ww3 : IntKind.i64.wrap (u + (v' - y' * z')) = u + (v' - y' * z') := IntWalk.i64_in _ (by omega)
            have l2 : (k : Int) < np := by omega
            go_wp2_with fail
            go_region_held3 (fun w' => w'.cell? ⟨w.heap.size, 0, none⟩ = some (.int .i64 K) ∧ w'.cell? ⟨w.heap.size, 1, none⟩ = some (.int .i64 h) ∧ w'.cell? ⟨w.heap.size, 2, none⟩ = some (.slice A np c) ∧ w'.cell? ⟨w.heap.size, 3, none⟩ = some (.slice (some ⟨b, off, none⟩) np c') ∧ w'.cell? ⟨b, off + k, none⟩ = some (.int .i64 y') ∧ w'.cell? ⟨bp, offp + k, none⟩ = some (.int .i64 v'))
              (first
                | go_keep
                | (go_split_ands
                   refine ⟨?_, ?_, ?_, ?_, ?_, ?_⟩ <;> (rw [hb8.cell (by simp; omega)]; assumption)))
              (first
                | (go_at_call 74; refine (HW.out _ (HTR.out.below (below_drewN (Below.refl wr.heap.size wr) 1) (Nat.le_refl _))).mono ?_; rintro e8 w8 ⟨rfl, hb8⟩))
            all_goals
              clear ww1 ww2 ww3
              have ov1 : 0 ≤ ov ∧ ov ≤ 100000 := by rw [AO.out]; split <;> omega
              have e9 : (if y' * z' < v' then v' - y' * z' else 0) = ov := by rw [AO.out]; split <;> split <;> omega
              rw [e9]
              have w4 : IntKind.i64.wrap (u + ov) = u + ov := IntWalk.i64_in _ (by omega)
              rw [w4]
              clear e9 w4
              go_wp2_with fail
              go_roundw
              case rel => exact ⟨k + 1, by omega, by omega, by go_num, by rw [AS.out], (HB.out.draws 1).keep hb8 kin, (below_drewN HBL.out 1).trans (hb8.mono (by simp; omega))⟩
              case measure => simp [intOf]; omega
          · obtain rfl : k = np := by omega
            have HBi := hide hb
            have HLi := hide hbel
            obtain ⟨k0, k1, k2, k3, kin⟩ := hb.four
            clear hb hbel
            generalize (tk K h cs ds).above (pl vs) q k = u at *
            by_cases hu : K < u
            · have HV := hide (HNo.out fun e => by have := e.2; omega)
              go_wp2_with fail
              go_ret2
              exact ⟨ret2_ii (by rw [HV.out]; rfl) HV.out.symm, B1.out.trans (HLi.out.mono B1.out.size)⟩
            · go_wp2_with fail
              go_roundw
              case rel => exact ⟨q + 1, by omega, by go_num, (by rw [HSU.out]; try simp), HY.out ⟨HG.out, by omega⟩, HBi.out, HLi.out⟩
              case measure => simp [intOf]; omega

    · obtain rfl : q = np := by omega
      have HV := hide (HF.out hh)
      have HB9 := hide hbel
      clear hb hbel hh
      go_wp2_with fail
      go_ret2
      exact ⟨ret2_ii (by rw [okv_zero HV.out]; (try rw [HN.out])) HV.out.symm, B1.out.trans (HB9.out.mono B1.out.size)⟩

end Go.Proofs.Ytlndjjdggedljaa

/- WalkPr -/
namespace Go.Proofs.Ytlndjjdggedljaa
open Go.RowKit

theorem above_congr {t : Tk} {v v' : Nat → Int} {s n : Nat} (h : ∀ i, i < n → v i = v' i) : t.above v s n = t.above v' s n := by
  unfold Tk.above
  exact sm_congr fun i _ hi => by unfold Tk.over; rw [h i hi]
theorem holds_congr {t : Tk} {v v' : Nat → Int} {n : Nat} (h : ∀ i, i < n → v i = v' i) (hv : t.Holds v n) : t.Holds v' n := fun s hs =>
  ⟨fun hd => by rw [← h s hs]; exact (hv s hs).1 hd, by rw [← above_congr h]; exact (hv s hs).2⟩
theorem prices_ok {K h : Int} {cs ds : List Int} (o : OkT K h cs ds) : errV K h cs ds ((tk K h cs ds).pL ds.length) = 0 ∧ sm (pl ((tk K h cs ds).pL ds.length)) 0 ds.length = (tk K h cs ds).f ds.length := by
  have e : ∀ i, i < ds.length → (tk K h cs ds).p i = pl ((tk K h cs ds).pL ds.length) i := fun i hi => ((tk K h cs ds).pL_get hi).symm
  refine ⟨errV_ok o ⟨by rw [Tk.pL_len], fun j hj => ?_⟩ (holds_congr e o.tk.holds), ?_⟩
  · rw [Tk.pL_len] at hj
    rw [Tk.pL_get _ hj]
    have := o.tk.p0 hj
    have := o.tk.p1 hj
    omega
  · rw [← sm_congr fun i _ hi => e i hi]
    exact o.tk.worth

set_option maxHeartbeats 4000000 in
theorem AirPrices_walk (K h : Int) (A : Option Addr) (n c : Nat) (cs : List Int) (A' : Option Addr) (n' c' : Nat) (ds : List Int) (P : Option Addr) (np pc : Nat) (ps : List Int) (w : World)
    (hT : Tin w A n c cs A' n' c' ds) (hP : Row w P np pc ps) :
    Calls Try.prog 9 #[.agg #[.int .i64 K, .int .i64 h, .slice A n c, .slice A' n' c'], .slice P np pc] w fun e w' => e = .returned (.bool true) ∧ Below w.heap.size w w' := by
  have HT := hide hT
  have HPr := hide hP
  have B0 := hide ((Below.refl w.heap.size w).alloc (Nat.le_refl _) (.cells #[.int .i64 K, .int .i64 h, .slice A n c, .slice A' n' c'] 24))
  have K0 := hide (Bk.born w 24 #[.int .i64 K, .int .i64 h, .slice A n c, .slice A' n' c'])
  clear hT hP
  by_cases hL : 100 < n ∨ 100 < n'
  case pos =>
    go_enter Try.func9, Try.ntmps9
    go_wp2_with fail
    refine (Long_any K h _ n c cs _ n' c' ds _ (HT.out.below B0.out (Nat.le_refl _))).mono ?_
    rw [decide_eq_true hL]
    rintro e w1 ⟨rfl, b1⟩
    have B1 := hide (B0.out.trans (b1.mono B0.out.size))
    have K1 := hide (K0.out.keep b1 K0.out.in_)
    clear b1
    go_wp2_with fail
    refine (known_any _).mono ?_
    rintro e wz ⟨rfl, bz⟩
    go_wp2_with fail
    go_ret
    exact ⟨rfl, B1.out.trans (bz.mono B1.out.size)⟩
  by_cases hL2 : 100 < np
  case pos =>
    go_enter Try.func9, Try.ntmps9
    go_wp2_with fail
    refine (Long_any K h _ n c cs _ n' c' ds _ (HT.out.below B0.out (Nat.le_refl _))).mono ?_
    rw [decide_eq_false hL]
    rintro e w1 ⟨rfl, b1⟩
    have B1 := hide (B0.out.trans (b1.mono B0.out.size))
    have K1 := hide (K0.out.keep b1 K0.out.in_)
    clear b1
    go_wp2_with fail
    refine (large_any _ np pc ps _ (HPr.out.below B1.out (Nat.le_refl _))).mono ?_
    rw [decide_eq_true hL2]
    rintro e wq ⟨rfl, rfl⟩
    go_wp2_with fail
    refine (known_any _).mono ?_
    rintro e wz ⟨rfl, bz⟩
    go_wp2_with fail
    go_ret
    exact ⟨rfl, B1.out.trans (bz.mono B1.out.size)⟩
  go_enter Try.func9, Try.ntmps9
  go_wp2_with fail
  refine (Long_any K h _ n c cs _ n' c' ds _ (HT.out.below B0.out (Nat.le_refl _))).mono ?_
  rw [decide_eq_false hL]
  rintro e w1 ⟨rfl, b1⟩
  have B1 := hide (B0.out.trans (b1.mono B0.out.size))
  have K1 := hide (K0.out.keep b1 K0.out.in_)
  clear b1
  go_wp2_with fail
  refine (large_any _ np pc ps _ (HPr.out.below B1.out (Nat.le_refl _))).mono ?_
  rw [decide_eq_false hL2]
  rintro e wq ⟨rfl, rfl⟩
  obtain ⟨k0, k1, k2, k3, _⟩ := K1.out.four
  go_wp2_with fail
  refine (CheckPrices_any K h _ n c cs _ n' c' ds _ np pc ps _ (HT.out.below B1.out (Nat.le_refl _)) (HPr.out.below B1.out (Nat.le_refl _))).mono ?_
  rintro e w2 ⟨rfl, b2⟩
  have B2 := hide (B1.out.trans (b2.mono B1.out.size))
  have K2 := hide (K1.out.keep b2 K1.out.in_)
  clear b2
  clear k0 k1 k2 k3
  obtain ⟨k0, k1, k2, k3, _⟩ := K2.out.four
  go_wp2_with fail
  refine (rCheckPrices_any K h _ n c cs _ n' c' ds _ np pc ps _ (HT.out.below B2.out (Nat.le_refl _)) (HPr.out.below B2.out (Nat.le_refl _))).mono ?_
  rintro e w3 ⟨rfl, b3⟩
  have B3 := hide (B2.out.trans (b3.mono B2.out.size))
  have K3 := hide (K2.out.keep b3 K2.out.in_)
  clear b3
  clear k0 k1 k2 k3
  generalize okv (errV K h cs ds ps) (sm (pl ps) 0 ds.length) = c3 at *
  generalize errV K h cs ds ps = e3 at *
  obtain ⟨k0, k1, k2, k3, _⟩ := K3.out.four
  go_wp2_with fail
  refine (Prices_any K h _ n c cs _ n' c' ds _ (HT.out.below B3.out (Nat.le_refl _))).mono ?_
  rintro e w4 ⟨Aq, nq, cq, rfl, oq, b4⟩
  have B4 := hide (B3.out.trans (b4.mono B3.out.size))
  have K4 := hide (K3.out.keep b4 K3.out.in_)
  clear b4
  clear k0 k1 k2 k3
  have Lq := hide oq.len
  have Rq := hide (oq.row)
  clear oq
  obtain ⟨k0, k1, k2, k3, _⟩ := K4.out.four
  go_wp2_with fail
  refine (Least_any K h _ n c cs _ n' c' ds _ (HT.out.below B4.out (Nat.le_refl _))).mono ?_
  rintro e w5 ⟨rfl, b5⟩
  have B5 := hide (B4.out.trans (b5.mono B4.out.size))
  have K5 := hide (K4.out.keep b5 K4.out.in_)
  replace Rq := hide (Rq.out.below b5 (Nat.le_refl _))
  clear b5
  clear k0 k1 k2 k3
  by_cases he : errT K h cs ds = 0
  case neg =>
    have he' : (errT K h cs ds != 0) = true := by simpa using he
    have hq0 : nq = 0 := by have := Lq.out; rw [okl_ne he] at this; simpa using this.symm
    subst hq0
    go_wp2_with fail
    refine (known_any _).mono ?_
    rintro e wz ⟨rfl, bz⟩
    go_wp2_with fail
    go_ret
    exact ⟨rfl, B5.out.trans (bz.mono B5.out.size)⟩
  have OT := errT_zero he
  obtain ⟨P1, P2⟩ := prices_ok OT
  have HP1 := hide P1
  have HP2 := hide P2
  rw [okl_zero he] at Rq
  rw [okv_zero he, he]
  clear P1 P2 OT
  obtain ⟨k0, k1, k2, k3, _⟩ := K5.out.four
  go_wp2_with fail
  refine (rCheckPrices_any K h _ n c cs _ n' c' ds _ nq cq _ _ (HT.out.below B5.out (Nat.le_refl _)) Rq.out).mono ?_
  rw [HP1.out]
  rw [HP2.out]
  rw [okv_zero rfl]
  rintro e w6 ⟨rfl, b6⟩
  have B6 := hide (B5.out.trans (b6.mono B5.out.size))
  have K6 := hide (K5.out.keep b6 K5.out.in_)
  replace Rq := hide (Rq.out.below b6 (Nat.le_refl _))
  clear b6
  clear k0 k1 k2 k3
  go_wp2_with fail
  refine (known_any _).mono ?_
  rintro e wz ⟨rfl, bz⟩
  go_wp2_with fail
  go_ret
  exact ⟨rfl, B6.out.trans (bz.mono B6.out.size)⟩

end Go.Proofs.Ytlndjjdggedljaa

/- MathE -/
namespace Go.Proofs.Ytlndjjdggedljaa

/-- What the blocks of the first e hours pump in the hour i. -/
def Tk.bp (t : Tk) (e : Nat) (i : Nat) : Int := if _h : 0 < e ∧ t.q e < e then (if i = t.q e then t.units (t.q e) e else 0) + Tk.bp t (t.q e) i else 0
termination_by e
theorem Tk.bp_zero (t : Tk) (i : Nat) : t.bp 0 i = 0 := by rw [Tk.bp, dif_neg (by omega)]
theorem Tk.bp_eq (t : Tk) {e : Nat} (h : 0 < e) (i : Nat) : t.bp e i = (if i = t.q e then t.units (t.q e) e else 0) + t.bp (t.q e) i := by
  rw [Tk.bp, dif_pos ⟨h, (t.f_eq h).2.1⟩]
theorem sm_head {f : Nat → Int} {s n : Nat} (h : s < n) : sm f s n = f s + sm f (s + 1) n := by
  rw [sm_split (by omega : s ≤ s + 1) (by omega : s + 1 ≤ n), sm_succ (Nat.le_refl _), sm_self]
  omega
theorem sm_none {f : Nat → Int} {s n : Nat} (h : ∀ i, s ≤ i → i < n → f i = 0) : sm f s n = 0 := by
  rw [sm_congr (g := fun _ => 0) h, sm_zero]
/-- What is kept in a block: each unit from its start to its hour. -/
theorem block_kept (d : Nat → Int) (s : Nat) : ∀ {e : Nat}, s ≤ e → sm (fun i => sm d 0 e - sm d 0 (i + 1)) s e = sm (fun u => d u * ((u : Int) - (s : Int))) s e := by
  intro e
  induction e with
  | zero => intro h; obtain rfl : s = 0 := by omega
            rfl
  | succ e ih =>
    intro h
    by_cases hs : s ≤ e
    · rw [sm_succ hs, sm_succ hs, ← ih hs]
      have e1 : sm (fun i => sm d 0 (e + 1) - sm d 0 (i + 1)) s e = sm (fun i => sm d 0 e - sm d 0 (i + 1)) s e + d e * ((e : Int) - (s : Int)) := by
        have hc : ∀ m, s ≤ m → sm (fun _ => d e) s m = d e * ((m : Int) - (s : Int)) := by
          intro m
          induction m with
          | zero => intro hm; obtain rfl : s = 0 := by omega
                    simp [sm]
          | succ m ihm =>
            intro hm
            by_cases h2 : s ≤ m
            · rw [sm_succ h2, ihm h2, show ((m + 1 : Nat) : Int) - (s : Int) = ((m : Int) - (s : Int)) + 1 by omega, Int.mul_add]
              omega
            · obtain rfl : s = m + 1 := by omega
              rw [sm_self]
              simp
        rw [← hc e hs, ← sm_add]
        exact sm_congr fun i _ _ => by rw [sm_succ (f := d) (s := 0) (n := e) (Nat.zero_le _)]; omega
      rw [e1]
      omega
    · obtain rfl : s = e + 1 := by omega
      rw [sm_self, sm_self]

/-- What is true of the plan of the first e hours. -/
structure Tk.Good (t : Tk) (e : Nat) : Prop where
  past : ∀ i, e ≤ i → t.bp e i = 0
  nn : ∀ i, 0 ≤ t.bp e i
  all : sm (t.bp e) 0 e = sm t.d 0 e
  enough : ∀ i, i ≤ e → sm t.d 0 i ≤ sm (t.bp e) 0 i
  cost : t.cost (t.bp e) e = t.f e
  tidy : ∀ i, i < e → ¬ (0 < t.bp e i ∧ 0 < t.stk (t.bp e) i)

theorem Tk.good_zero (t : Tk) : t.Good 0 := by
  refine ⟨fun i _ => t.bp_zero i, fun i => ?_, rfl, fun i hi => ?_, ?_, fun i hi => by omega⟩
  · rw [t.bp_zero]; omega
  · obtain rfl : i = 0 := by omega
    exact Int.le_refl _
  · rw [Tk.f_zero]; rfl
section
variable {t : Tk} {n : Nat}
theorem Tk.good_next (ok : t.Ok n) {e : Nat} (h0 : 0 < e) (he : e ≤ n) (g : t.Good (t.q e)) : t.Good e := by
  obtain ⟨hf, hs, _⟩ := t.f_eq h0
  have hb := fun i => t.bp_eq h0 i
  generalize hq : t.q e = s at *
  have u0 := ok.units0 s (m := e) he
  generalize hU : t.units s e = U at *
  have lo : ∀ i, i < s → t.bp e i = t.bp s i := fun i hi => by rw [hb, if_neg (by omega)]; omega
  have at_ : t.bp e s = U := by rw [hb, if_pos rfl, g.past s (Nat.le_refl _)]; omega
  have hi0 : ∀ i, s < i → t.bp e i = 0 := fun i hi => by rw [hb, if_neg (by omega), g.past i (by omega)]; rfl
  have cum_lo : ∀ i, i ≤ s → sm (t.bp e) 0 i = sm (t.bp s) 0 i := fun i hi => sm_congr fun j _ hj => lo j (by omega)
  have cum_s : sm (t.bp e) 0 s = sm t.d 0 s := by rw [cum_lo s (Nat.le_refl _), g.all]
  have De : sm t.d 0 e = sm t.d 0 s + U := by rw [sm_split (Nat.zero_le _) (Nat.le_of_lt hs), ← hU]; rfl
  have cum_hi : ∀ i, s < i → i ≤ e → sm (t.bp e) 0 i = sm t.d 0 e := fun i h1 h2 => by
    rw [sm_split (Nat.zero_le _) (Nat.le_of_lt h1), cum_s, sm_head h1, at_, sm_none fun j hj _ => hi0 j (by omega), De]
    omega
  refine ⟨fun i hi => hi0 i (by omega), fun i => ?_, cum_hi e hs (Nat.le_refl _), fun i hi => ?_, ?_, fun i hi => ?_⟩
  · rw [hb]
    have := g.nn i
    split <;> omega
  · by_cases h : i ≤ s
    · rw [cum_lo i h]; exact g.enough i h
    · rw [cum_hi i (by omega) hi]
      exact cum_mono ok.d0 hi he
  · have stk_lo : ∀ i, i ≤ s → t.stk (t.bp e) i = t.stk (t.bp s) i := fun i hi => by rw [Tk.stk_eq, Tk.stk_eq, cum_lo i hi]
    have b1 : t.begs (t.bp e) e = t.begs (t.bp s) s + (if U = 0 then 0 else t.K) := by
      unfold Tk.begs
      have e2 : sm (fun i => if 0 < t.bp e i then t.K else 0) (s + 1) e = 0 := sm_none fun j hj _ => by rw [hi0 j (by omega), if_neg (by omega)]
      rw [sm_split (Nat.zero_le _) (Nat.le_of_lt hs), sm_head hs, at_, e2]
      have e1 : sm (fun i => if 0 < t.bp e i then t.K else 0) 0 s = sm (fun i => if 0 < t.bp s i then t.K else 0) 0 s := sm_congr fun i _ hi => by rw [lo i hi]
      rw [e1]
      by_cases hU0 : U = 0
      · rw [if_neg (by omega), if_pos hU0]; omega
      · rw [if_pos (by omega), if_neg hU0]; omega
    have r1 : t.runs (t.bp e) e = t.runs (t.bp s) s + t.save s e := by
      unfold Tk.runs
      rw [sm_split (Nat.zero_le _) (Nat.le_of_lt hs)]
      have e1 : sm (fun i => t.c i * t.bp e i + t.h * t.stk (t.bp e) (i + 1)) 0 s = sm (fun i => t.c i * t.bp s i + t.h * t.stk (t.bp s) (i + 1)) 0 s :=
        sm_congr fun i _ hi => by rw [lo i hi, stk_lo (i + 1) (by omega)]
      have e2 : sm (fun i => t.c i * t.bp e i + t.h * t.stk (t.bp e) (i + 1)) s e = t.save s e := by
        rw [sm_add, sm_mul]
        have a1 : sm (fun i => t.c i * t.bp e i) s e = t.c s * U := by
          rw [sm_head hs, at_, sm_none fun j hj _ => by rw [hi0 j (by omega), Int.mul_zero]]
          omega
        have a2 : sm (fun i => t.stk (t.bp e) (i + 1)) s e = sm (fun u => t.d u * ((u : Int) - (s : Int))) s e := by
          rw [← block_kept t.d s (Nat.le_of_lt hs)]
          exact sm_congr fun i h1 h2 => by rw [Tk.stk_eq, cum_hi (i + 1) (by omega) (by omega)]
        rw [a1, a2, ← hU]
        unfold Tk.save Tk.units
        rw [← sm_mul, ← sm_mul, ← sm_add]
        exact sm_congr fun u _ _ => by
          unfold Tk.way
          rw [Int.mul_add, Int.mul_comm (t.c s), ← Int.mul_assoc, ← Int.mul_assoc, Int.mul_comm t.h (t.d u)]
      rw [e1, e2]
    have gc := g.cost
    unfold Tk.cost at gc ⊢
    rw [b1, r1, hf]
    unfold Tk.tog
    rw [hU]
    by_cases hU0 : U = 0
    · rw [if_pos hU0, if_pos hU0, ok.save_zero he (by rw [hU]; exact hU0)]
      omega
    · rw [if_neg hU0, if_neg hU0]
      omega
  · by_cases h : i < s
    · rw [lo i h, Tk.stk_eq, cum_lo i (by omega), ← Tk.stk_eq]
      exact g.tidy i h
    · by_cases h2 : i = s
      · subst h2
        rw [Tk.stk_eq, cum_s]
        omega
      · rw [hi0 i (by omega)]
        omega
theorem Tk.Ok.good (ok : t.Ok n) : ∀ {e : Nat}, e ≤ n → t.Good e := by
  intro e
  induction e using Nat.strongRecOn with
  | ind e ih =>
    intro he
    by_cases h : e = 0
    · subst h; exact t.good_zero
    · have hs := (t.f_eq (n := e) (by omega)).2.1
      exact Tk.good_next ok (by omega) he (ih _ hs (by omega))
theorem Tk.Ok.bp_in (ok : t.Ok n) (hn : n ≤ 12) {e : Nat} (he : e ≤ n) (i : Nat) : 0 ≤ t.bp e i ∧ t.bp e i ≤ 600 := by
  have g := ok.good he
  refine ⟨g.nn i, ?_⟩
  by_cases h : i < e
  · have a := sm_pos (f := t.bp e) (s := 0) (n := e) (fun j _ _ => g.nn j) (Nat.zero_le _) h
    have b := ok.units1 0 he hn
    unfold Tk.units at b
    rw [g.all] at a
    omega
  · rw [g.past i (by omega)]; omega
/-- The plan is right. -/
theorem Tk.Ok.bp_right (ok : t.Ok n) (hn : n ≤ 12) : t.Right (t.bp n) n := by
  have g := ok.good (Nat.le_refl n)
  refine ⟨fun i _ => ok.bp_in hn (Nat.le_refl _) i, fun i hi => ?_, ?_⟩
  · rw [Tk.stk_eq]
    have := g.enough (i + 1) (by omega)
    omega
  · rw [Tk.stk_eq, g.all]
    omega
end

/-- The plan while it is filled: all that is behind e, and, of the block that ends at e, u units in the hour s. -/
def Tk.bpTo (t : Tk) (n e s : Nat) (u : Int) : List Int := (List.range n).map fun i => t.bp n i - t.bp e i + (if i = s then u else 0)
theorem Tk.bpTo_get (t : Tk) {n e s : Nat} {u : Int} {i : Nat} (h : i < n) : (t.bpTo n e s u).getD i 0 = t.bp n i - t.bp e i + (if i = s then u else 0) := by
  simp [Tk.bpTo, List.getD_eq_getElem?_getD, h]
theorem Tk.bpTo_len (t : Tk) (n e s : Nat) (u : Int) : (t.bpTo n e s u).length = n := by simp [Tk.bpTo]
theorem Tk.bpTo_start (t : Tk) (n s : Nat) : t.bpTo n n s 0 = List.replicate n 0 := by
  refine List.ext_getElem (by simp [Tk.bpTo]) fun i h1 h2 => ?_
  simp [Tk.bpTo]
theorem Tk.bpTo_more (t : Tk) {n e s : Nat} {u d x : Int} (hs : s < n) (hx : (t.bpTo n e s u).getD s 0 + d = x) : (t.bpTo n e s u).set s x = t.bpTo n e s (u + d) := by
  refine List.ext_getElem (by simp [Tk.bpTo]) fun i h1 h2 => ?_
  rw [Tk.bpTo_get _ hs, if_pos rfl] at hx
  simp [Tk.bpTo] at h1
  rw [List.getElem_set]
  by_cases e : s = i
  · subst e
    simp [Tk.bpTo]
    omega
  · rw [if_neg e]
    simp [Tk.bpTo, show ¬ i = s by omega]
theorem Tk.bpTo_next (t : Tk) {n e : Nat} (h : 0 < e) (s' : Nat) : t.bpTo n e (t.q e) (t.units (t.q e) e) = t.bpTo n (t.q e) s' 0 := by
  unfold Tk.bpTo
  exact List.map_congr_left fun i _ => by
    rw [t.bp_eq h i]
    have : (if i = s' then (0 : Int) else 0) = 0 := by split <;> rfl
    rw [this]
    split <;> omega
theorem Tk.bpTo_any (t : Tk) (n e s s' : Nat) : t.bpTo n e s 0 = t.bpTo n e s' 0 := by
  unfold Tk.bpTo
  exact List.map_congr_left fun i _ => by
    have a : (if i = s then (0 : Int) else 0) = 0 := by split <;> rfl
    have b : (if i = s' then (0 : Int) else 0) = 0 := by split <;> rfl
    rw [a, b]
theorem Tk.bpTo_end (t : Tk) (n s : Nat) : t.bpTo n 0 s 0 = (List.range n).map (t.bp n) := by
  unfold Tk.bpTo
  exact List.map_congr_left fun i _ => by
    have a : (if i = s then (0 : Int) else 0) = 0 := by split <;> rfl
    rw [a, t.bp_zero]
    omega

end Go.Proofs.Ytlndjjdggedljaa

/- WalkV -/
namespace Go.Proofs.Ytlndjjdggedljaa
open Go.RowKit

/-- The plan, as a list. -/
def Tk.bL (t : Tk) (n : Nat) : List Int := (List.range n).map (t.bp n)
theorem Tk.bL_len (t : Tk) (n : Nat) : (t.bL n).length = n := by simp [Tk.bL]
theorem Tk.bL_get (t : Tk) {n i : Nat} (h : i < n) : (t.bL n).getD i 0 = t.bp n i := by simp [Tk.bL, List.getD_eq_getElem?_getD, h]

section
variable (K h : Int) (A : Option Addr) (n c : Nat) (cs : List Int) (A' : Option Addr) (n' c' : Nat) (ds : List Int) (w : World) (hT : Tin w A n c cs A' n' c' ds)
include hT
set_option maxHeartbeats 4000000 in
theorem Best_any : Calls Try.prog 33 #[.agg #[.int .i64 K, .int .i64 h, .slice A n c, .slice A' n' c']] w
      (ListPost (okl (errT K h cs ds) ((tk K h cs ds).bL ds.length)) (errT K h cs ds) w) := by
  have HT := hide hT
  have L1 := hT.1.length
  have L2 := hT.2.length
  have B0 := hide ((Below.refl w.heap.size w).alloc (Nat.le_refl _) (.cells #[.int .i64 K, .int .i64 h, .slice A n c, .slice A' n' c'] 24))
  have K0 := hide (Bk.born w 24 #[.int .i64 K, .int .i64 h, .slice A n c, .slice A' n' c'])
  clear hT
  by_cases he : errT K h cs ds = 0
  case neg =>
    have HE := hide he
    have he' : (errT K h cs ds != 0) = true := by simpa using he
    clear he
    go_enter Try.func33, Try.ntmps33
    go_wp2_with fail
    refine (Validate_any K h _ n c cs _ n' c' ds _ (HT.out.alloc _)).mono ?_
    rintro e w1 ⟨rfl, b1⟩
    go_wp2_with fail
    go_ret2
    exact ⟨none, 0, 0, rfl, by rw [okl_ne HE.out]; exact Own.nil _ _, B0.out.trans (b1.mono (by simp))⟩
  have o := errT_zero he
  have hn1 : 1 ≤ n' := by have := o.n1; omega
  have hn2 : n' ≤ 12 := by have := o.n2; omega
  obtain rfl : n = n' := by have := o.c.1; omega
  have OK := hide (by have := o.tk; rw [L2] at this; exact this)
  have HE := hide he
  have HN := hide L2
  have rt := run_table1
  clear o he L1 L2
  go_enter Try.func33, Try.ntmps33
  go_wp2_with fail
  refine (Validate_any K h _ n c cs _ n c' ds _ (HT.out.alloc _)).mono ?_
  rw [HE.out]
  rintro e w1 ⟨rfl, b1⟩
  have B1 := hide (B0.out.trans (b1.mono (by simp)))
  have K1 := hide (K0.out.keep b1 (by simp))
  obtain ⟨k0, k1, k2, k3, _⟩ := K1.out.four
  clear b1
  go_wp2_with fail
  refine (cheapest_any K h _ n c cs _ c' ds _ (HT.out.below B1.out (Nat.le_refl _)) OK.out hn1 hn2).mono ?_
  rintro e w2 ⟨gc, gl, cl, ll, rfl, oc, ol, kn, b2⟩
  have B2 := hide (B1.out.trans (b2.mono B1.out.size))
  have K2 := hide (K1.out.keep b2 K1.out.in_)
  have OL := hide ol
  have KN := hide kn
  clear oc ol kn b2 k0 k1 k2 k3
  obtain ⟨k0, k1, k2, k3, _⟩ := K2.out.four
  go_wp2_with (at_make; refine wpList_mk _ rfl _ _ rfl w2.heap.size n rfl rfl (by omega) (Nat.le_refl _) ?_; intro w3 o3 b3 s3)
  have O3 := hide o3
  have S3 := hide s3
  have B3 := hide b3
  clear k0 k1 k2 k3 o3 s3 b3
  have Rt := hide HT.out.2
  obtain ⟨b, off, r⟩ := Rt.out
  obtain rfl := r.at_ (by omega)
  have hcap := r.cap
  have hmax := r.max
  have R2 := hide (r.below B2.out (Nat.le_refl _))
  clear r
  go_wp2_with fail
  go_loopw [7] (fun i wr => ∃ e : Nat, e ≤ n ∧ i = .int .i64 e ∧ Own wr w2.heap.size (some ⟨w2.heap.size, 0, none⟩) n n ((tk K h cs ds).bpTo n e 0 0) ∧ Below w2.heap.size w2 wr) (fun i _ => (intOf i).toNat)
  case atStart => exact ⟨n, by omega, rfl, by rw [Tk.bpTo_start]; exact O3.out, B3.out⟩
  case round =>
    obtain ⟨e, he, rfl, ho, hbel⟩ := hrel
    by_cases h0 : 0 < e
    · have ol' := OL.out.below hbel (Nat.le_refl _)
      have c0 := ol'.cell (k := e) (by omega)
      rw [(KN.out e (by omega)).2] at c0
      have hs := ((tk K h cs ds).f_eq (n := e) h0).2.1
      have HN := hide (fun s' => (tk K h cs ds).bpTo_next (n := n) h0 s')
      have HO := hide (by rw [(tk K h cs ds).bpTo_any n e 0 ((tk K h cs ds).q e)] at ho; exact ho)
      have HB := hide hbel
      clear ol' ho hbel
      generalize hq : (tk K h cs ds).q e = s at *
      have HQ := hide hq
      clear hq
      have l4 : (e : Int) < n + 1 := by omega
      go_wp2_with fail
      go_loopw [9] (fun i wr => ∃ k : Nat, s ≤ k ∧ k ≤ e ∧ i = .int .i64 k ∧ Own wr w2.heap.size (some ⟨w2.heap.size, 0, none⟩) n n ((tk K h cs ds).bpTo n e s ((tk K h cs ds).units s k)) ∧ Below w2.heap.size w2 wr) (fun i _ => e - (intOf i).toNat)
      case atStart => exact ⟨s, by omega, by omega, rfl, by rw [show (tk K h cs ds).units s s = 0 from sm_self _ _]; exact HO.out, HB.out⟩
      case round =>
        obtain ⟨k, hk0, hk, rfl, ho, hbel⟩ := hrel
        by_cases hlt : k < e
        · have cd := (R2.out.below hbel (Nat.le_refl _)).cell k (by omega)
          rw [← tk_d K h cs ds k] at cd
          have d0 := OK.out.d0 k (by omega)
          have d1 := OK.out.d1 k (by omega)
          have u0 := OK.out.units0 s (m := k) (by omega)
          have u1 := OK.out.units1 s (m := k) (by omega) hn2
          have p0 := OK.out.bp_in hn2 (Nat.le_refl n) s
          have p1 := OK.out.bp_in hn2 he s
          have HG := (tk K h cs ds).bpTo_get (n := n) (e := e) (s := s) (u := (tk K h cs ds).units s k) (i := s) (by omega)
          rw [if_pos rfl] at HG
          have cx := ho.cell (k := s) (by omega)
          have fz := ho.frozen s
          have HS := hide (fun x hx => (tk K h cs ds).bpTo_more (n := n) (e := e) (s := s) (u := (tk K h cs ds).units s k) (d := (tk K h cs ds).d k) (x := x) (by omega) hx)
          have US := hide (Tk.units_succ (t := tk K h cs ds) hk0)
          rw [← US.out] at HS
          generalize hx : ((tk K h cs ds).bpTo n e s ((tk K h cs ds).units s k)).getD s 0 = x at *
          have HO2 := hide ho
          have HB2 := hide hbel
          have HX := hide hx
          have kt := (K2.out.keep hbel K2.out.in_)
          obtain ⟨k0, k1, k2, k3, _⟩ := kt.four
          clear ho hbel hx kt
          have xb : -700 ≤ x ∧ x ≤ 1300 := by omega
          clear HG p0 p1 u0 u1
          generalize (tk K h cs ds).d k = y at *
          have w5 : IntKind.i64.wrap (x + y) = x + y := IntWalk.i64_in _ (by omega)
          have l5 : (k : Int) < n := by omega
          have l6 : (s : Int) < n := by omega
          go_wp2_with fail
          go_region
          all_goals
            clear w5
            go_wp2_with fail
            go_roundw
            case rel => exact ⟨k + 1, by omega, by omega, by go_num, by rw [← HS.out _ rfl]; exact (HO2.out.stored s _).drew, (HB2.out.setCell (Nat.le_refl _) _).drew⟩
            case measure => simp [intOf]; omega
        · obtain rfl : k = e := by omega
          rw [HN.out 0] at ho
          have HO2 := hide ho
          have HB2 := hide hbel
          clear ho hbel
          go_wp2_with fail
          go_roundw
          case rel => exact ⟨s, by omega, rfl, HO2.out, HB2.out⟩
          case measure => simp [intOf]; omega
    · obtain rfl : e = 0 := by omega
      rw [Tk.bpTo_end] at ho
      go_wp2_with fail
      go_ret2
      exact ⟨_, _, _, by rw [HE.out]; rfl, by rw [okl_zero HE.out]; (try rw [HN.out]); exact ho.more B2.out.size, B2.out.trans (hbel.mono B2.out.size)⟩
end

end Go.Proofs.Ytlndjjdggedljaa

/- WalkPv -/
namespace Go.Proofs.Ytlndjjdggedljaa
open Go.RowKit

def errB (K h : Int) (cs ds ps vs : List Int) : Int :=
  if errP K h cs ds ps = 0 then (if errV K h cs ds vs = 0 then (if (tk K h cs ds).cost (pl ps) ds.length = sm (pl vs) 0 ds.length then 0 else 7) else errV K h cs ds vs) else errP K h cs ds ps
section
variable {K h : Int} {cs ds ps vs : List Int}
theorem errB_plan (h1 : ¬ errP K h cs ds ps = 0) : errB K h cs ds ps vs = errP K h cs ds ps := by unfold errB; rw [if_neg h1]
theorem errB_price (h1 : errP K h cs ds ps = 0) (h2 : ¬ errV K h cs ds vs = 0) : errB K h cs ds ps vs = errV K h cs ds vs := by unfold errB; rw [if_pos h1, if_neg h2]
theorem errB_ok (h1 : errP K h cs ds ps = 0) (h2 : errV K h cs ds vs = 0) (h3 : (tk K h cs ds).cost (pl ps) ds.length = sm (pl vs) 0 ds.length) : errB K h cs ds ps vs = 0 := by
  unfold errB; rw [if_pos h1, if_pos h2, if_pos h3]
theorem errB_no (h1 : errP K h cs ds ps = 0) (h2 : errV K h cs ds vs = 0) (h3 : ¬ (tk K h cs ds).cost (pl ps) ds.length = sm (pl vs) 0 ds.length) : errB K h cs ds ps vs = 7 := by
  unfold errB; rw [if_pos h1, if_pos h2, if_neg h3]
end
theorem stk_congr {t : Tk} {p p' : Nat → Int} {n : Nat} (h : ∀ i, i < n → p i = p' i) {i : Nat} (hi : i ≤ n) : t.stk p i = t.stk p' i := by
  unfold Tk.stk
  exact sm_congr fun j _ hj => by rw [h j (by omega)]
theorem cost_congr {t : Tk} {p p' : Nat → Int} {n : Nat} (h : ∀ i, i < n → p i = p' i) : t.cost p n = t.cost p' n := by
  have e1 : t.begs p n = t.begs p' n := sm_congr fun i _ hi => by rw [h i hi]
  have e2 : t.runs p n = t.runs p' n := sm_congr fun i _ hi => by rw [h i hi, stk_congr h (i := i + 1) (by omega)]
  unfold Tk.cost
  rw [e1, e2]
theorem best_ok {K h : Int} {cs ds : List Int} (o : OkT K h cs ds) : errP K h cs ds ((tk K h cs ds).bL ds.length) = 0 ∧ (tk K h cs ds).cost (pl ((tk K h cs ds).bL ds.length)) ds.length = (tk K h cs ds).f ds.length ∧
    (tk K h cs ds).Tidy (pl ((tk K h cs ds).bL ds.length)) ds.length := by
  have e : ∀ i, i < ds.length → (tk K h cs ds).bp ds.length i = pl ((tk K h cs ds).bL ds.length) i := fun i hi => ((tk K h cs ds).bL_get hi).symm
  have r := o.tk.bp_right o.n2
  have g := o.tk.good (Nat.le_refl _)
  refine ⟨errP_ok o ⟨by rw [Tk.bL_len], fun j hj => ?_⟩ ⟨fun i hi => ?_, ?_⟩, ?_, fun i hi => ?_⟩
  · rw [Tk.bL_len] at hj
    rw [Tk.bL_get _ hj]
    exact r.in_ j hj
  · rw [← stk_congr e (i := i + 1) (by omega)]; exact r.stk i hi
  · rw [← stk_congr e (Nat.le_refl _)]; exact r.last
  · rw [← cost_congr e]; exact g.cost
  · rw [← e i hi, ← stk_congr e (Nat.le_of_lt hi)]; exact g.tidy i hi
theorem proves_ok {K h : Int} {cs ds : List Int} (o : OkT K h cs ds) : errB K h cs ds ((tk K h cs ds).bL ds.length) ((tk K h cs ds).pL ds.length) = 0 := by
  obtain ⟨b1, b2, _⟩ := best_ok o
  obtain ⟨p1, p2⟩ := prices_ok o
  exact errB_ok b1 p1 (by rw [b2, p2])

set_option maxHeartbeats 4000000 in
theorem CheckBest_any (K h : Int) (A : Option Addr) (n c : Nat) (cs : List Int) (A' : Option Addr) (n' c' : Nat) (ds : List Int) (P : Option Addr) (np pc : Nat) (ps : List Int) (V : Option Addr) (nv vc : Nat) (vs : List Int) (w : World)
    (hT : Tin w A n c cs A' n' c' ds) (hP : Row w P np pc ps) (hV : Row w V nv vc vs) :
    Calls Try.prog 41 #[.agg #[.int .i64 K, .int .i64 h, .slice A n c, .slice A' n' c'], .slice P np pc, .slice V nv vc] w fun e w' => e = .returned (.int .i64 (errB K h cs ds ps vs)) ∧ Below w.heap.size w w' := by
  have HT := hide hT
  have HPr := hide hP
  have HVr := hide hV
  have B0 := hide ((Below.refl w.heap.size w).alloc (Nat.le_refl _) (.cells #[.int .i64 K, .int .i64 h, .slice A n c, .slice A' n' c'] 24))
  have K0 := hide (Bk.born w 24 #[.int .i64 K, .int .i64 h, .slice A n c, .slice A' n' c'])
  have L1 := hT.1.length
  have L2 := hT.2.length
  have L3 := hP.length
  clear hT hP hV
  by_cases h1 : errP K h cs ds ps = 0
  case neg =>
    have HV := hide (errB_plan (vs := vs) h1)
    have h1' : (errP K h cs ds ps != 0) = true := by simpa using h1
    clear h1 L1 L2 L3
    go_enter Try.func41, Try.ntmps41
    go_wp2_with fail
    refine (validatePlan_any K h _ n c cs _ n' c' ds _ np pc ps _ (HT.out.alloc _) (HPr.out.alloc _)).mono ?_
    rintro e w1 ⟨rfl, b1⟩
    go_wp2_with fail
    go_ret
    exact ⟨ret_i64 HV.out.symm, B0.out.trans (b1.mono (by simp))⟩
  obtain ⟨o, a, f⟩ := errP_zero h1
  have hn1 : 1 ≤ n' := by have := o.n1; omega
  have hn2 : n' ≤ 12 := by have := o.n2; omega
  have OK := hide (by have := o.tk; rw [L2] at this; exact this)
  have HPl := hide (by have := a.plan; rw [L2] at this; exact this)
  obtain rfl : n = n' := by have := o.c.1; omega
  obtain rfl : np = n := by have := a.1; omega
  have HP1 := hide h1
  have HN := hide L2
  clear o a f L1 L3
  go_enter Try.func41, Try.ntmps41
  go_wp2_with fail
  refine (validatePlan_any K h _ np c cs _ np c' ds _ np pc ps _ (HT.out.alloc _) (HPr.out.alloc _)).mono ?_
  rw [HP1.out]
  rintro e w1 ⟨rfl, b1⟩
  have B1 := hide (B0.out.trans (b1.mono (by simp)))
  have K1 := hide (K0.out.keep b1 (by simp))
  obtain ⟨k0, k1, k2, k3, _⟩ := K1.out.four
  clear b1
  go_wp2_with fail
  refine (CheckPrices_any K h _ np c cs _ np c' ds _ nv vc vs _ (HT.out.below B1.out (Nat.le_refl _)) (HVr.out.below B1.out (Nat.le_refl _))).mono ?_
  by_cases h2 : errV K h cs ds vs = 0
  case neg =>
    have HV := hide (errB_price h1 h2)
    have h2' : (errV K h cs ds vs != 0) = true := by simpa using h2
    clear h1 h2
    rintro e w2 ⟨rfl, b2⟩
    go_wp2_with fail
    go_ret
    exact ⟨ret_i64 HV.out.symm, B1.out.trans (b2.mono B1.out.size)⟩
  rw [h2, okv_zero rfl]
  rintro e w2 ⟨rfl, b2⟩
  have B2 := hide (B1.out.trans (b2.mono B1.out.size))
  have K2 := hide (K1.out.keep b2 K1.out.in_)
  clear b2 k0 k1 k2 k3
  obtain ⟨k0, k1, k2, k3, _⟩ := K2.out.four
  have HY := hide (fun e => errB_ok (K := K) (h := h) (cs := cs) (ds := ds) (ps := ps) (vs := vs) h1 h2 e)
  have HNo := hide (fun e => errB_no (K := K) (h := h) (cs := cs) (ds := ds) (ps := ps) (vs := vs) h1 h2 e)
  clear h1 h2
  rw [HN.out] at *
  go_wp2_with fail
  refine (cost_any K h _ np c cs _ c' ds _ pc ps _ (HT.out.below B2.out (Nat.le_refl _)) (HPr.out.below B2.out (Nat.le_refl _)) OK.out HPl.out hn1 hn2).mono ?_
  rintro e w3 ⟨rfl, b3⟩
  have B3 := hide (B2.out.trans (b3.mono B2.out.size))
  generalize (tk K h cs ds).cost (pl ps) np = x at *
  generalize sm (pl vs) 0 np = y at *
  by_cases hxy : x = y
  · have HV := hide (HY.out hxy)
    subst hxy
    go_wp2_with fail
    go_ret
    exact ⟨ret_i64 HV.out.symm, B3.out⟩
  · have HV := hide (HNo.out hxy)
    have hne : (x != y) = true := by simpa using hxy
    go_wp2_with fail
    go_ret
    exact ⟨ret_i64 HV.out.symm, B3.out⟩

set_option maxHeartbeats 4000000 in
theorem rCheckBest_any (K h : Int) (A : Option Addr) (n c : Nat) (cs : List Int) (A' : Option Addr) (n' c' : Nat) (ds : List Int) (P : Option Addr) (np pc : Nat) (ps : List Int) (V : Option Addr) (nv vc : Nat) (vs : List Int) (w : World)
    (hT : Tin w A n c cs A' n' c' ds) (hP : Row w P np pc ps) (hV : Row w V nv vc vs) :
    Calls Try.prog 42 #[.agg #[.int .i64 K, .int .i64 h, .slice A n c, .slice A' n' c'], .slice P np pc, .slice V nv vc] w fun e w' => e = .returned (.int .i64 (errB K h cs ds ps vs)) ∧ Below w.heap.size w w' := by
  have HT := hide hT
  have HPr := hide hP
  have HVr := hide hV
  have B0 := hide ((Below.refl w.heap.size w).alloc (Nat.le_refl _) (.cells #[.int .i64 K, .int .i64 h, .slice A n c, .slice A' n' c'] 24))
  have K0 := hide (Bk.born w 24 #[.int .i64 K, .int .i64 h, .slice A n c, .slice A' n' c'])
  have L1 := hT.1.length
  have L2 := hT.2.length
  have L3 := hP.length
  clear hT hP hV
  by_cases h1 : errP K h cs ds ps = 0
  case neg =>
    have HV := hide (errB_plan (vs := vs) h1)
    have h1' : (errP K h cs ds ps != 0) = true := by simpa using h1
    clear h1 L1 L2 L3
    go_enter Try.func42, Try.ntmps42
    go_wp2_with fail
    refine (rCheckPlan_any K h _ n c cs _ n' c' ds _ np pc ps _ (HT.out.alloc _) (HPr.out.alloc _)).mono ?_
    rintro e w1 ⟨rfl, b1⟩
    go_wp2_with fail
    go_ret
    exact ⟨ret_i64 HV.out.symm, B0.out.trans (b1.mono (by simp))⟩
  obtain ⟨o, a, f⟩ := errP_zero h1
  have hn1 : 1 ≤ n' := by have := o.n1; omega
  have hn2 : n' ≤ 12 := by have := o.n2; omega
  have OK := hide (by have := o.tk; rw [L2] at this; exact this)
  have HPl := hide (by have := a.plan; rw [L2] at this; exact this)
  obtain rfl : n = n' := by have := o.c.1; omega
  obtain rfl : np = n := by have := a.1; omega
  have HP1 := hide h1
  have HN := hide L2
  clear o a f L1 L3
  go_enter Try.func42, Try.ntmps42
  go_wp2_with fail
  refine (rCheckPlan_any K h _ np c cs _ np c' ds _ np pc ps _ (HT.out.alloc _) (HPr.out.alloc _)).mono ?_
  rw [HP1.out, okv_zero rfl]
  rintro e w1 ⟨rfl, b1⟩
  have B1 := hide (B0.out.trans (b1.mono (by simp)))
  have K1 := hide (K0.out.keep b1 (by simp))
  obtain ⟨k0, k1, k2, k3, _⟩ := K1.out.four
  clear b1
  go_wp2_with fail
  refine (rCheckPrices_any K h _ np c cs _ np c' ds _ nv vc vs _ (HT.out.below B1.out (Nat.le_refl _)) (HVr.out.below B1.out (Nat.le_refl _))).mono ?_
  by_cases h2 : errV K h cs ds vs = 0
  case neg =>
    have HV := hide (errB_price h1 h2)
    have h2' : (errV K h cs ds vs != 0) = true := by simpa using h2
    clear h1 h2
    rintro e w2 ⟨rfl, b2⟩
    go_wp2_with fail
    go_ret
    exact ⟨ret_i64 HV.out.symm, B1.out.trans (b2.mono B1.out.size)⟩
  rw [h2, okv_zero rfl]
  rintro e w2 ⟨rfl, b2⟩
  have B2 := hide (B1.out.trans (b2.mono B1.out.size))
  have K2 := hide (K1.out.keep b2 K1.out.in_)
  clear b2 k0 k1 k2 k3
  obtain ⟨k0, k1, k2, k3, _⟩ := K2.out.four
  have HY := hide (fun e => errB_ok (K := K) (h := h) (cs := cs) (ds := ds) (ps := ps) (vs := vs) h1 h2 e)
  have HNo := hide (fun e => errB_no (K := K) (h := h) (cs := cs) (ds := ds) (ps := ps) (vs := vs) h1 h2 e)
  clear h1 h2
  rw [HN.out] at *
  have B3 := hide B2.out
  generalize (tk K h cs ds).cost (pl ps) np = x at *
  generalize sm (pl vs) 0 np = y at *
  by_cases hxy : x = y
  · have HV := hide (HY.out hxy)
    subst hxy
    go_wp2_with fail
    go_ret
    exact ⟨ret_i64 HV.out.symm, B3.out⟩
  · have HV := hide (HNo.out hxy)
    have hne : (x != y) = true := by simpa using hxy
    go_wp2_with fail
    go_ret
    exact ⟨ret_i64 HV.out.symm, B3.out⟩

set_option maxHeartbeats 4000000 in
theorem AirProves_walk (K h : Int) (A : Option Addr) (n c : Nat) (cs : List Int) (A' : Option Addr) (n' c' : Nat) (ds : List Int) (P : Option Addr) (np pc : Nat) (ps : List Int) (V : Option Addr) (nv vc : Nat) (vs : List Int) (w : World)
    (hT : Tin w A n c cs A' n' c' ds) (hP : Row w P np pc ps) (hV : Row w V nv vc vs) :
    Calls Try.prog 10 #[.agg #[.int .i64 K, .int .i64 h, .slice A n c, .slice A' n' c'], .agg #[.slice P np pc, .slice V nv vc]] w fun e w' => e = .returned (.bool true) ∧ Below w.heap.size w w' := by
  have HT := hide hT
  have HPr := hide hP
  have HVr := hide hV
  have B0 := hide ((Below.refl w.heap.size w).alloc (Nat.le_refl _) (.cells #[.int .i64 K, .int .i64 h, .slice A n c, .slice A' n' c'] 24))
  have K0 := hide (Bk.born w 24 #[.int .i64 K, .int .i64 h, .slice A n c, .slice A' n' c'])
  have KC0 := hide (Bk.bornAt (w := w.alloc (.cells #[.int .i64 K, .int .i64 h, .slice A n c, .slice A' n' c'] 24)) (g := w.heap.size + 1) (t := 41) (cs := #[.slice P np pc, .slice V nv vc]) (by simp))
  replace K0 := hide (K0.out.more (.cells #[.slice P np pc, .slice V nv vc] 41))
  replace B0 := hide (B0.out.alloc (by simp) (.cells #[.slice P np pc, .slice V nv vc] 41))
  clear hT hP hV
  by_cases hL : 100 < n ∨ 100 < n'
  case pos =>
    go_enter Try.func10, Try.ntmps10
    go_wp2_with fail
    refine (Long_any K h _ n c cs _ n' c' ds _ (HT.out.below B0.out (Nat.le_refl _))).mono ?_
    rw [decide_eq_true hL]
    rintro e w1 ⟨rfl, b1⟩
    have B1 := hide (B0.out.trans (b1.mono B0.out.size))
    have K1 := hide (K0.out.keep b1 K0.out.in_)
    have KC1 := hide (KC0.out.keep b1 KC0.out.in_)
    clear b1
    go_wp2_with fail
    refine (known_any _).mono ?_
    rintro e wz ⟨rfl, bz⟩
    go_wp2_with fail
    go_ret
    exact ⟨rfl, B1.out.trans (bz.mono B1.out.size)⟩
  by_cases hL2 : 100 < np
  case pos =>
    go_enter Try.func10, Try.ntmps10
    go_wp2_with fail
    refine (Long_any K h _ n c cs _ n' c' ds _ (HT.out.below B0.out (Nat.le_refl _))).mono ?_
    rw [decide_eq_false hL]
    rintro e w1 ⟨rfl, b1⟩
    have B1 := hide (B0.out.trans (b1.mono B0.out.size))
    have K1 := hide (K0.out.keep b1 K0.out.in_)
    have KC1 := hide (KC0.out.keep b1 KC0.out.in_)
    clear b1
    obtain ⟨x0, x1, _, _, _⟩ := KC1.out.two
    go_wp2_with fail
    refine (large_any _ np pc ps _ (HPr.out.below B1.out (Nat.le_refl _))).mono ?_
    rw [decide_eq_true hL2]
    rintro e wq ⟨rfl, rfl⟩
    clear x0 x1
    go_wp2_with fail
    refine (known_any _).mono ?_
    rintro e wz ⟨rfl, bz⟩
    go_wp2_with fail
    go_ret
    exact ⟨rfl, B1.out.trans (bz.mono B1.out.size)⟩
  by_cases hL3 : 100 < nv
  case pos =>
    go_enter Try.func10, Try.ntmps10
    go_wp2_with fail
    refine (Long_any K h _ n c cs _ n' c' ds _ (HT.out.below B0.out (Nat.le_refl _))).mono ?_
    rw [decide_eq_false hL]
    rintro e w1 ⟨rfl, b1⟩
    have B1 := hide (B0.out.trans (b1.mono B0.out.size))
    have K1 := hide (K0.out.keep b1 K0.out.in_)
    have KC1 := hide (KC0.out.keep b1 KC0.out.in_)
    clear b1
    obtain ⟨x0, x1, _, _, _⟩ := KC1.out.two
    go_wp2_with fail
    refine (large_any _ np pc ps _ (HPr.out.below B1.out (Nat.le_refl _))).mono ?_
    rw [decide_eq_false hL2]
    rintro e wq ⟨rfl, rfl⟩
    clear x0 x1
    obtain ⟨x0, x1, _, _, _⟩ := KC1.out.two
    go_wp2_with fail
    refine (large_any _ nv vc vs _ (HVr.out.below B1.out (Nat.le_refl _))).mono ?_
    rw [decide_eq_true hL3]
    rintro e wq ⟨rfl, rfl⟩
    clear x0 x1
    go_wp2_with fail
    refine (known_any _).mono ?_
    rintro e wz ⟨rfl, bz⟩
    go_wp2_with fail
    go_ret
    exact ⟨rfl, B1.out.trans (bz.mono B1.out.size)⟩
  go_enter Try.func10, Try.ntmps10
  go_wp2_with fail
  refine (Long_any K h _ n c cs _ n' c' ds _ (HT.out.below B0.out (Nat.le_refl _))).mono ?_
  rw [decide_eq_false hL]
  rintro e w1 ⟨rfl, b1⟩
  have B1 := hide (B0.out.trans (b1.mono B0.out.size))
  have K1 := hide (K0.out.keep b1 K0.out.in_)
  have KC1 := hide (KC0.out.keep b1 KC0.out.in_)
  clear b1
  obtain ⟨x0, x1, _, _, _⟩ := KC1.out.two
  go_wp2_with fail
  refine (large_any _ np pc ps _ (HPr.out.below B1.out (Nat.le_refl _))).mono ?_
  rw [decide_eq_false hL2]
  rintro e wq ⟨rfl, rfl⟩
  clear x0 x1
  obtain ⟨x0, x1, _, _, _⟩ := KC1.out.two
  go_wp2_with fail
  refine (large_any _ nv vc vs _ (HVr.out.below B1.out (Nat.le_refl _))).mono ?_
  rw [decide_eq_false hL3]
  rintro e wq ⟨rfl, rfl⟩
  clear x0 x1
  obtain ⟨k0, k1, k2, k3, _⟩ := K1.out.four
  obtain ⟨x0, x1, _, _, _⟩ := KC1.out.two
  have hz3 := B1.out.size
  have HV1 := hide (fun W h1 h2 h3 => CheckBest_any K h A n c cs A' n' c' ds P np pc ps V nv vc vs W h1 h2 h3)
  have HV2 := hide (fun W h1 h2 h3 => rCheckBest_any K h A n c cs A' n' c' ds P np pc ps V nv vc vs W h1 h2 h3)
  generalize errB K h cs ds ps vs = e9 at *
  have kin := K1.out.in_
  have kin2 := KC1.out.in_
  go_wp2_with fail
  go_region_held3 (fun w' => w'.cell? ⟨w.heap.size, 0, none⟩ = some (.int .i64 K) ∧ w'.cell? ⟨w.heap.size, 1, none⟩ = some (.int .i64 h) ∧ w'.cell? ⟨w.heap.size, 2, none⟩ = some (.slice A n c) ∧ w'.cell? ⟨w.heap.size, 3, none⟩ = some (.slice A' n' c') ∧ w'.cell? ⟨w.heap.size + 1, 0, none⟩ = some (.slice P np pc) ∧ w'.cell? ⟨w.heap.size + 1, 1, none⟩ = some (.slice V nv vc))
    (first
      | go_keep
      | (go_split_ands
         refine ⟨?_, ?_, ?_, ?_, ?_, ?_⟩ <;> (rw [hb8.cell (by simp; omega)]; assumption))
      | (go_split_ands
         refine ⟨?_, ?_, ?_, ?_, ?_, ?_⟩ <;> (rw [hb9.cell (by have := hb8.size; simp at this ⊢; omega)]; assumption)))
    (first
      | (go_at_call 41; refine (HV1.out _ (HT.out.below (below_drewN B1.out 1) (Nat.le_refl _)) (HPr.out.below (below_drewN B1.out 1) (Nat.le_refl _)) (HVr.out.below (below_drewN B1.out 1) (Nat.le_refl _))).mono ?_; rintro e8 w8 ⟨rfl, hb8⟩)
      | (go_at_call 42; have b89 := (below_drewN B1.out 1).trans (hb8.mono B1.out.size); refine (HV2.out _ (HT.out.below b89 (Nat.le_refl _)) (HPr.out.below b89 (Nat.le_refl _)) (HVr.out.below b89 (Nat.le_refl _))).mono ?_; rintro e9 w9 ⟨rfl, hb9⟩))
  have s8 := hb8.size
  have B9 := hide (((below_drewN B1.out 1).trans (hb8.mono (by simp; omega))).trans (hb9.mono (by simp at s8; omega)))
  have K9 := hide (((K1.out.draws 1).keep hb8 kin).keep hb9 (by simp at s8; omega))
  have KC9 := hide (((KC1.out.draws 1).keep hb8 kin2).keep hb9 (by simp at s8; omega))
  clear hb8 hb9 k0 k1 k2 k3 x0 x1
  obtain ⟨k0, k1, k2, k3, _⟩ := K9.out.four
  go_wp2_with fail
  refine (Best_any K h _ n c cs _ n' c' ds _ (HT.out.below B9.out (Nat.le_refl _))).mono ?_
  rintro e w10 ⟨Ab, nb, cb, rfl, ob, b10⟩
  have B10 := hide (B9.out.trans (b10.mono B9.out.size))
  have K10 := hide (K9.out.keep b10 K9.out.in_)
  have KC10 := hide (KC9.out.keep b10 KC9.out.in_)
  clear b10
  clear k0 k1 k2 k3
  have Rb := hide (ob.row)
  clear ob
  obtain ⟨k0, k1, k2, k3, _⟩ := K10.out.four
  go_wp2_with fail
  refine (Prices_any K h _ n c cs _ n' c' ds _ (HT.out.below B10.out (Nat.le_refl _))).mono ?_
  rintro e w11 ⟨Aq, nq, cq, rfl, oq, b11⟩
  have B11 := hide (B10.out.trans (b11.mono B10.out.size))
  have K11 := hide (K10.out.keep b11 K10.out.in_)
  have KC11 := hide (KC10.out.keep b11 KC10.out.in_)
  replace Rb := hide (Rb.out.below b11 (Nat.le_refl _))
  clear b11
  clear k0 k1 k2 k3
  have Rq := hide (oq.row)
  clear oq
  by_cases he : errT K h cs ds = 0
  case neg =>
    have he' : (errT K h cs ds != 0) = true := by simpa using he
    go_wp2_with fail
    refine (known_any _).mono ?_
    rintro e wz ⟨rfl, bz⟩
    go_wp2_with fail
    go_ret
    exact ⟨rfl, B11.out.trans (bz.mono B11.out.size)⟩
  have HBE := hide (proves_ok (errT_zero he))
  rw [okl_zero he] at Rb Rq
  rw [he]
  have HE := hide he
  clear he
  obtain ⟨k0, k1, k2, k3, _⟩ := K11.out.four
  go_wp2_with fail
  refine (CheckBest_any K h _ n c cs _ n' c' ds _ nb cb _ _ nq cq _ _ (HT.out.below B11.out (Nat.le_refl _)) Rb.out Rq.out).mono ?_
  rw [HBE.out]
  rintro e w12 ⟨rfl, b12⟩
  have B12 := hide (B11.out.trans (b12.mono B11.out.size))
  have K12 := hide (K11.out.keep b12 K11.out.in_)
  have KC12 := hide (KC11.out.keep b12 KC11.out.in_)
  replace Rb := hide (Rb.out.below b12 (Nat.le_refl _))
  replace Rq := hide (Rq.out.below b12 (Nat.le_refl _))
  clear b12
  clear k0 k1 k2 k3
  go_wp2_with fail
  refine (known_any _).mono ?_
  rintro e wz ⟨rfl, bz⟩
  go_wp2_with fail
  go_ret
  exact ⟨rfl, B12.out.trans (bz.mono B12.out.size)⟩

end Go.Proofs.Ytlndjjdggedljaa
