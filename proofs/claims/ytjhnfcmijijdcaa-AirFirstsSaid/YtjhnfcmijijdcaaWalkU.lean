/- Walks of the document's own way and CheckPrices. -/
import Derived.Test.YtjhnfcmijijdcaaWalkT
namespace Go.Proofs.Ytjhnfcmijijdcaa
open Go.RowKit

set_option maxHeartbeats 1000000 in
theorem rway_any (K h : Int) (A : Option Addr) (n c : Nat) (cs : List Int) (A' : Option Addr) (n' c' : Nat) (ds : List Int) (s u : Nat) (w : World) (hT : Tin w A n c cs A' n' c' ds)
    (ok : (tk K h cs ds).Ok n) (hs : s ≤ u) (hu : u < n) (hn : n ≤ 12) :
    Calls Try.prog 74 #[.agg #[.int .i64 K, .int .i64 h, .slice A n c, .slice A' n' c'], .int .i64 s, .int .i64 u] w fun e w' =>
      e = .returned (.int .i64 ((tk K h cs ds).way s u)) ∧ Below w.heap.size w w' := by
  have h0 := ok.h0
  have h1 := ok.h1
  have c0 := ok.c0 s (by omega)
  have c1 := ok.c1 s (by omega)
  rw [tk_c] at c0 c1
  replace h0 : 0 ≤ h := h0
  replace h1 : h ≤ 20 := h1
  have B := hide ((Below.refl w.heap.size w).alloc (Nat.le_refl _) (.cells #[.int .i64 K, .int .i64 h, .slice A n c, .slice A' n' c'] 24))
  obtain ⟨b, off, r⟩ := hT.1
  obtain rfl := r.at_ (by omega)
  have cell := (r.alloc (.cells #[.int .i64 K, .int .i64 h, .slice (some ⟨b, off, none⟩) n c, .slice A' n' c'] 24)).cell s (by omega)
  have hv : (tk K h cs ds).way s u = cs.getD s 0 + h * ((u : Int) - (s : Int)) := rfl
  have HV := hide hv
  have hcap := r.cap
  have hmax := r.max
  clear hT r hv ok
  generalize cs.getD s 0 = x at *
  have m0 : 0 ≤ h * ((u : Int) - (s : Int)) := Int.mul_nonneg h0 (by omega)
  have m1 : h * ((u : Int) - (s : Int)) ≤ 20 * 11 := Int.mul_le_mul h1 (by omega) (by omega) (by omega)
  have w1 : IntKind.i64.wrap ((u : Int) - (s : Int)) = (u : Int) - (s : Int) := IntWalk.i64_in _ (by omega)
  have w2 : IntKind.i64.wrap (h * ((u : Int) - (s : Int))) = h * ((u : Int) - (s : Int)) := IntWalk.i64_in _ (by omega)
  have w3 : IntKind.i64.wrap (x + h * ((u : Int) - (s : Int))) = x + h * ((u : Int) - (s : Int)) := IntWalk.i64_in _ (by omega)
  have l2 : (s : Int) < n := by omega
  go_enter Try.func74, Try.ntmps74
  go_wp2_with fail
  go_quiet (fail)
  clear w1 w2 w3
  go_wp2
  go_ret
  exact ⟨ret_i64 HV.out.symm, below_drewN B.out _⟩


set_option maxHeartbeats 4000000 in
theorem rCheckPrices_any (K h : Int) (A : Option Addr) (n c : Nat) (cs : List Int) (A' : Option Addr) (n' c' : Nat) (ds : List Int) (P : Option Addr) (np pc : Nat) (vs : List Int) (w : World)
    (hT : Tin w A n c cs A' n' c' ds) (hP : Row w P np pc vs) :
    Calls Try.prog 39 #[.agg #[.int .i64 K, .int .i64 h, .slice A n c, .slice A' n' c'], .slice P np pc] w
      (NumPost (okv (errV K h cs ds vs) (sm (pl vs) 0 ds.length)) (errV K h cs ds vs) w) := by
  have HT := hide hT
  have HPr := hide hP
  have L1 := hT.1.length
  have L2 := hT.2.length
  have L3 := hP.length
  have B0 := hide ((Below.refl w.heap.size w).alloc (Nat.le_refl _) (.cells #[.int .i64 K, .int .i64 h, .slice A n c, .slice A' n' c'] 24))
  have K0 := hide (Bk.born w 24 #[.int .i64 K, .int .i64 h, .slice A n c, .slice A' n' c'])
  clear hT hP
  by_cases o : OkT K h cs ds
  case neg =>
    have HV := hide (errV_task (vs := vs) o)
    have HE := hide (errT_no o)
    clear o
    go_enter Try.func39, Try.ntmps39
    go_wp2_with fail
    refine (rValidate_any K h _ n c cs _ n' c' ds _ (HT.out.alloc _)).mono ?_
    rw [HE.out]
    rintro e w1 ⟨rfl, b1⟩
    go_wp2_with fail
    go_ret2
    exact ⟨ret2_ii (by rw [HV.out]; rfl) HV.out.symm, B0.out.trans (b1.mono (by simp))⟩
  have hn1 : 1 ≤ n' := by have := o.n1; omega
  have hn2 : n' ≤ 12 := by have := o.n2; omega
  have hcn : cs.length = ds.length := by have := o.c.1; omega
  obtain rfl : n = n' := by omega
  have HE := hide (errT_ok o)
  have HN := hide L2
  by_cases a : AllOk vs ds.length 100000
  case neg =>
    have HV := hide (errV_arg (K := K) (h := h) (cs := cs) a)
    have ha := allB_false a
    rw [L2] at ha
    clear o a L1 L2 L3 hcn
    go_enter Try.func39, Try.ntmps39
    go_wp2_with fail
    refine (rValidate_any K h _ n c cs _ n c' ds _ (HT.out.alloc _)).mono ?_
    rw [HE.out]
    rintro e w1 ⟨rfl, b1⟩
    have B1 := hide (B0.out.trans (b1.mono (by simp)))
    have K1 := hide (K0.out.keep b1 (by simp))
    obtain ⟨k0, k1, k2, k3, _⟩ := K1.out.four
    clear b1
    go_wp2_with fail
    refine (rall_any _ np pc vs n 100000 _ (HPr.out.below B1.out (Nat.le_refl _))).mono ?_
    rw [ha]
    rintro e w2 ⟨rfl, rfl⟩
    go_wp2_with fail
    go_ret2
    exact ⟨ret2_ii (by rw [HV.out]; rfl) HV.out.symm, B1.out⟩
  have ha := allB_true a
  rw [L2] at ha
  obtain rfl : np = n := by have := a.1; omega
  have OK := hide (by have := o.tk; rw [L2] at this; exact this)
  have HPl := hide (by have := a.price; rw [L2] at this; exact this)
  have HF := hide (fun (f : (tk K h cs ds).Holds (pl vs) np) => errV_ok o a (by rw [L2]; exact f))
  have HFn := hide (fun (f : ¬ (tk K h cs ds).Holds (pl vs) np) => errV_proof o a (by rw [L2]; exact f))
  clear o a L1 L2 L3 hcn
  go_enter Try.func39, Try.ntmps39
  go_wp2_with fail
  refine (rValidate_any K h _ np c cs _ np c' ds _ (HT.out.alloc _)).mono ?_
  rw [HE.out]
  rintro e w1 ⟨rfl, b1⟩
  have B1 := hide (B0.out.trans (b1.mono (by simp)))
  have K1 := hide (K0.out.keep b1 (by simp))
  obtain ⟨k0, k1, k2, k3, _⟩ := K1.out.four
  clear b1
  go_wp2_with fail
  refine (rall_any _ np pc vs np 100000 _ (HPr.out.below B1.out (Nat.le_refl _))).mono ?_
  rw [ha]
  rintro e w2 ⟨rfl, rfl⟩
  have RT := hide HT.out.2
  obtain ⟨b, off, r⟩ := RT.out
  obtain rfl := r.at_ (by omega)
  obtain ⟨bp, offp, rp⟩ := HPr.out
  obtain rfl := rp.at_ (by omega)
  have R := hide (r.below B1.out (Nat.le_refl _))
  have RP := hide (rp.below B1.out (Nat.le_refl _))
  have HT1 := hide (HT.out.below B1.out (Nat.le_refl _))
  have hcap := r.cap
  have hmax := r.max
  have hcapp := rp.cap
  have hmaxp := rp.max
  clear r rp k0 k1 k2 k3
  have K0n := OK.out.K0
  have K1n := OK.out.K1
  replace K0n : 0 ≤ K := K0n
  replace K1n : K ≤ 999 := K1n
  go_wp2_with fail
  go_loopw [7, 8] (fun v i wr => ∃ q : Nat, q ≤ np ∧ i = .int .i64 q ∧ v = .int .i64 (sm (pl vs) 0 q) ∧ HoldTo (tk K h cs ds) (pl vs) np q ∧
      Bk wr w.heap.size 24 #[.int .i64 K, .int .i64 h, .slice A np c, .slice (some ⟨b, off, none⟩) np c'] ∧ Below w1.heap.size w1 wr) (fun _ i _ => np - (intOf i).toNat)
  case atStart => exact ⟨0, by omega, rfl, rfl, holdTo_zero _ _ _, K1.out, Below.refl _ _⟩
  case round =>
    obtain ⟨q, hq, rfl, rfl, hh, hb, hbel⟩ := hrel
    have s0 := HPl.out.sum hq
    by_cases hqn : q < np
    · have HY := hide (fun e => holdTo_succ hh e)
      replace HY : Hid (((tk K h cs ds).d q = 0 → pl vs q = 0) ∧ (tk K h cs ds).above (pl vs) q np ≤ K → HoldTo (tk K h cs ds) (pl vs) np (q + 1)) := HY
      have HNo := hide (fun (e : ¬ (((tk K h cs ds).d q = 0 → pl vs q = 0) ∧ (tk K h cs ds).above (pl vs) q np ≤ K)) => HFn.out fun f => e (f q hqn))
      have dd0 := OK.out.d0 q hqn
      have pp0 := HPl.out q hqn
      have cd := (R.out.below hbel (Nat.le_refl _)).cell q hqn
      have cp := (RP.out.below hbel (Nat.le_refl _)).cell q hqn
      rw [← tk_d K h cs ds q] at cd
      rw [show vs.getD q 0 = pl vs q from rfl] at cp
      have HSU := hide (sm_succ (f := pl vs) (s := 0) (n := q) (Nat.zero_le _))
      generalize hu : sm (pl vs) 0 q = su at *
      generalize hy : (tk K h cs ds).d q = y at *
      generalize hz : pl vs q = z at *
      have HBx := hide hb
      have HBLx := hide hbel
      have HYq := hide hy
      have HZq := hide hz
      clear hh hbel hu hy hz
      obtain ⟨k0, k1, k2, k3, kin⟩ := hb.four
      clear hb
      have l2 : (q : Int) < np := by omega
      by_cases hbad : y = 0 ∧ z ≠ 0
      · obtain ⟨rfl, hz0⟩ := hbad
        have hz1 : (z != 0) = true := by simpa using hz0
        have HV := hide (HNo.out fun e => hz0 (e.1 rfl))
        go_wp2_with fail
        go_ret2
        exact ⟨ret2_ii (by rw [HV.out]; rfl) HV.out.symm, B1.out.trans (HBLx.out.mono B1.out.size)⟩
      have HG := hide (fun (h0 : y = 0) => (Classical.not_not.1 fun hz0 => hbad ⟨h0, hz0⟩ : z = 0))
      have wsu : IntKind.i64.wrap (su + z) = su + z := IntWalk.i64_in _ (by omega)
      by_cases h0 : y = 0
      · have hz0 := HG.out h0
        subst h0 hz0
        go_wp2_with fail
        go_loopw [9, 10] (fun u i wi => ∃ k : Nat, q ≤ k ∧ k ≤ np ∧ i = .int .i64 k ∧ u = .int .i64 ((tk K h cs ds).above (pl vs) q k) ∧
            Bk wi w.heap.size 24 #[.int .i64 K, .int .i64 h, .slice A np c, .slice (some ⟨b, off, none⟩) np c'] ∧ Below w1.heap.size w1 wi) (fun _ i _ => np - (intOf i).toNat)
        case atStart => exact ⟨q, by omega, by omega, rfl, by simp [Tk.above, sm_self], HBx.out, HBLx.out⟩
        case round =>
          obtain ⟨k, hk0, hk, rfl, rfl, hb, hbel⟩ := hrel
          have u0 := OK.out.above_in HPl.out q (m := k) hk
          by_cases hlt : k < np
          · have d0 := OK.out.d0 k hlt
            have d1 := OK.out.d1 k hlt
            have x0 := OK.out.dw0 (s := q) (u := k) hk0 hlt
            have x1 := OK.out.dw1 (s := q) (u := k) hk0 hlt hn2
            have p0 := HPl.out k hlt
            have AS := hide (Tk.above_succ (tk K h cs ds) (pl vs) (s := q) (n := k) hk0)
            have AO := hide (show (tk K h cs ds).over (pl vs) q k = if pl vs k - (tk K h cs ds).d k * (tk K h cs ds).way q k < 0 then 0 else pl vs k - (tk K h cs ds).d k * (tk K h cs ds).way q k from rfl)
            have cd := (R.out.below hbel (Nat.le_refl _)).cell k hlt
            have cp := (RP.out.below hbel (Nat.le_refl _)).cell k hlt
            rw [← tk_d K h cs ds k] at cd
            rw [show vs.getD k 0 = pl vs k from rfl] at cp
            have HW := hide (fun W hw => rway_any K h A np c cs (some ⟨b, off, none⟩) np c' ds q k W hw OK.out hk0 hlt hn2)
            generalize (tk K h cs ds).above (pl vs) q k = u at *
            generalize (tk K h cs ds).over (pl vs) q k = ov at *
            generalize (tk K h cs ds).d k = y' at *
            generalize (tk K h cs ds).way q k = z' at *
            generalize pl vs k = v' at *
            obtain ⟨k0, k1, k2, k3, kin⟩ := hb.four
            have HB := hide hb
            have HBL := hide hbel
            have HTR := hide (HT1.out.below hbel (Nat.le_refl _))
            have hbx : b < wr.heap.size := (R.out.below hbel (Nat.le_refl _)).lt (by omega)
            have hby : bp < wr.heap.size := (RP.out.below hbel (Nat.le_refl _)).lt (by omega)
            have hsz := hbel.size
            clear hb hbel
            have ww1 : IntKind.i64.wrap (y' * z') = y' * z' := IntWalk.i64_in _ (by omega)
            have ww2 : IntKind.i64.wrap (v' - y' * z') = v' - y' * z' := IntWalk.i64_in _ (by omega)
            have ww3 : IntKind.i64.wrap (u + (v' - y' * z')) = u + (v' - y' * z') := IntWalk.i64_in _ (by omega)
            have l2 : (k : Int) < np := by omega
            go_wp2_with fail
            go_region_held3 (fun w' => w'.cell? ⟨w.heap.size, 0, none⟩ = some (.int .i64 K) ∧ w'.cell? ⟨w.heap.size, 1, none⟩ = some (.int .i64 h) ∧ w'.cell? ⟨w.heap.size, 2, none⟩ = some (.slice A np c) ∧ w'.cell? ⟨w.heap.size, 3, none⟩ = some (.slice (some ⟨b, off, none⟩) np c') ∧ w'.cell? ⟨b, off + k, none⟩ = some (.int .i64 y') ∧ w'.cell? ⟨bp, offp + k, none⟩ = some (.int .i64 v'))
              (first
                | go_keep
                | (go_split_ands
                   refine ⟨?_, ?_, ?_, ?_, ?_, ?_⟩ <;> (rw [hb8.cell (by simp; omega)]; assumption)))
              (first
                | (go_at_call 74; refine (HW.out _ (HTR.out.below (below_drewN (Below.refl wr.heap.size wr) 1) (Nat.le_refl _))).mono ?_; rintro e8 w8 ⟨rfl, hb8⟩))
            all_goals
              clear ww1 ww2 ww3
              have ov1 : 0 ≤ ov ∧ ov ≤ 100000 := by rw [AO.out]; split <;> omega
              have e9 : (if y' * z' < v' then v' - y' * z' else 0) = ov := by rw [AO.out]; split <;> split <;> omega
              rw [e9]
              have w4 : IntKind.i64.wrap (u + ov) = u + ov := IntWalk.i64_in _ (by omega)
              rw [w4]
              clear e9 w4
              go_wp2_with fail
              go_roundw
              case rel => exact ⟨k + 1, by omega, by omega, by go_num, by rw [AS.out], (HB.out.draws 1).keep hb8 kin, (below_drewN HBL.out 1).trans (hb8.mono (by simp; omega))⟩
              case measure => simp [intOf]; omega
          · obtain rfl : k = np := by omega
            have HBi := hide hb
            have HLi := hide hbel
            obtain ⟨k0, k1, k2, k3, kin⟩ := hb.four
            clear hb hbel
            generalize (tk K h cs ds).above (pl vs) q k = u at *
            by_cases hu : K < u
            · have HV := hide (HNo.out fun e => by have := e.2; omega)
              go_wp2_with fail
              go_ret2
              exact ⟨ret2_ii (by rw [HV.out]; rfl) HV.out.symm, B1.out.trans (HLi.out.mono B1.out.size)⟩
            · go_wp2_with fail
              go_roundw
              case rel => exact ⟨q + 1, by omega, by go_num, (by rw [HSU.out]; try simp), HY.out ⟨HG.out, by omega⟩, HBi.out, HLi.out⟩
              case measure => simp [intOf]; omega

      · have hye : (y == 0) = false := by simpa using h0
        clear h0 hbad
        go_wp2_with fail
        go_loopw [9, 10] (fun u i wi => ∃ k : Nat, q ≤ k ∧ k ≤ np ∧ i = .int .i64 k ∧ u = .int .i64 ((tk K h cs ds).above (pl vs) q k) ∧
            Bk wi w.heap.size 24 #[.int .i64 K, .int .i64 h, .slice A np c, .slice (some ⟨b, off, none⟩) np c'] ∧ Below w1.heap.size w1 wi) (fun _ i _ => np - (intOf i).toNat)
        case atStart => exact ⟨q, by omega, by omega, rfl, by simp [Tk.above, sm_self], HBx.out, HBLx.out⟩
        case round =>
          obtain ⟨k, hk0, hk, rfl, rfl, hb, hbel⟩ := hrel
          have u0 := OK.out.above_in HPl.out q (m := k) hk
          by_cases hlt : k < np
          · have d0 := OK.out.d0 k hlt
            have d1 := OK.out.d1 k hlt
            have x0 := OK.out.dw0 (s := q) (u := k) hk0 hlt
            have x1 := OK.out.dw1 (s := q) (u := k) hk0 hlt hn2
            have p0 := HPl.out k hlt
            have AS := hide (Tk.above_succ (tk K h cs ds) (pl vs) (s := q) (n := k) hk0)
            have AO := hide (show (tk K h cs ds).over (pl vs) q k = if pl vs k - (tk K h cs ds).d k * (tk K h cs ds).way q k < 0 then 0 else pl vs k - (tk K h cs ds).d k * (tk K h cs ds).way q k from rfl)
            have cd := (R.out.below hbel (Nat.le_refl _)).cell k hlt
            have cp := (RP.out.below hbel (Nat.le_refl _)).cell k hlt
            rw [← tk_d K h cs ds k] at cd
            rw [show vs.getD k 0 = pl vs k from rfl] at cp
            have HW := hide (fun W hw => rway_any K h A np c cs (some ⟨b, off, none⟩) np c' ds q k W hw OK.out hk0 hlt hn2)
            generalize (tk K h cs ds).above (pl vs) q k = u at *
            generalize (tk K h cs ds).over (pl vs) q k = ov at *
            generalize (tk K h cs ds).d k = y' at *
            generalize (tk K h cs ds).way q k = z' at *
            generalize pl vs k = v' at *
            obtain ⟨k0, k1, k2, k3, kin⟩ := hb.four
            have HB := hide hb
            have HBL := hide hbel
            have HTR := hide (HT1.out.below hbel (Nat.le_refl _))
            have hbx : b < wr.heap.size := (R.out.below hbel (Nat.le_refl _)).lt (by omega)
            have hby : bp < wr.heap.size := (RP.out.below hbel (Nat.le_refl _)).lt (by omega)
            have hsz := hbel.size
            clear hb hbel
            have ww1 : IntKind.i64.wrap (y' * z') = y' * z' := IntWalk.i64_in _ (by omega)
            have ww2 : IntKind.i64.wrap (v' - y' * z') = v' - y' * z' := IntWalk.i64_in _ (by omega)
            have ww3 : IntKind.i64.wrap (u + (v' - y' * z')) = u + (v' - y' * z') := IntWalk.i64_in _ (by omega)
            have l2 : (k : Int) < np := by omega
            go_wp2_with fail
            go_region_held3 (fun w' => w'.cell? ⟨w.heap.size, 0, none⟩ = some (.int .i64 K) ∧ w'.cell? ⟨w.heap.size, 1, none⟩ = some (.int .i64 h) ∧ w'.cell? ⟨w.heap.size, 2, none⟩ = some (.slice A np c) ∧ w'.cell? ⟨w.heap.size, 3, none⟩ = some (.slice (some ⟨b, off, none⟩) np c') ∧ w'.cell? ⟨b, off + k, none⟩ = some (.int .i64 y') ∧ w'.cell? ⟨bp, offp + k, none⟩ = some (.int .i64 v'))
              (first
                | go_keep
                | (go_split_ands
                   refine ⟨?_, ?_, ?_, ?_, ?_, ?_⟩ <;> (rw [hb8.cell (by simp; omega)]; assumption)))
              (first
                | (go_at_call 74; refine (HW.out _ (HTR.out.below (below_drewN (Below.refl wr.heap.size wr) 1) (Nat.le_refl _))).mono ?_; rintro e8 w8 ⟨rfl, hb8⟩))
            all_goals
              clear ww1 ww2 ww3
              have ov1 : 0 ≤ ov ∧ ov ≤ 100000 := by rw [AO.out]; split <;> omega
              have e9 : (if y' * z' < v' then v' - y' * z' else 0) = ov := by rw [AO.out]; split <;> split <;> omega
              rw [e9]
              have w4 : IntKind.i64.wrap (u + ov) = u + ov := IntWalk.i64_in _ (by omega)
              rw [w4]
              clear e9 w4
              go_wp2_with fail
              go_roundw
              case rel => exact ⟨k + 1, by omega, by omega, by go_num, by rw [AS.out], (HB.out.draws 1).keep hb8 kin, (below_drewN HBL.out 1).trans (hb8.mono (by simp; omega))⟩
              case measure => simp [intOf]; omega
          · obtain rfl : k = np := by omega
            have HBi := hide hb
            have HLi := hide hbel
            obtain ⟨k0, k1, k2, k3, kin⟩ := hb.four
            clear hb hbel
            generalize (tk K h cs ds).above (pl vs) q k = u at *
            by_cases hu : K < u
            · have HV := hide (HNo.out fun e => by have := e.2; omega)
              go_wp2_with fail
              go_ret2
              exact ⟨ret2_ii (by rw [HV.out]; rfl) HV.out.symm, B1.out.trans (HLi.out.mono B1.out.size)⟩
            · go_wp2_with fail
              go_roundw
              case rel => exact ⟨q + 1, by omega, by go_num, (by rw [HSU.out]; try simp), HY.out ⟨HG.out, by omega⟩, HBi.out, HLi.out⟩
              case measure => simp [intOf]; omega

    · obtain rfl : q = np := by omega
      have HV := hide (HF.out hh)
      have HB9 := hide hbel
      clear hb hbel hh
      go_wp2_with fail
      go_ret2
      exact ⟨ret2_ii (by rw [okv_zero HV.out]; (try rw [HN.out])) HV.out.symm, B1.out.trans (HB9.out.mono B1.out.size)⟩

end Go.Proofs.Ytjhnfcmijijdcaa
