/- Walks of Least and of what judges prices (program). -/
import Derived.Test.YtjhnfcmijijdcaaWalkO
import Derived.Deep.RegionLaw
import Derived.Deep.RegionWith
namespace Go.Proofs.Ytjhnfcmijijdcaa
open Go.RowKit

theorem run_table0 (A1 : Option Addr) (n1 c1 : Nat) (A2 : Option Addr) (n2 c2 : Nat) (W : World) : (Instr.field 64 (.agg #[.slice A1 n1 c1, .slice A2 n2 c2]) 0).run Try.prog W = .ok (.slice A1 n1 c1) W := rfl
theorem run_table1 (A1 : Option Addr) (n1 c1 : Nat) (A2 : Option Addr) (n2 c2 : Nat) (W : World) : (Instr.field 64 (.agg #[.slice A1 n1 c1, .slice A2 n2 c2]) 1).run Try.prog W = .ok (.slice A2 n2 c2) W := rfl
set_option maxHeartbeats 4000000 in
theorem least_any (K h : Int) (A : Option Addr) (n c : Nat) (cs : List Int) (A' : Option Addr) (c' : Nat) (ds : List Int) (w : World)
    (hT : Tin w A n c cs A' n c' ds) (ok : (tk K h cs ds).Ok n) (hn1 : 1 ≤ n) (hn : n ≤ 12) :
    Calls Try.prog 66 #[.agg #[.int .i64 K, .int .i64 h, .slice A n c, .slice A' n c']] w fun e w' => e = .returned (.int .i64 ((tk K h cs ds).f n)) ∧ Below w.heap.size w w' := by
  have B0 := hide ((Below.refl w.heap.size w).alloc (Nat.le_refl _) (.cells #[.int .i64 K, .int .i64 h, .slice A n c, .slice A' n c'] 24))
  have K0 := hide (Bk.born w 24 #[.int .i64 K, .int .i64 h, .slice A n c, .slice A' n c'])
  have CH := hide (fun W hw => cheapest_any K h A n c cs A' c' ds W hw ok hn1 hn)
  have HT := hide (hT.below B0.out.drew (Nat.le_refl _))
  clear hT ok
  generalize hv : (tk K h cs ds).f n = v at *
  have HV := hide hv
  clear hv
  have l2 : (n : Int) < n + 1 := by omega
  have rt := run_table0
  go_enter Try.func66, Try.ntmps66
  go_wp2_with fail
  obtain ⟨k0, k1, k2, k3, _⟩ := K0.out.four
  go_region_law (first | (go_simp; go_at_call 68; refine (CH.out _ HT.out).mono ?_; rintro e8 w8 ⟨gc, gl, cl, ll, rfl, oc, ol, kn, hb8⟩; have cc := oc.cell (k := n) (by omega); rw [(kn n (Nat.le_refl _)).1, HV.out] at cc; have hb9 := hide hb8; obtain ⟨p0, p1, p2, p3, _⟩ := (K0.out.draw.keep hb8 K0.out.in_).four; clear oc ol kn hb8))
  all_goals
    go_wp2_with fail
    go_ret
    exact ⟨rfl, (B0.out.drew).trans (hb9.out.mono (by simp))⟩


set_option maxHeartbeats 2000000 in
theorem Least_any (K h : Int) (A : Option Addr) (n c : Nat) (cs : List Int) (A' : Option Addr) (n' c' : Nat) (ds : List Int) (w : World) (hT : Tin w A n c cs A' n' c' ds) :
    Calls Try.prog 31 #[.agg #[.int .i64 K, .int .i64 h, .slice A n c, .slice A' n' c']] w
      (NumPost (okv (errT K h cs ds) ((tk K h cs ds).f ds.length)) (errT K h cs ds) w) := by
  have HT := hide hT
  have L1 := hT.1.length
  have L2 := hT.2.length
  have B0 := hide ((Below.refl w.heap.size w).alloc (Nat.le_refl _) (.cells #[.int .i64 K, .int .i64 h, .slice A n c, .slice A' n' c'] 24))
  have K0 := hide (Bk.born w 24 #[.int .i64 K, .int .i64 h, .slice A n c, .slice A' n' c'])
  clear hT
  by_cases he : errT K h cs ds = 0
  case neg =>
    have HE := hide he
    have he' : (errT K h cs ds != 0) = true := by simpa using he
    clear he
    go_enter Try.func31, Try.ntmps31
    go_wp2_with fail
    refine (Validate_any K h _ n c cs _ n' c' ds _ (HT.out.alloc _)).mono ?_
    rintro e w1 ⟨rfl, b1⟩
    go_wp2_with fail
    go_ret2
    exact ⟨ret2_ii (okv_ne HE.out _).symm rfl, B0.out.trans (b1.mono (by simp))⟩
  have o := errT_zero he
  have hn1 : 1 ≤ n' := by have := o.n1; omega
  have hn2 : n' ≤ 12 := by have := o.n2; omega
  obtain rfl : n = n' := by have := o.c.1; omega
  have OK := hide (by have := o.tk; rw [L2] at this; exact this)
  have HE := hide he
  have HN := hide L2
  clear o he L1 L2
  go_enter Try.func31, Try.ntmps31
  go_wp2_with fail
  refine (Validate_any K h _ n c cs _ n c' ds _ (HT.out.alloc _)).mono ?_
  rw [HE.out]
  rintro e w1 ⟨rfl, b1⟩
  have B1 := hide (B0.out.trans (b1.mono (by simp)))
  have K1 := hide (K0.out.keep b1 (by simp))
  obtain ⟨k0, k1, k2, k3, _⟩ := K1.out.four
  clear b1
  go_wp2_with fail
  refine (least_any K h _ n c cs _ c' ds _ (HT.out.below B1.out (Nat.le_refl _)) OK.out hn1 hn2).mono ?_
  rintro e w2 ⟨rfl, b2⟩
  go_wp2_with fail
  go_ret2
  exact ⟨ret2_ii (by rw [okv_zero HE.out, HN.out]) HE.out.symm, B1.out.trans (b2.mono B1.out.size)⟩

/-- Prices in range. -/
def PriceIn (v : Nat → Int) (n : Nat) : Prop := ∀ i, i < n → 0 ≤ v i ∧ v i ≤ 100000
theorem Tk.Ok.over_in {t : Tk} {n : Nat} {v : Nat → Int} (ok : t.Ok n) (hv : PriceIn v n) {s u : Nat} (h1 : s ≤ u) (h2 : u < n) : t.over v s u ≤ 100000 := by
  have := (hv u h2).2
  have := ok.dw0 h1 h2
  unfold Tk.over
  split <;> omega
theorem Tk.Ok.above_in {t : Tk} {n : Nat} {v : Nat → Int} (ok : t.Ok n) (hv : PriceIn v n) (s : Nat) {m : Nat} (hm : m ≤ n) : 0 ≤ t.above v s m ∧ t.above v s m ≤ (m : Int) * 100000 :=
  ⟨sm_nonneg fun i _ _ => t.over0 v s i, sm_bound (by omega) fun i h1 h2 => ok.over_in hv h1 (by omega)⟩

set_option maxHeartbeats 4000000 in
theorem above_any (K h : Int) (A : Option Addr) (n c : Nat) (cs : List Int) (A' : Option Addr) (c' : Nat) (ds : List Int) (P : Option Addr) (pc : Nat) (ps : List Int) (s : Nat) (w : World)
    (hT : Tin w A n c cs A' n c' ds) (hP : Row w P n pc ps) (ok : (tk K h cs ds).Ok n) (hp : PriceIn (pl ps) n) (hs : s ≤ n) (hn1 : 1 ≤ n) (hn : n ≤ 12) :
    Calls Try.prog 84 #[.agg #[.int .i64 K, .int .i64 h, .slice A n c, .slice A' n c'], .slice P n pc, .int .i64 s] w fun e w' =>
      e = .returned (.int .i64 ((tk K h cs ds).above (pl ps) s n)) ∧ Below w.heap.size w w' := by
  have HT := hide hT
  obtain ⟨b, off, r⟩ := hT.2
  obtain ⟨bp, offp, rp⟩ := hP
  obtain rfl := r.at_ (by omega)
  obtain rfl := rp.at_ (by omega)
  have hcap := r.cap
  have hmax := r.max
  have hcapp := rp.cap
  have hmaxp := rp.max
  have R := hide r
  have RP := hide rp
  have OK := hide ok
  have HP := hide hp
  clear hT r rp ok hp
  have B0 := hide ((Below.refl w.heap.size w).alloc (Nat.le_refl _) (.cells #[.int .i64 K, .int .i64 h, .slice A n c, .slice (some ⟨b, off, none⟩) n c'] 24))
  have K0 := hide (Bk.born w 24 #[.int .i64 K, .int .i64 h, .slice A n c, .slice (some ⟨b, off, none⟩) n c'])
  go_enter Try.func84, Try.ntmps84
  go_wp2_with fail
  go_loopw [7, 8] (fun u i wr => ∃ k : Nat, s ≤ k ∧ k ≤ n ∧ i = .int .i64 k ∧ u = .int .i64 ((tk K h cs ds).above (pl ps) s k) ∧
      Bk wr w.heap.size 24 #[.int .i64 K, .int .i64 h, .slice A n c, .slice (some ⟨b, off, none⟩) n c'] ∧ Below w.heap.size w wr) (fun _ i _ => n - (intOf i).toNat)
  case atStart => exact ⟨s, by omega, by omega, rfl, by simp [Tk.above, sm_self], K0.out, B0.out⟩
  case round =>
    obtain ⟨k, hk0, hk, rfl, rfl, hb, hbel⟩ := hrel
    have u0 := OK.out.above_in HP.out s (m := k) hk
    by_cases hlt : k < n
    · have d0 := OK.out.d0 k hlt
      have d1 := OK.out.d1 k hlt
      have x0 := OK.out.dw0 (s := s) (u := k) hk0 hlt
      have x1 := OK.out.dw1 (s := s) (u := k) hk0 hlt hn
      have p0 := HP.out k hlt
      have AS := hide (Tk.above_succ (tk K h cs ds) (pl ps) (s := s) (n := k) hk0)
      have AO := hide (show (tk K h cs ds).over (pl ps) s k = if pl ps k - (tk K h cs ds).d k * (tk K h cs ds).way s k < 0 then 0 else pl ps k - (tk K h cs ds).d k * (tk K h cs ds).way s k from rfl)
      have cd := (R.out.below hbel (Nat.le_refl _)).cell k hlt
      have cp := (RP.out.below hbel (Nat.le_refl _)).cell k hlt
      rw [← tk_d K h cs ds k] at cd
      rw [show ps.getD k 0 = pl ps k from rfl] at cp
      have HW := hide (fun W hw => way_any K h A n c cs (some ⟨b, off, none⟩) n c' ds s k W hw OK.out hk0 hlt hn)
      generalize (tk K h cs ds).above (pl ps) s k = u at *
      generalize (tk K h cs ds).over (pl ps) s k = ov at *
      generalize (tk K h cs ds).d k = y at *
      generalize (tk K h cs ds).way s k = z at *
      generalize pl ps k = v at *
      obtain ⟨k0, k1, k2, k3, kin⟩ := hb.four
      have HB := hide hb
      have HBL := hide hbel
      have HTR := hide (HT.out.below hbel (Nat.le_refl _))
      have hbx : b < wr.heap.size := (R.out.below hbel (Nat.le_refl _)).lt (by omega)
      have hby : bp < wr.heap.size := (RP.out.below hbel (Nat.le_refl _)).lt (by omega)
      have hsz := hbel.size
      clear hb hbel
      have w1 : IntKind.i64.wrap (y * z) = y * z := IntWalk.i64_in _ (by omega)
      have w2 : IntKind.i64.wrap (v - y * z) = v - y * z := IntWalk.i64_in _ (by omega)
      have w3 : IntKind.i64.wrap (u + (v - y * z)) = u + (v - y * z) := IntWalk.i64_in _ (by omega)
      have l2 : (k : Int) < n := by omega
      go_wp2_with fail
      go_region_held3 (fun w' => w'.cell? ⟨w.heap.size, 0, none⟩ = some (.int .i64 K) ∧ w'.cell? ⟨w.heap.size, 1, none⟩ = some (.int .i64 h) ∧ w'.cell? ⟨w.heap.size, 2, none⟩ = some (.slice A n c) ∧ w'.cell? ⟨w.heap.size, 3, none⟩ = some (.slice (some ⟨b, off, none⟩) n c') ∧ w'.cell? ⟨b, off + k, none⟩ = some (.int .i64 y) ∧ w'.cell? ⟨bp, offp + k, none⟩ = some (.int .i64 v))
        (first
          | go_keep
          | (go_split_ands
             refine ⟨?_, ?_, ?_, ?_, ?_, ?_⟩ <;> (rw [hb8.cell (by simp; omega)]; assumption)))
        (first
          | (go_at_call 87; refine (HW.out _ (HTR.out.below (below_drewN (Below.refl wr.heap.size wr) 1) (Nat.le_refl _))).mono ?_; rintro e8 w8 ⟨rfl, hb8⟩))
      all_goals
        clear w1 w2 w3
        have ov1 : 0 ≤ ov ∧ ov ≤ 100000 := by rw [AO.out]; split <;> omega
        have e9 : (if y * z < v then v - y * z else 0) = ov := by rw [AO.out]; split <;> split <;> omega
        rw [e9]
        have w4 : IntKind.i64.wrap (u + ov) = u + ov := IntWalk.i64_in _ (by omega)
        rw [w4]
        clear e9 w4
        go_wp2_with fail
        go_roundw
        case rel => exact ⟨k + 1, by omega, by omega, by go_num, by rw [AS.out], (HB.out.draws 1).keep hb8 kin, (below_drewN HBL.out 1).trans (hb8.mono (by simp; omega))⟩
        case measure => simp [intOf]; omega
    · obtain rfl : k = n := by omega
      go_wp2_with fail
      go_ret
      exact ⟨rfl, hbel⟩

end Go.Proofs.Ytjhnfcmijijdcaa
