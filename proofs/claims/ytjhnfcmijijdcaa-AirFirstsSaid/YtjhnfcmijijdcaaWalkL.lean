/- Walk of what it costs to pump in one hour for several (program). -/
import Derived.Test.YtjhnfcmijijdcaaWalkK
namespace Go.Proofs.Ytjhnfcmijijdcaa
open Go.RowKit

set_option maxHeartbeats 4000000 in
theorem together_any (K h : Int) (A : Option Addr) (n c : Nat) (cs : List Int) (A' : Option Addr) (c' : Nat) (ds : List Int) (s e : Nat) (w : World)
    (hT : Tin w A n c cs A' n c' ds) (ok : (tk K h cs ds).Ok n) (hse : s ≤ e) (hen : e ≤ n) (hn1 : 1 ≤ n) (hn : n ≤ 12) :
    Calls Try.prog 83 #[.agg #[.int .i64 K, .int .i64 h, .slice A n c, .slice A' n c'], .int .i64 s, .int .i64 e] w fun en w' =>
      en = .returned (.int .i64 ((tk K h cs ds).tog s e)) ∧ Below w.heap.size w w' := by
  have HT := hide hT
  obtain ⟨b, off, r⟩ := hT.2
  obtain rfl := r.at_ (by omega)
  have hcap := r.cap
  have hmax := r.max
  have R := hide r
  have OK := hide ok
  have hK0 := ok.K0
  have hK1 := ok.K1
  replace hK0 : 0 ≤ K := hK0
  replace hK1 : K ≤ 999 := hK1
  clear hT r ok
  have B0 := hide ((Below.refl w.heap.size w).alloc (Nat.le_refl _) (.cells #[.int .i64 K, .int .i64 h, .slice A n c, .slice (some ⟨b, off, none⟩) n c'] 24))
  have K0 := hide (Bk.born w 24 #[.int .i64 K, .int .i64 h, .slice A n c, .slice (some ⟨b, off, none⟩) n c'])
  go_enter Try.func83, Try.ntmps83
  go_wp2_with fail
  go_loopw [7, 8, 9] (fun u v i wr => ∃ k : Nat, s ≤ k ∧ k ≤ e ∧ i = .int .i64 k ∧ u = .int .i64 ((tk K h cs ds).units s k) ∧ v = .int .i64 ((tk K h cs ds).save s k) ∧
      Bk wr w.heap.size 24 #[.int .i64 K, .int .i64 h, .slice A n c, .slice (some ⟨b, off, none⟩) n c'] ∧ Below w.heap.size w wr) (fun _ _ i _ => e - (intOf i).toNat)
  case atStart => exact ⟨s, by omega, by omega, rfl, by simp [Tk.units, sm_self], by simp [Tk.save, sm_self], K0.out, B0.out⟩
  case round =>
    obtain ⟨k, hk0, hk, rfl, rfl, rfl, hb, hbel⟩ := hrel
    have u0 := OK.out.units0 s (m := k) (by omega)
    have u1 := OK.out.units1 s (m := k) (by omega) hn
    have s0 := OK.out.save0 s (m := k) (by omega)
    have s1 := OK.out.save1 s (m := k) (by omega) hn
    by_cases hlt : k < e
    · have d0 := OK.out.d0 k (by omega)
      have d1 := OK.out.d1 k (by omega)
      have x0 := OK.out.dw0 (s := s) (u := k) (by omega) (by omega)
      have x1 := OK.out.dw1 (s := s) (u := k) (by omega) (by omega) hn
      have US := hide (Tk.units_succ (t := tk K h cs ds) (s := s) (u := k) (by omega))
      have SS := hide (Tk.save_succ (t := tk K h cs ds) (s := s) (u := k) (by omega))
      have cd := (R.out.below hbel (Nat.le_refl _)).cell k (by omega)
      rw [← tk_d K h cs ds k] at cd
      have HW := hide (fun W hw => way_any K h A n c cs (some ⟨b, off, none⟩) n c' ds s k W hw OK.out (by omega) (by omega) hn)
      generalize (tk K h cs ds).units s k = u at *
      generalize (tk K h cs ds).save s k = v at *
      generalize (tk K h cs ds).d k = y at *
      generalize (tk K h cs ds).way s k = z at *
      obtain ⟨k0, k1, k2, k3, kin⟩ := hb.four
      have HB := hide hb
      have HBL := hide hbel
      have HTR := hide (HT.out.below hbel (Nat.le_refl _))
      have hbx : b < wr.heap.size := (R.out.below hbel (Nat.le_refl _)).lt (by omega)
      have hsz := hbel.size
      clear hb hbel
      have w1 : IntKind.i64.wrap (u + y) = u + y := IntWalk.i64_in _ (by omega)
      have w2 : IntKind.i64.wrap (y * z) = y * z := IntWalk.i64_in _ (by omega)
      have w3 : IntKind.i64.wrap (v + y * z) = v + y * z := IntWalk.i64_in _ (by omega)
      have l2 : (k : Int) < n := by omega
      go_wp2_with fail
      go_region_held3 (fun w' => w'.cell? ⟨w.heap.size, 0, none⟩ = some (.int .i64 K) ∧ w'.cell? ⟨w.heap.size, 1, none⟩ = some (.int .i64 h) ∧ w'.cell? ⟨w.heap.size, 2, none⟩ = some (.slice A n c) ∧ w'.cell? ⟨w.heap.size, 3, none⟩ = some (.slice (some ⟨b, off, none⟩) n c') ∧ w'.cell? ⟨b, off + k, none⟩ = some (.int .i64 y))
        (first
          | go_keep
          | (go_split_ands
             refine ⟨?_, ?_, ?_, ?_, ?_⟩ <;> (rw [hb8.cell (by simp; omega)]; assumption)))
        (first
          | (go_at_call 87; refine (HW.out _ (HTR.out.below (below_drewN (Below.refl wr.heap.size wr) 1) (Nat.le_refl _))).mono ?_; rintro e8 w8 ⟨rfl, hb8⟩))
      all_goals
        clear w1 w2 w3
        go_wp2_with fail
        go_roundw
        case rel => exact ⟨k + 1, by omega, by omega, by go_num, by rw [US.out], by rw [SS.out], (HB.out.draws 1).keep hb8 kin, (below_drewN HBL.out 1).trans (hb8.mono (by simp; omega))⟩
        case measure => simp [intOf]; omega
    · obtain rfl : k = e := by omega
      obtain ⟨k0, k1, k2, k3, kin⟩ := hb.four
      have HZ := hide (fun (x : (tk K h cs ds).units s k = 0) => (show (tk K h cs ds).tog s k = 0 by unfold Tk.tog; rw [if_pos x]))
      have HZn := hide (fun (x : ¬ (tk K h cs ds).units s k = 0) => (show (tk K h cs ds).tog s k = K + (tk K h cs ds).save s k by unfold Tk.tog; rw [if_neg x]; rfl))
      generalize (tk K h cs ds).units s k = u at *
      generalize (tk K h cs ds).save s k = v at *
      by_cases hu : u = 0
      · go_wp2_with fail
        go_ret
        exact ⟨ret_i64 (HZ.out hu).symm, hbel⟩
      · go_wp2_with fail
        go_ret
        exact ⟨ret_i64 (by rw [HZn.out hu]), hbel⟩

end Go.Proofs.Ytjhnfcmijijdcaa
