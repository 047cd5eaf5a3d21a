/- The walk of AirLeast. -/
import Derived.Test.YtjhnfcmijijdcaaMathJ
namespace Go.Proofs.Ytjhnfcmijijdcaa
open Go.RowKit

theorem lb_all {t : Tk} {n : Nat} (ok : t.Ok n) (hn : n ≤ 12) : t.lb n (2 ^ n) = t.f n := by
  obtain ⟨x, hx, hb⟩ := set_num (fun s => decide (0 < t.bp n s)) n
  have h4 : 2 ^ n ≤ 2 ^ 12 := Nat.pow_le_pow_right (by omega) hn
  have h5 : x ≤ 4096 := by omega
  have r := ok.bp_right hn
  obtain ⟨can, le⟩ := Tk.set_le ok hn r (S := bitS x) (fun s hs => by rw [bitS_eq x s h5 (by omega), hb s hs]; simp)
  rw [← setC_eq, (ok.good (Nat.le_refl n)).cost] at le
  have a := lb_le ok hn (ok.f0 (Nat.le_refl n)) can (2 ^ n) hx
  have b := lb_ge ok hn (2 ^ n)
  omega

set_option maxHeartbeats 2000000 in
theorem rLeast_any (K h : Int) (A : Option Addr) (n c : Nat) (cs : List Int) (A' : Option Addr) (n' c' : Nat) (ds : List Int) (w : World) (hT : Tin w A n c cs A' n' c' ds) :
    Calls Try.prog 32 #[.agg #[.int .i64 K, .int .i64 h, .slice A n c, .slice A' n' c']] w (NumPost (okv (errT K h cs ds) ((tk K h cs ds).f ds.length)) (errT K h cs ds) w) := by
  have HT := hide hT
  have L2 := hT.2.length
  have B0 := hide ((Below.refl w.heap.size w).alloc (Nat.le_refl _) (.cells #[.int .i64 K, .int .i64 h, .slice A n c, .slice A' n' c'] 24))
  have K0 := hide (Bk.born w 24 #[.int .i64 K, .int .i64 h, .slice A n c, .slice A' n' c'])
  clear hT
  by_cases he : errT K h cs ds = 0
  case neg =>
    have HV := hide (okv_ne he ((tk K h cs ds).f ds.length))
    have he' : (errT K h cs ds != 0) = true := by simpa using he
    have HE := hide (errT_ne he)
    go_enter Try.func32, Try.ntmps32
    go_wp2_with fail
    refine (rValidate_any K h _ n c cs _ n' c' ds _ (HT.out.below B0.out (Nat.le_refl _))).mono ?_
    rintro e w1 ⟨rfl, b1⟩
    go_wp2_with fail
    go_ret2
    exact ⟨ret2_ii (by rw [HV.out]) rfl, B0.out.trans (b1.mono B0.out.size)⟩
  have o := errT_zero he
  have hn1 : 1 ≤ n' := by have := o.n1; omega
  have hn2 : n' ≤ 12 := by have := o.n2; omega
  obtain rfl : n = n' := by have := o.c.1; have := HT.out.1.length; omega
  have OK := hide (by have := o.tk; rw [L2] at this; exact this)
  have HA := hide (lb_all OK.out hn2)
  rw [he, okv_zero rfl, L2]
  have HE := hide he
  clear he o
  go_enter Try.func32, Try.ntmps32
  go_wp2_with fail
  refine (rValidate_any K h _ n c cs _ n c' ds _ (HT.out.below B0.out (Nat.le_refl _))).mono ?_
  rw [HE.out]
  rintro e w1 ⟨rfl, b1⟩
  have B1 := hide (B0.out.trans (b1.mono B0.out.size))
  have K1 := hide (K0.out.keep b1 K0.out.in_)
  clear b1
  obtain ⟨k0, k1, k2, k3, _⟩ := K1.out.four
  go_wp2_with fail
  refine (rleast_any K h _ n c cs _ c' ds _ (HT.out.below B1.out (Nat.le_refl _)) OK.out hn1 hn2).mono ?_
  rw [HA.out]
  rintro e w2 ⟨rfl, b2⟩
  go_wp2_with fail
  go_ret2
  exact ⟨rfl, B1.out.trans (b2.mono B1.out.size)⟩

set_option maxHeartbeats 4000000 in
theorem AirLeast_walk (K h : Int) (A : Option Addr) (n c : Nat) (cs : List Int) (A' : Option Addr) (n' c' : Nat) (ds : List Int) (w : World)
    (hT : Tin w A n c cs A' n' c' ds) :
    Calls Try.prog 5 #[.agg #[.int .i64 K, .int .i64 h, .slice A n c, .slice A' n' c']] w fun e w' => e = .returned (.bool true) ∧ Below w.heap.size w w' := by
  have HT := hide hT
  have B0 := hide ((Below.refl w.heap.size w).alloc (Nat.le_refl _) (.cells #[.int .i64 K, .int .i64 h, .slice A n c, .slice A' n' c'] 24))
  have K0 := hide (Bk.born w 24 #[.int .i64 K, .int .i64 h, .slice A n c, .slice A' n' c'])
  clear hT
  by_cases hL : 100 < n ∨ 100 < n'
  case pos =>
    go_enter Try.func5, Try.ntmps5
    go_wp2_with fail
    refine (Long_any K h _ n c cs _ n' c' ds _ (HT.out.below B0.out (Nat.le_refl _))).mono ?_
    rw [decide_eq_true hL]
    rintro e w1 ⟨rfl, b1⟩
    have B1 := hide (B0.out.trans (b1.mono B0.out.size))
    have K1 := hide (K0.out.keep b1 K0.out.in_)
    clear b1
    go_wp2_with fail
    refine (known_any _).mono ?_
    rintro e wz ⟨rfl, bz⟩
    go_wp2_with fail
    go_ret
    exact ⟨rfl, B1.out.trans (bz.mono B1.out.size)⟩
  go_enter Try.func5, Try.ntmps5
  go_wp2_with fail
  refine (Long_any K h _ n c cs _ n' c' ds _ (HT.out.below B0.out (Nat.le_refl _))).mono ?_
  rw [decide_eq_false hL]
  rintro e w1 ⟨rfl, b1⟩
  have B1 := hide (B0.out.trans (b1.mono B0.out.size))
  have K1 := hide (K0.out.keep b1 K0.out.in_)
  clear b1
  obtain ⟨k0, k1, k2, k3, _⟩ := K1.out.four
  go_wp2_with fail
  refine (Least_any K h _ n c cs _ n' c' ds _ (HT.out.below B1.out (Nat.le_refl _))).mono ?_
  rintro e w2 ⟨rfl, b2⟩
  have B2 := hide (B1.out.trans (b2.mono B1.out.size))
  have K2 := hide (K1.out.keep b2 K1.out.in_)
  clear b2
  clear k0 k1 k2 k3
  obtain ⟨k0, k1, k2, k3, _⟩ := K2.out.four
  go_wp2_with fail
  refine (rLeast_any K h _ n c cs _ n' c' ds _ (HT.out.below B2.out (Nat.le_refl _))).mono ?_
  rintro e w3 ⟨rfl, b3⟩
  have B3 := hide (B2.out.trans (b3.mono B2.out.size))
  have K3 := hide (K2.out.keep b3 K2.out.in_)
  clear b3
  clear k0 k1 k2 k3
  obtain ⟨k0, k1, k2, k3, _⟩ := K3.out.four
  go_wp2_with fail
  refine (Best_any K h _ n c cs _ n' c' ds _ (HT.out.below B3.out (Nat.le_refl _))).mono ?_
  rintro e w4 ⟨Ab, nb, cb, rfl, ob, b4⟩
  have B4 := hide (B3.out.trans (b4.mono B3.out.size))
  have K4 := hide (K3.out.keep b4 K3.out.in_)
  clear b4
  clear k0 k1 k2 k3
  have Lb := hide ob.len
  have Rb := hide (ob.row)
  clear ob
  obtain ⟨k0, k1, k2, k3, _⟩ := K4.out.four
  by_cases he : errT K h cs ds = 0
  case neg =>
    have he' : (errT K h cs ds != 0) = true := by simpa using he
    have hq0 : nb = 0 := by have := Lb.out; rw [okl_ne he] at this; simpa using this.symm
    subst hq0
    go_wp2_with fail
    refine (known_any _).mono ?_
    rintro e wz ⟨rfl, bz⟩
    go_wp2_with fail
    go_ret
    exact ⟨rfl, B4.out.trans (bz.mono B4.out.size)⟩
  have BO := hide (best_ok (errT_zero he))
  rw [okl_zero he] at Rb
  rw [he, okv_zero rfl]
  clear he
  generalize hf : (tk K h cs ds).f ds.length = fv at *
  clear hf
  go_wp2_with fail
  refine (rCheckPlan_any K h _ n c cs _ n' c' ds _ nb cb _ _ (HT.out.below B4.out (Nat.le_refl _)) Rb.out).mono ?_
  rw [BO.out.1]
  rw [okv_zero rfl]
  rw [BO.out.2.1]
  rintro e w5 ⟨rfl, b5⟩
  have B5 := hide (B4.out.trans (b5.mono B4.out.size))
  have K5 := hide (K4.out.keep b5 K4.out.in_)
  replace Rb := hide (Rb.out.below b5 (Nat.le_refl _))
  clear b5
  clear k0 k1 k2 k3
  obtain ⟨k0, k1, k2, k3, _⟩ := K5.out.four
  go_wp2_with fail
  refine (rIsTidy_any K h _ n c cs _ n' c' ds _ nb cb _ _ (HT.out.below B5.out (Nat.le_refl _)) Rb.out).mono ?_
  rw [BO.out.1]
  rw [okb_zero rfl]
  rw [decide_eq_true BO.out.2.2]
  rintro e w6 ⟨rfl, b6⟩
  have B6 := hide (B5.out.trans (b6.mono B5.out.size))
  have K6 := hide (K5.out.keep b6 K5.out.in_)
  replace Rb := hide (Rb.out.below b6 (Nat.le_refl _))
  clear b6
  clear k0 k1 k2 k3
  go_wp2_with fail
  refine (known_any _).mono ?_
  rintro e wz ⟨rfl, bz⟩
  go_wp2_with fail
  go_ret
  exact ⟨rfl, B6.out.trans (bz.mono B6.out.size)⟩

end Go.Proofs.Ytjhnfcmijijdcaa
