/- The walk of AirPrices. -/
import Derived.Test.YtjhnfcmijijdcaaWalkU
namespace Go.Proofs.Ytjhnfcmijijdcaa
open Go.RowKit

theorem above_congr {t : Tk} {v v' : Nat → Int} {s n : Nat} (h : ∀ i, i < n → v i = v' i) : t.above v s n = t.above v' s n := by
  unfold Tk.above
  exact sm_congr fun i _ hi => by unfold Tk.over; rw [h i hi]
theorem holds_congr {t : Tk} {v v' : Nat → Int} {n : Nat} (h : ∀ i, i < n → v i = v' i) (hv : t.Holds v n) : t.Holds v' n := fun s hs =>
  ⟨fun hd => by rw [← h s hs]; exact (hv s hs).1 hd, by rw [← above_congr h]; exact (hv s hs).2⟩
theorem prices_ok {K h : Int} {cs ds : List Int} (o : OkT K h cs ds) : errV K h cs ds ((tk K h cs ds).pL ds.length) = 0 ∧ sm (pl ((tk K h cs ds).pL ds.length)) 0 ds.length = (tk K h cs ds).f ds.length := by
  have e : ∀ i, i < ds.length → (tk K h cs ds).p i = pl ((tk K h cs ds).pL ds.length) i := fun i hi => ((tk K h cs ds).pL_get hi).symm
  refine ⟨errV_ok o ⟨by rw [Tk.pL_len], fun j hj => ?_⟩ (holds_congr e o.tk.holds), ?_⟩
  · rw [Tk.pL_len] at hj
    rw [Tk.pL_get _ hj]
    have := o.tk.p0 hj
    have := o.tk.p1 hj
    omega
  · rw [← sm_congr fun i _ hi => e i hi]
    exact o.tk.worth

set_option maxHeartbeats 4000000 in
theorem AirPrices_walk (K h : Int) (A : Option Addr) (n c : Nat) (cs : List Int) (A' : Option Addr) (n' c' : Nat) (ds : List Int) (P : Option Addr) (np pc : Nat) (ps : List Int) (w : World)
    (hT : Tin w A n c cs A' n' c' ds) (hP : Row w P np pc ps) :
    Calls Try.prog 9 #[.agg #[.int .i64 K, .int .i64 h, .slice A n c, .slice A' n' c'], .slice P np pc] w fun e w' => e = .returned (.bool true) ∧ Below w.heap.size w w' := by
  have HT := hide hT
  have HPr := hide hP
  have B0 := hide ((Below.refl w.heap.size w).alloc (Nat.le_refl _) (.cells #[.int .i64 K, .int .i64 h, .slice A n c, .slice A' n' c'] 24))
  have K0 := hide (Bk.born w 24 #[.int .i64 K, .int .i64 h, .slice A n c, .slice A' n' c'])
  clear hT hP
  by_cases hL : 100 < n ∨ 100 < n'
  case pos =>
    go_enter Try.func9, Try.ntmps9
    go_wp2_with fail
    refine (Long_any K h _ n c cs _ n' c' ds _ (HT.out.below B0.out (Nat.le_refl _))).mono ?_
    rw [decide_eq_true hL]
    rintro e w1 ⟨rfl, b1⟩
    have B1 := hide (B0.out.trans (b1.mono B0.out.size))
    have K1 := hide (K0.out.keep b1 K0.out.in_)
    clear b1
    go_wp2_with fail
    refine (known_any _).mono ?_
    rintro e wz ⟨rfl, bz⟩
    go_wp2_with fail
    go_ret
    exact ⟨rfl, B1.out.trans (bz.mono B1.out.size)⟩
  by_cases hL2 : 100 < np
  case pos =>
    go_enter Try.func9, Try.ntmps9
    go_wp2_with fail
    refine (Long_any K h _ n c cs _ n' c' ds _ (HT.out.below B0.out (Nat.le_refl _))).mono ?_
    rw [decide_eq_false hL]
    rintro e w1 ⟨rfl, b1⟩
    have B1 := hide (B0.out.trans (b1.mono B0.out.size))
    have K1 := hide (K0.out.keep b1 K0.out.in_)
    clear b1
    go_wp2_with fail
    refine (large_any _ np pc ps _ (HPr.out.below B1.out (Nat.le_refl _))).mono ?_
    rw [decide_eq_true hL2]
    rintro e wq ⟨rfl, rfl⟩
    go_wp2_with fail
    refine (known_any _).mono ?_
    rintro e wz ⟨rfl, bz⟩
    go_wp2_with fail
    go_ret
    exact ⟨rfl, B1.out.trans (bz.mono B1.out.size)⟩
  go_enter Try.func9, Try.ntmps9
  go_wp2_with fail
  refine (Long_any K h _ n c cs _ n' c' ds _ (HT.out.below B0.out (Nat.le_refl _))).mono ?_
  rw [decide_eq_false hL]
  rintro e w1 ⟨rfl, b1⟩
  have B1 := hide (B0.out.trans (b1.mono B0.out.size))
  have K1 := hide (K0.out.keep b1 K0.out.in_)
  clear b1
  go_wp2_with fail
  refine (large_any _ np pc ps _ (HPr.out.below B1.out (Nat.le_refl _))).mono ?_
  rw [decide_eq_false hL2]
  rintro e wq ⟨rfl, rfl⟩
  obtain ⟨k0, k1, k2, k3, _⟩ := K1.out.four
  go_wp2_with fail
  refine (CheckPrices_any K h _ n c cs _ n' c' ds _ np pc ps _ (HT.out.below B1.out (Nat.le_refl _)) (HPr.out.below B1.out (Nat.le_refl _))).mono ?_
  rintro e w2 ⟨rfl, b2⟩
  have B2 := hide (B1.out.trans (b2.mono B1.out.size))
  have K2 := hide (K1.out.keep b2 K1.out.in_)
  clear b2
  clear k0 k1 k2 k3
  obtain ⟨k0, k1, k2, k3, _⟩ := K2.out.four
  go_wp2_with fail
  refine (rCheckPrices_any K h _ n c cs _ n' c' ds _ np pc ps _ (HT.out.below B2.out (Nat.le_refl _)) (HPr.out.below B2.out (Nat.le_refl _))).mono ?_
  rintro e w3 ⟨rfl, b3⟩
  have B3 := hide (B2.out.trans (b3.mono B2.out.size))
  have K3 := hide (K2.out.keep b3 K2.out.in_)
  clear b3
  clear k0 k1 k2 k3
  generalize okv (errV K h cs ds ps) (sm (pl ps) 0 ds.length) = c3 at *
  generalize errV K h cs ds ps = e3 at *
  obtain ⟨k0, k1, k2, k3, _⟩ := K3.out.four
  go_wp2_with fail
  refine (Prices_any K h _ n c cs _ n' c' ds _ (HT.out.below B3.out (Nat.le_refl _))).mono ?_
  rintro e w4 ⟨Aq, nq, cq, rfl, oq, b4⟩
  have B4 := hide (B3.out.trans (b4.mono B3.out.size))
  have K4 := hide (K3.out.keep b4 K3.out.in_)
  clear b4
  clear k0 k1 k2 k3
  have Lq := hide oq.len
  have Rq := hide (oq.row)
  clear oq
  obtain ⟨k0, k1, k2, k3, _⟩ := K4.out.four
  go_wp2_with fail
  refine (Least_any K h _ n c cs _ n' c' ds _ (HT.out.below B4.out (Nat.le_refl _))).mono ?_
  rintro e w5 ⟨rfl, b5⟩
  have B5 := hide (B4.out.trans (b5.mono B4.out.size))
  have K5 := hide (K4.out.keep b5 K4.out.in_)
  replace Rq := hide (Rq.out.below b5 (Nat.le_refl _))
  clear b5
  clear k0 k1 k2 k3
  by_cases he : errT K h cs ds = 0
  case neg =>
    have he' : (errT K h cs ds != 0) = true := by simpa using he
    have hq0 : nq = 0 := by have := Lq.out; rw [okl_ne he] at this; simpa using this.symm
    subst hq0
    go_wp2_with fail
    refine (known_any _).mono ?_
    rintro e wz ⟨rfl, bz⟩
    go_wp2_with fail
    go_ret
    exact ⟨rfl, B5.out.trans (bz.mono B5.out.size)⟩
  have OT := errT_zero he
  obtain ⟨P1, P2⟩ := prices_ok OT
  have HP1 := hide P1
  have HP2 := hide P2
  rw [okl_zero he] at Rq
  rw [okv_zero he, he]
  clear P1 P2 OT
  obtain ⟨k0, k1, k2, k3, _⟩ := K5.out.four
  go_wp2_with fail
  refine (rCheckPrices_any K h _ n c cs _ n' c' ds _ nq cq _ _ (HT.out.below B5.out (Nat.le_refl _)) Rq.out).mono ?_
  rw [HP1.out]
  rw [HP2.out]
  rw [okv_zero rfl]
  rintro e w6 ⟨rfl, b6⟩
  have B6 := hide (B5.out.trans (b6.mono B5.out.size))
  have K6 := hide (K5.out.keep b6 K5.out.in_)
  replace Rq := hide (Rq.out.below b6 (Nat.le_refl _))
  clear b6
  clear k0 k1 k2 k3
  go_wp2_with fail
  refine (known_any _).mono ?_
  rintro e wz ⟨rfl, bz⟩
  go_wp2_with fail
  go_ret
  exact ⟨rfl, B6.out.trans (bz.mono B6.out.size)⟩

end Go.Proofs.Ytjhnfcmijijdcaa
