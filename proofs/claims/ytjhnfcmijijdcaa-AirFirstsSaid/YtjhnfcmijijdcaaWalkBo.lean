/- The walk of AirBounds. -/
import Derived.Test.YtjhnfcmijijdcaaWalkSt
import Derived.Test.YtjhnfcmijijdcaaMathD
namespace Go.Proofs.Ytjhnfcmijijdcaa
open Go.RowKit

theorem bounds_plan {K h : Int} {cs ds ps : List Int} (e2 : errT K h cs ds = 0) (e1 : errP K h cs ds ps = 0) :
    okv (errT K h cs ds) ((tk K h cs ds).f ds.length) ≤ okv (errP K h cs ds ps) ((tk K h cs ds).cost (pl ps) ds.length) := by
  rw [okv_zero e2, okv_zero e1]
  exact (errT_zero e2).tk.least_le (errP_right e1)
theorem bounds_price {K h : Int} {cs ds vs : List Int} (e2 : errT K h cs ds = 0) (e3 : errV K h cs ds vs = 0) :
    okv (errV K h cs ds vs) (sm (pl vs) 0 ds.length) ≤ okv (errT K h cs ds) ((tk K h cs ds).f ds.length) := by
  rw [okv_zero e2, okv_zero e3]
  exact (errT_zero e2).tk.worth_le (errV_zero e3).2.2 (Nat.le_refl _)
theorem bounds_both {K h : Int} {cs ds ps vs : List Int} (e1 : errP K h cs ds ps = 0) (e3 : errV K h cs ds vs = 0) :
    okv (errV K h cs ds vs) (sm (pl vs) 0 ds.length) ≤ okv (errP K h cs ds ps) ((tk K h cs ds).cost (pl ps) ds.length) := by
  rw [okv_zero e1, okv_zero e3]
  exact (errP_zero e1).1.tk.weak (errP_right e1) (errV_zero e3).2.2

set_option maxHeartbeats 4000000 in
theorem AirBounds_walk (K h : Int) (A : Option Addr) (n c : Nat) (cs : List Int) (A' : Option Addr) (n' c' : Nat) (ds : List Int) (P : Option Addr) (np pc : Nat) (ps : List Int) (V : Option Addr) (nv vc : Nat) (vs : List Int) (w : World)
    (hT : Tin w A n c cs A' n' c' ds) (hP : Row w P np pc ps) (hV : Row w V nv vc vs) :
    Calls Try.prog 7 #[.agg #[.int .i64 K, .int .i64 h, .slice A n c, .slice A' n' c'], .agg #[.slice P np pc, .slice V nv vc]] w fun e w' => e = .returned (.bool true) ∧ Below w.heap.size w w' := by
  have HT := hide hT
  have HPr := hide hP
  have HVr := hide hV
  have B0 := hide ((Below.refl w.heap.size w).alloc (Nat.le_refl _) (.cells #[.int .i64 K, .int .i64 h, .slice A n c, .slice A' n' c'] 24))
  have K0 := hide (Bk.born w 24 #[.int .i64 K, .int .i64 h, .slice A n c, .slice A' n' c'])
  have KC0 := hide (Bk.bornAt (w := w.alloc (.cells #[.int .i64 K, .int .i64 h, .slice A n c, .slice A' n' c'] 24)) (g := w.heap.size + 1) (t := 41) (cs := #[.slice P np pc, .slice V nv vc]) (by simp))
  replace K0 := hide (K0.out.more (.cells #[.slice P np pc, .slice V nv vc] 41))
  replace B0 := hide (B0.out.alloc (by simp) (.cells #[.slice P np pc, .slice V nv vc] 41))
  clear hT hP hV
  by_cases hL : 100 < n ∨ 100 < n'
  case pos =>
    go_enter Try.func7, Try.ntmps7
    go_wp2_with fail
    refine (Long_any K h _ n c cs _ n' c' ds _ (HT.out.below B0.out (Nat.le_refl _))).mono ?_
    rw [decide_eq_true hL]
    rintro e w1 ⟨rfl, b1⟩
    have B1 := hide (B0.out.trans (b1.mono B0.out.size))
    have K1 := hide (K0.out.keep b1 K0.out.in_)
    have KC1 := hide (KC0.out.keep b1 KC0.out.in_)
    clear b1
    go_wp2_with fail
    refine (known_any _).mono ?_
    rintro e wz ⟨rfl, bz⟩
    go_wp2_with fail
    go_ret
    exact ⟨rfl, B1.out.trans (bz.mono B1.out.size)⟩
  by_cases hL2 : 100 < np
  case pos =>
    go_enter Try.func7, Try.ntmps7
    go_wp2_with fail
    refine (Long_any K h _ n c cs _ n' c' ds _ (HT.out.below B0.out (Nat.le_refl _))).mono ?_
    rw [decide_eq_false hL]
    rintro e w1 ⟨rfl, b1⟩
    have B1 := hide (B0.out.trans (b1.mono B0.out.size))
    have K1 := hide (K0.out.keep b1 K0.out.in_)
    have KC1 := hide (KC0.out.keep b1 KC0.out.in_)
    clear b1
    obtain ⟨x0, x1, _, _, _⟩ := KC1.out.two
    go_wp2_with fail
    refine (large_any _ np pc ps _ (HPr.out.below B1.out (Nat.le_refl _))).mono ?_
    rw [decide_eq_true hL2]
    rintro e wq ⟨rfl, rfl⟩
    clear x0 x1
    go_wp2_with fail
    refine (known_any _).mono ?_
    rintro e wz ⟨rfl, bz⟩
    go_wp2_with fail
    go_ret
    exact ⟨rfl, B1.out.trans (bz.mono B1.out.size)⟩
  by_cases hL3 : 100 < nv
  case pos =>
    go_enter Try.func7, Try.ntmps7
    go_wp2_with fail
    refine (Long_any K h _ n c cs _ n' c' ds _ (HT.out.below B0.out (Nat.le_refl _))).mono ?_
    rw [decide_eq_false hL]
    rintro e w1 ⟨rfl, b1⟩
    have B1 := hide (B0.out.trans (b1.mono B0.out.size))
    have K1 := hide (K0.out.keep b1 K0.out.in_)
    have KC1 := hide (KC0.out.keep b1 KC0.out.in_)
    clear b1
    obtain ⟨x0, x1, _, _, _⟩ := KC1.out.two
    go_wp2_with fail
    refine (large_any _ np pc ps _ (HPr.out.below B1.out (Nat.le_refl _))).mono ?_
    rw [decide_eq_false hL2]
    rintro e wq ⟨rfl, rfl⟩
    clear x0 x1
    obtain ⟨x0, x1, _, _, _⟩ := KC1.out.two
    go_wp2_with fail
    refine (large_any _ nv vc vs _ (HVr.out.below B1.out (Nat.le_refl _))).mono ?_
    rw [decide_eq_true hL3]
    rintro e wq ⟨rfl, rfl⟩
    clear x0 x1
    go_wp2_with fail
    refine (known_any _).mono ?_
    rintro e wz ⟨rfl, bz⟩
    go_wp2_with fail
    go_ret
    exact ⟨rfl, B1.out.trans (bz.mono B1.out.size)⟩
  go_enter Try.func7, Try.ntmps7
  go_wp2_with fail
  refine (Long_any K h _ n c cs _ n' c' ds _ (HT.out.below B0.out (Nat.le_refl _))).mono ?_
  rw [decide_eq_false hL]
  rintro e w1 ⟨rfl, b1⟩
  have B1 := hide (B0.out.trans (b1.mono B0.out.size))
  have K1 := hide (K0.out.keep b1 K0.out.in_)
  have KC1 := hide (KC0.out.keep b1 KC0.out.in_)
  clear b1
  obtain ⟨x0, x1, _, _, _⟩ := KC1.out.two
  go_wp2_with fail
  refine (large_any _ np pc ps _ (HPr.out.below B1.out (Nat.le_refl _))).mono ?_
  rw [decide_eq_false hL2]
  rintro e wq ⟨rfl, rfl⟩
  clear x0 x1
  obtain ⟨x0, x1, _, _, _⟩ := KC1.out.two
  go_wp2_with fail
  refine (large_any _ nv vc vs _ (HVr.out.below B1.out (Nat.le_refl _))).mono ?_
  rw [decide_eq_false hL3]
  rintro e wq ⟨rfl, rfl⟩
  clear x0 x1
  obtain ⟨k0, k1, k2, k3, _⟩ := K1.out.four
  obtain ⟨x0, x1, _, _, _⟩ := KC1.out.two
  go_wp2_with fail
  refine (CheckPlan_any K h _ n c cs _ n' c' ds _ np pc ps _ (HT.out.below B1.out (Nat.le_refl _)) (HPr.out.below B1.out (Nat.le_refl _))).mono ?_
  rintro e w2 ⟨rfl, b2⟩
  have B2 := hide (B1.out.trans (b2.mono B1.out.size))
  have K2 := hide (K1.out.keep b2 K1.out.in_)
  have KC2 := hide (KC1.out.keep b2 KC1.out.in_)
  clear b2
  clear k0 k1 k2 k3 x0 x1
  obtain ⟨k0, k1, k2, k3, _⟩ := K2.out.four
  go_wp2_with fail
  refine (Least_any K h _ n c cs _ n' c' ds _ (HT.out.below B2.out (Nat.le_refl _))).mono ?_
  rintro e w3 ⟨rfl, b3⟩
  have B3 := hide (B2.out.trans (b3.mono B2.out.size))
  have K3 := hide (K2.out.keep b3 K2.out.in_)
  have KC3 := hide (KC2.out.keep b3 KC2.out.in_)
  clear b3
  clear k0 k1 k2 k3
  obtain ⟨k0, k1, k2, k3, _⟩ := K3.out.four
  obtain ⟨x0, x1, _, _, _⟩ := KC3.out.two
  go_wp2_with fail
  refine (CheckPrices_any K h _ n c cs _ n' c' ds _ nv vc vs _ (HT.out.below B3.out (Nat.le_refl _)) (HVr.out.below B3.out (Nat.le_refl _))).mono ?_
  rintro e w4 ⟨rfl, b4⟩
  have B4 := hide (B3.out.trans (b4.mono B3.out.size))
  have K4 := hide (K3.out.keep b4 K3.out.in_)
  have KC4 := hide (KC3.out.keep b4 KC3.out.in_)
  clear b4
  clear k0 k1 k2 k3 x0 x1
  have F1 := hide (bounds_plan (K := K) (h := h) (cs := cs) (ds := ds) (ps := ps))
  have F2 := hide (bounds_price (K := K) (h := h) (cs := cs) (ds := ds) (vs := vs))
  have F3 := hide (bounds_both (K := K) (h := h) (cs := cs) (ds := ds) (ps := ps) (vs := vs))
  generalize okv (errP K h cs ds ps) ((tk K h cs ds).cost (pl ps) ds.length) = c1 at *
  generalize okv (errT K h cs ds) ((tk K h cs ds).f ds.length) = c2 at *
  generalize okv (errV K h cs ds vs) (sm (pl vs) 0 ds.length) = c3 at *
  generalize errP K h cs ds ps = e1 at *
  generalize errT K h cs ds = e2 at *
  generalize errV K h cs ds vs = e3 at *
  by_cases h2 : e2 = 0
  case neg =>
    have h2' : (e2 != 0) = true := by simpa using h2
    go_wp2_with fail
    refine (known_any _).mono ?_
    rintro e wz ⟨rfl, bz⟩
    go_wp2_with fail
    go_ret
    exact ⟨rfl, B4.out.trans (bz.mono B4.out.size)⟩
  have h2' : (e2 != 0) = false := by simpa using h2
  by_cases h1 : e1 = 0
  · by_cases h3 : e3 = 0
    · have h1' : (e1 != 0) = false := by simpa using h1
      have h3' : (e3 != 0) = false := by simpa using h3
      have g1 := F1.out h2 h1
      have g2 := F2.out h2 h3
      have g3 := F3.out h1 h3
      go_wp2_with fail
      refine (known_any _).mono ?_
      rintro e wz ⟨rfl, bz⟩
      go_wp2_with fail
      go_ret
      exact ⟨rfl, B4.out.trans (bz.mono B4.out.size)⟩
    · have h1' : (e1 != 0) = false := by simpa using h1
      have h3' : (e3 != 0) = true := by simpa using h3
      have g1 := F1.out h2 h1
      go_wp2_with fail
      refine (known_any _).mono ?_
      rintro e wz ⟨rfl, bz⟩
      go_wp2_with fail
      go_ret
      exact ⟨rfl, B4.out.trans (bz.mono B4.out.size)⟩
  · by_cases h3 : e3 = 0
    · have h1' : (e1 != 0) = true := by simpa using h1
      have h3' : (e3 != 0) = false := by simpa using h3
      have g2 := F2.out h2 h3
      go_wp2_with fail
      refine (known_any _).mono ?_
      rintro e wz ⟨rfl, bz⟩
      go_wp2_with fail
      go_ret
      exact ⟨rfl, B4.out.trans (bz.mono B4.out.size)⟩
    · have h1' : (e1 != 0) = true := by simpa using h1
      have h3' : (e3 != 0) = true := by simpa using h3
      go_wp2_with fail
      refine (known_any _).mono ?_
      rintro e wz ⟨rfl, bz⟩
      go_wp2_with fail
      go_ret
      exact ⟨rfl, B4.out.trans (bz.mono B4.out.size)⟩

end Go.Proofs.Ytjhnfcmijijdcaa
