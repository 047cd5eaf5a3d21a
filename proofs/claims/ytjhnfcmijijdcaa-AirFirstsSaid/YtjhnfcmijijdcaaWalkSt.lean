/- The walk of AirStocks. -/
import Derived.Test.YtjhnfcmijijdcaaWalkS
namespace Go.Proofs.Ytjhnfcmijijdcaa
open Go.RowKit

set_option maxHeartbeats 4000000 in
theorem AirStocks_walk (K h : Int) (A : Option Addr) (n c : Nat) (cs : List Int) (A' : Option Addr) (n' c' : Nat) (ds : List Int) (P : Option Addr) (np pc : Nat) (ps : List Int) (w : World)
    (hT : Tin w A n c cs A' n' c' ds) (hP : Row w P np pc ps) :
    Calls Try.prog 4 #[.agg #[.int .i64 K, .int .i64 h, .slice A n c, .slice A' n' c'], .slice P np pc] w fun e w' => e = .returned (.bool true) ∧ Below w.heap.size w w' := by
  have HT := hide hT
  have HPr := hide hP
  have B0 := hide ((Below.refl w.heap.size w).alloc (Nat.le_refl _) (.cells #[.int .i64 K, .int .i64 h, .slice A n c, .slice A' n' c'] 24))
  have K0 := hide (Bk.born w 24 #[.int .i64 K, .int .i64 h, .slice A n c, .slice A' n' c'])
  clear hT hP
  by_cases hL : 100 < n ∨ 100 < n'
  case pos =>
    go_enter Try.func4, Try.ntmps4
    go_wp2_with fail
    refine (Long_any K h _ n c cs _ n' c' ds _ (HT.out.below B0.out (Nat.le_refl _))).mono ?_
    rw [decide_eq_true hL]
    rintro e w1 ⟨rfl, b1⟩
    have B1 := hide (B0.out.trans (b1.mono B0.out.size))
    have K1 := hide (K0.out.keep b1 K0.out.in_)
    clear b1
    go_wp2_with fail
    refine (known_any _).mono ?_
    rintro e wz ⟨rfl, bz⟩
    go_wp2_with fail
    go_ret
    exact ⟨rfl, B1.out.trans (bz.mono B1.out.size)⟩
  by_cases hL2 : 100 < np
  case pos =>
    go_enter Try.func4, Try.ntmps4
    go_wp2_with fail
    refine (Long_any K h _ n c cs _ n' c' ds _ (HT.out.below B0.out (Nat.le_refl _))).mono ?_
    rw [decide_eq_false hL]
    rintro e w1 ⟨rfl, b1⟩
    have B1 := hide (B0.out.trans (b1.mono B0.out.size))
    have K1 := hide (K0.out.keep b1 K0.out.in_)
    clear b1
    go_wp2_with fail
    refine (large_any _ np pc ps _ (HPr.out.below B1.out (Nat.le_refl _))).mono ?_
    rw [decide_eq_true hL2]
    rintro e wq ⟨rfl, rfl⟩
    go_wp2_with fail
    refine (known_any _).mono ?_
    rintro e wz ⟨rfl, bz⟩
    go_wp2_with fail
    go_ret
    exact ⟨rfl, B1.out.trans (bz.mono B1.out.size)⟩
  go_enter Try.func4, Try.ntmps4
  go_wp2_with fail
  refine (Long_any K h _ n c cs _ n' c' ds _ (HT.out.below B0.out (Nat.le_refl _))).mono ?_
  rw [decide_eq_false hL]
  rintro e w1 ⟨rfl, b1⟩
  have B1 := hide (B0.out.trans (b1.mono B0.out.size))
  have K1 := hide (K0.out.keep b1 K0.out.in_)
  clear b1
  go_wp2_with fail
  refine (large_any _ np pc ps _ (HPr.out.below B1.out (Nat.le_refl _))).mono ?_
  rw [decide_eq_false hL2]
  rintro e wq ⟨rfl, rfl⟩
  obtain ⟨k0, k1, k2, k3, _⟩ := K1.out.four
  go_wp2_with fail
  refine (Stock_any K h _ n c cs _ n' c' ds _ np pc ps _ (HT.out.below B1.out (Nat.le_refl _)) (HPr.out.below B1.out (Nat.le_refl _))).mono ?_
  rintro e w2 ⟨Aa, na, ca, rfl, oa, b2⟩
  have B2 := hide (B1.out.trans (b2.mono B1.out.size))
  have K2 := hide (K1.out.keep b2 K1.out.in_)
  clear b2
  clear k0 k1 k2 k3
  have Ra := hide (oa.row)
  clear oa
  obtain ⟨k0, k1, k2, k3, _⟩ := K2.out.four
  go_wp2_with fail
  refine (rStock_any K h _ n c cs _ n' c' ds _ np pc ps _ (HT.out.below B2.out (Nat.le_refl _)) (HPr.out.below B2.out (Nat.le_refl _))).mono ?_
  rintro e w3 ⟨Ab, nb, cb, rfl, ob, b3⟩
  have B3 := hide (B2.out.trans (b3.mono B2.out.size))
  have K3 := hide (K2.out.keep b3 K2.out.in_)
  replace Ra := hide (Ra.out.below b3 (Nat.le_refl _))
  clear b3
  clear k0 k1 k2 k3
  have Rb := hide (ob.row)
  clear ob
  obtain ⟨k0, k1, k2, k3, _⟩ := K3.out.four
  go_wp2_with fail
  refine (Starts_any K h _ n c cs _ n' c' ds _ np pc ps _ (HT.out.below B3.out (Nat.le_refl _)) (HPr.out.below B3.out (Nat.le_refl _))).mono ?_
  rintro e w4 ⟨Ac, nc, cc, rfl, oc, b4⟩
  have B4 := hide (B3.out.trans (b4.mono B3.out.size))
  have K4 := hide (K3.out.keep b4 K3.out.in_)
  replace Ra := hide (Ra.out.below b4 (Nat.le_refl _))
  replace Rb := hide (Rb.out.below b4 (Nat.le_refl _))
  clear b4
  clear k0 k1 k2 k3
  have Rc := hide (oc.row)
  clear oc
  obtain ⟨k0, k1, k2, k3, _⟩ := K4.out.four
  go_wp2_with fail
  refine (rStarts_any K h _ n c cs _ n' c' ds _ np pc ps _ (HT.out.below B4.out (Nat.le_refl _)) (HPr.out.below B4.out (Nat.le_refl _))).mono ?_
  rintro e w5 ⟨Ad, nd, cd, rfl, od, b5⟩
  have B5 := hide (B4.out.trans (b5.mono B4.out.size))
  have K5 := hide (K4.out.keep b5 K4.out.in_)
  replace Ra := hide (Ra.out.below b5 (Nat.le_refl _))
  replace Rb := hide (Rb.out.below b5 (Nat.le_refl _))
  replace Rc := hide (Rc.out.below b5 (Nat.le_refl _))
  clear b5
  clear k0 k1 k2 k3
  have Rd := hide (od.row)
  clear od
  obtain ⟨k0, k1, k2, k3, _⟩ := K5.out.four
  go_wp2_with fail
  refine (IsTidy_any K h _ n c cs _ n' c' ds _ np pc ps _ (HT.out.below B5.out (Nat.le_refl _)) (HPr.out.below B5.out (Nat.le_refl _))).mono ?_
  rintro e w6 ⟨rfl, b6⟩
  have B6 := hide (B5.out.trans (b6.mono B5.out.size))
  have K6 := hide (K5.out.keep b6 K5.out.in_)
  replace Ra := hide (Ra.out.below b6 (Nat.le_refl _))
  replace Rb := hide (Rb.out.below b6 (Nat.le_refl _))
  replace Rc := hide (Rc.out.below b6 (Nat.le_refl _))
  replace Rd := hide (Rd.out.below b6 (Nat.le_refl _))
  clear b6
  clear k0 k1 k2 k3
  obtain ⟨k0, k1, k2, k3, _⟩ := K6.out.four
  go_wp2_with fail
  refine (rIsTidy_any K h _ n c cs _ n' c' ds _ np pc ps _ (HT.out.below B6.out (Nat.le_refl _)) (HPr.out.below B6.out (Nat.le_refl _))).mono ?_
  rintro e w7 ⟨rfl, b7⟩
  have B7 := hide (B6.out.trans (b7.mono B6.out.size))
  have K7 := hide (K6.out.keep b7 K6.out.in_)
  replace Ra := hide (Ra.out.below b7 (Nat.le_refl _))
  replace Rb := hide (Rb.out.below b7 (Nat.le_refl _))
  replace Rc := hide (Rc.out.below b7 (Nat.le_refl _))
  replace Rd := hide (Rd.out.below b7 (Nat.le_refl _))
  clear b7
  clear k0 k1 k2 k3
  go_wp2_with fail
  refine (SameInts_any _ _ _ _ _ _ _ _ _ Ra.out Rb.out).mono ?_
  rw [eqL_self]
  rintro e w8 ⟨rfl, b8⟩
  have B8 := hide (B7.out.trans (b8.mono B7.out.size))
  have K8 := hide (K7.out.keep b8 K7.out.in_)
  replace Ra := hide (Ra.out.below b8 (Nat.le_refl _))
  replace Rb := hide (Rb.out.below b8 (Nat.le_refl _))
  replace Rc := hide (Rc.out.below b8 (Nat.le_refl _))
  replace Rd := hide (Rd.out.below b8 (Nat.le_refl _))
  clear b8
  go_wp2_with fail
  refine (SameInts_any _ _ _ _ _ _ _ _ _ Rc.out Rd.out).mono ?_
  rw [eqL_self]
  rintro e w9 ⟨rfl, b9⟩
  have B9 := hide (B8.out.trans (b9.mono B8.out.size))
  have K9 := hide (K8.out.keep b9 K8.out.in_)
  replace Ra := hide (Ra.out.below b9 (Nat.le_refl _))
  replace Rb := hide (Rb.out.below b9 (Nat.le_refl _))
  replace Rc := hide (Rc.out.below b9 (Nat.le_refl _))
  replace Rd := hide (Rd.out.below b9 (Nat.le_refl _))
  clear b9
  go_wp2_with fail
  refine (known_any _).mono ?_
  rintro e wz ⟨rfl, bz⟩
  go_wp2_with fail
  go_ret
  exact ⟨rfl, B9.out.trans (bz.mono B9.out.size)⟩

end Go.Proofs.Ytjhnfcmijijdcaa
