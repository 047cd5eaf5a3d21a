/- The walk of AirPlans. -/
import Derived.Test.YtjhnfcmijijdcaaLift
namespace Go.Proofs.Ytjhnfcmijijdcaa
open Go.RowKit

set_option maxHeartbeats 4000000 in
theorem AirPlans_walk (K h : Int) (A : Option Addr) (n c : Nat) (cs : List Int) (A' : Option Addr) (n' c' : Nat) (ds : List Int) (P : Option Addr) (np pc : Nat) (ps : List Int) (w : World)
    (hT : Tin w A n c cs A' n' c' ds) (hP : Row w P np pc ps) :
    Calls Try.prog 3 #[.agg #[.int .i64 K, .int .i64 h, .slice A n c, .slice A' n' c'], .slice P np pc] w fun e w' => e = .returned (.bool true) ∧ Below w.heap.size w w' := by
  have HT := hide hT
  have HPr := hide hP
  have B0 := hide ((Below.refl w.heap.size w).alloc (Nat.le_refl _) (.cells #[.int .i64 K, .int .i64 h, .slice A n c, .slice A' n' c'] 24))
  have K0 := hide (Bk.born w 24 #[.int .i64 K, .int .i64 h, .slice A n c, .slice A' n' c'])
  clear hT hP
  by_cases hL : 100 < n ∨ 100 < n'
  · go_enter Try.func3, Try.ntmps3
    go_wp2_with fail
    refine (Long_any K h _ n c cs _ n' c' ds _ (HT.out.alloc _)).mono ?_
    rw [decide_eq_true hL]
    rintro e w1 ⟨rfl, b1⟩
    go_wp2_with fail
    refine (known_any _).mono ?_
    rintro e w2 ⟨rfl, b2⟩
    go_wp2_with fail
    go_ret
    exact ⟨rfl, B0.out.trans ((b1.mono (by simp)).trans (b2.mono (by have := b1.size; simp at this; omega)))⟩
  by_cases hL2 : 100 < np
  · go_enter Try.func3, Try.ntmps3
    go_wp2_with fail
    refine (Long_any K h _ n c cs _ n' c' ds _ (HT.out.alloc _)).mono ?_
    rw [decide_eq_false hL]
    rintro e w1 ⟨rfl, b1⟩
    have B1 := hide (B0.out.trans (b1.mono (by simp)))
    clear b1
    go_wp2_with fail
    refine (large_any _ np pc ps _ (HPr.out.below B1.out (Nat.le_refl _))).mono ?_
    rw [decide_eq_true hL2]
    rintro e w2 ⟨rfl, rfl⟩
    go_wp2_with fail
    refine (known_any _).mono ?_
    rintro e w2 ⟨rfl, b2⟩
    go_wp2_with fail
    go_ret
    exact ⟨rfl, B1.out.trans (b2.mono B1.out.size)⟩
  go_enter Try.func3, Try.ntmps3
  go_wp2_with fail
  refine (Long_any K h _ n c cs _ n' c' ds _ (HT.out.alloc _)).mono ?_
  rw [decide_eq_false hL]
  rintro e w1 ⟨rfl, b1⟩
  have B1 := hide (B0.out.trans (b1.mono (by simp)))
  have K1 := hide (K0.out.keep b1 (by simp))
  clear b1
  go_wp2_with fail
  refine (large_any _ np pc ps _ (HPr.out.below B1.out (Nat.le_refl _))).mono ?_
  rw [decide_eq_false hL2]
  rintro e w2 ⟨rfl, rfl⟩
  obtain ⟨k0, k1, k2, k3, _⟩ := K1.out.four
  go_wp2_with fail
  refine (CheckPlan_any K h _ n c cs _ n' c' ds _ np pc ps _ (HT.out.below B1.out (Nat.le_refl _)) (HPr.out.below B1.out (Nat.le_refl _))).mono ?_
  rintro e w2 ⟨rfl, b2⟩
  have B2 := hide (B1.out.trans (b2.mono B1.out.size))
  have K2 := hide (K1.out.keep b2 K1.out.in_)
  clear b2 k0 k1 k2 k3
  obtain ⟨k0, k1, k2, k3, _⟩ := K2.out.four
  go_wp2_with fail
  refine (rCheckPlan_any K h _ n c cs _ n' c' ds _ np pc ps _ (HT.out.below B2.out (Nat.le_refl _)) (HPr.out.below B2.out (Nat.le_refl _))).mono ?_
  rintro e w3 ⟨rfl, b3⟩
  have B3 := hide (B2.out.trans (b3.mono B2.out.size))
  have K3 := hide (K2.out.keep b3 K2.out.in_)
  clear b3 k0 k1 k2 k3
  obtain ⟨k0, k1, k2, k3, kin⟩ := K3.out.four
  generalize okv (errP K h cs ds ps) ((tk K h cs ds).cost (pl ps) ds.length) = x1 at *
  generalize errP K h cs ds ps = x2 at *
  have hz3 := B3.out.size
  have HV1 := hide (fun W hw => Validate_any K h A n c cs A' n' c' ds W hw)
  have HV2 := hide (fun W hw => rValidate_any K h A n c cs A' n' c' ds W hw)
  generalize errT K h cs ds = x3 at *
  go_wp2_with fail
  go_region_held3 (fun w' => w'.cell? ⟨w.heap.size, 0, none⟩ = some (.int .i64 K) ∧ w'.cell? ⟨w.heap.size, 1, none⟩ = some (.int .i64 h) ∧ w'.cell? ⟨w.heap.size, 2, none⟩ = some (.slice A n c) ∧ w'.cell? ⟨w.heap.size, 3, none⟩ = some (.slice A' n' c'))
    (first
      | go_keep
      | (go_split_ands
         refine ⟨?_, ?_, ?_, ?_⟩ <;> (rw [hb8.cell (by simp; omega)]; assumption))
      | (go_split_ands
         refine ⟨?_, ?_, ?_, ?_⟩ <;> (rw [hb9.cell (by have := hb8.size; simp at this ⊢; omega)]; assumption))
      | (go_split_ands
         refine ⟨?_, ?_, ?_, ?_⟩ <;> (rw [hb10.cell (by have := hb8.size; have := hb9.size; simp at *; omega)]; assumption)))
    (first
      | (go_at_call 22; refine (HV1.out _ (HT.out.below (below_drewN B3.out 1) (Nat.le_refl _))).mono ?_; rintro e8 w8 ⟨rfl, hb8⟩)
      | (go_at_call 23; refine (HV2.out _ (HT.out.below ((below_drewN B3.out 1).trans (hb8.mono B3.out.size)) (Nat.le_refl _))).mono ?_; rintro e9 w9 ⟨rfl, hb9⟩)
      | (go_at_call 19; refine (known_any _).mono ?_; rintro e10 w10 ⟨rfl, hb10⟩))
  all_goals
    have s8 := hb8.size
    have s9 := hb9.size
    go_wp2_with fail
    go_ret
    exact ⟨rfl, (((below_drewN B3.out 1).trans (hb8.mono (by simp; omega))).trans (hb9.mono (by simp at s8; omega))).trans (hb10.mono (by simp at s8; omega))⟩

end Go.Proofs.Ytjhnfcmijijdcaa
