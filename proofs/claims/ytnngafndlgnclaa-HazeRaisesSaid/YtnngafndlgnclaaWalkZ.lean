/- Walks of Raise on both sides, and of HazeRaises. -/
import Derived.Test.YtnngafndlgnclaaWalkY
namespace Go.Proofs.Ytnngafndlgnclaa
open Go.RowKit

def errRz (xs : Rd) (k by' : Int) : Int := if errV xs [k] = 0 then errU xs k.toNat k.toNat by' else errV xs [k]
theorem errV_two (xs : Rd) (k : Int) : errV xs [k, k] = errV xs [k] := by unfold errV; simp
theorem errV_in {xs : Rd} {k : Int} (h : errV xs [k] = 0) : errH xs = 0 ∧ 0 ≤ k ∧ k < xs.length := by
  obtain ⟨h1, h2⟩ := errV_zero h
  have := h2 k (by simp)
  exact ⟨h1, this.1, this.2⟩
set_option maxHeartbeats 1000000 in
theorem Raise_any (A : Option Addr) (n c : Nat) (xs : Rd) (k by' : Int) (w : World) (h : Row w A n c xs) (hn2 : n ≤ 1000) :
    Calls Try.prog 47 #[.slice A n c, .int .i64 k, .int .i64 by'] w (ListPost w.heap.size (upL xs k.toNat k.toNat by') (errRz xs k by') w) := by
  have HR := hide h
  have hl := h.length
  have hbk : Bk (w.alloc (.cells (ints [k]).toArray 3)) w.heap.size 3 (ints [k]).toArray := Bk.born _ _ _
  have HB := hide hbk
  clear hbk
  by_cases he : errV xs [k] = 0
  · obtain ⟨e0, k0, k1⟩ := errV_in he
    obtain ⟨e1, e2, e3⟩ := errH_zero e0
    rw [hl] at k1 e2
    obtain ⟨i, rfl⟩ : ∃ i : Nat, k = i := ⟨k.toNat, by omega⟩
    have hE : errRz xs (i : Int) by' = errU xs i i by' := by unfold errRz; rw [if_pos he, Int.toNat_natCast]
    have HV := hide he
    have HE := hide hE
    rw [hE, Int.toNat_natCast]
    clear h hl he e1 hE
    go_enter Try.func47, Try.ntmps47
    go_wp2_with fail
    refine (validateHours_any _ _ _ xs _ 1 _ [(i : Int)] _ (HR.out.alloc _) (by omega) HB.out rfl (by omega)).mono ?_
    rw [HV.out]
    rintro e w1 ⟨rfl, hb1⟩
    have hbel : Below w.heap.size w w1 := ((Below.refl _ _).alloc (Nat.le_refl _) _).trans (hb1.mono (by simp))
    have HROW := hide (HR.out.below hbel (Nat.le_refl _))
    go_wp2_with fail
    refine (raise_any _ _ _ xs i i by' _ HROW.out e3 (Nat.le_refl _) (by omega) e2).mono ?_
    rintro e w2 ⟨A', n', c', rfl, hown, hb2⟩
    go_wp2_with fail
    go_ret2
    exact ⟨A', n', c', rfl, hown.more hbel.size, hbel.trans (hb2.mono hbel.size)⟩
  · have hE : errRz xs k by' = errV xs [k] := by unfold errRz; rw [if_neg he]
    have he' : (errV xs [k] != 0) = true := by simp [he]
    have HE := hide he
    have HEE := hide hE
    clear h hl hE
    go_enter Try.func47, Try.ntmps47
    go_wp2_with fail
    refine (validateHours_any _ _ _ xs _ 1 _ [k] _ (HR.out.alloc _) (by omega) HB.out rfl (by omega)).mono ?_
    rintro e w1 ⟨rfl, hb1⟩
    have hbel : Below w.heap.size w w1 := ((Below.refl _ _).alloc (Nat.le_refl _) _).trans (hb1.mono (by simp))
    go_wp2_with fail
    go_ret2
    exact list_none HEE.out HE.out hbel
set_option maxHeartbeats 2000000 in
theorem rRaise_any (A : Option Addr) (n c : Nat) (xs : Rd) (k by' : Int) (w : World) (h : Row w A n c xs) (hn2 : n ≤ 1000) :
    Calls Try.prog 48 #[.slice A n c, .int .i64 k, .int .i64 by'] w (ListPost w.heap.size (upL xs k.toNat k.toNat by') (errRz xs k by') w) := by
  have HR := hide h
  have hl := h.length
  have hv2 := errV_two xs k
  have HV2 := hide hv2
  clear hv2
  by_cases he : errV xs [k] = 0
  · obtain ⟨e0, k0, k1⟩ := errV_in he
    obtain ⟨e1, e2, e3⟩ := errH_zero e0
    rw [hl] at k1 e2 e1
    obtain ⟨i, rfl⟩ : ∃ i : Nat, k = i := ⟨k.toNat, by omega⟩
    have hE : errRz xs (i : Int) by' = errU xs i i by' := by unfold errRz; rw [if_pos he, Int.toNat_natCast]
    have HV := hide he
    have HE := hide hE
    have HL := hide hl
    have O := hide e3
    rw [hE, Int.toNat_natCast]
    clear h hl he hE e3
    by_cases hby : -100 ≤ by' ∧ by' ≤ 100
    · obtain ⟨h1, h2⟩ := hby
      have hw : withinB by' (-100) 100 = true := withinB_true h1 h2
      go_enter Try.func48, Try.ntmps48
      go_wp2_with (first | (go_at_call 62; refine (houred_any _ _ _ xs _ _ _ HR.out (by omega)).mono ?_; rw [HV2.out, HV.out]; rintro e w1 ⟨rfl, rfl⟩) | (go_at_call 64; refine (within_any _ _ _ _).mono ?_; rintro e w' ⟨rfl, rfl⟩))
      refine (Copy_any _ _ _ _ _ HR.out (by omega)).mono ?_
      rintro e w1 ⟨A', c', rfl, hown, hb1⟩
      rcases hown.form with ⟨_, h0, _⟩ | ⟨g, rfl, hgB, hgl, hnc, hcm⟩
      · omega
      · have hlt : i < n := by omega
        have hown' : Own w1 w.heap.size 51 (some ⟨g, 0, none⟩) n c' (modTo (upF xs by') xs i i) := by rw [modTo_start]; exact hown
        have hc := modTo_cell hown' hlt
        have hf := hown'.frozen (i * 2)
        have HO2 := hide (show Own _ w.heap.size 51 (some ⟨g, 0, none⟩) n c' (upL xs i i by') from upL_stored hown' (Nat.le_refl _) hlt)
        obtain ⟨a1, a2, _, _⟩ := okH_get O.out (show i < xs.length by rw [HL.out]; omega)
        have hlen1 := hide (show 1 ≤ xs.length ∧ xs.length ≤ 12 by rw [HL.out]; exact ⟨e1, e2⟩)
        clear hown hown'
        generalize vI xs i = v at *
        have l1 : (i : Int) < n := by omega
        go_wp2_with fail
        refine (told_any _ _ _ _ _ HO2.out.row (by omega)).mono ?_
        have HTP := hide (told_post hlen1.out.1 hlen1.out.2 h1 h2 rfl HO2.out (hb1.setCell hgB _))
        by_cases hz : errH (upL xs i i by') = 0
        · rw [if_pos hz, if_pos hz] at *
          rintro e w3 ⟨rfl, rfl⟩
          clear hz
          go_wp2_with fail
          go_ret2
          exact HTP.out
        · rw [if_neg hz, if_neg hz] at *
          rintro e w3 ⟨rfl, rfl⟩
          clear hz
          go_wp2_with fail
          go_ret2
          exact HTP.out
    · have hw : withinB by' (-100) 100 = false := withinB_false (by omega)
      go_enter Try.func48, Try.ntmps48
      go_wp2_with (first | (go_at_call 62; refine (houred_any _ _ _ xs _ _ _ HR.out (by omega)).mono ?_; rw [HV2.out, HV.out]; rintro e w1 ⟨rfl, rfl⟩) | (go_at_call 64; refine (within_any _ _ _ _).mono ?_; rintro e w' ⟨rfl, rfl⟩))
      go_ret2
      exact list_none (errU_out hby) (by omega) (Below.refl _ _)
  · have hE : errRz xs k by' = errV xs [k] := by unfold errRz; rw [if_neg he]
    have he' : (errV xs [k] != 0) = true := by simp [he]
    have HE := hide he
    have HEE := hide hE
    clear h hl hE
    go_enter Try.func48, Try.ntmps48
    go_wp2_with fail
    refine (houred_any _ _ _ xs _ _ _ HR.out (by omega)).mono ?_
    rw [HV2.out]
    rintro e w1 ⟨rfl, rfl⟩
    go_wp2_with fail
    go_ret2
    exact list_none HEE.out HE.out (Below.refl _ _)

theorem upL_get (xs : Rd) (a b : Nat) (k : Int) {j : Nat} (hj : j < xs.length) : (upL xs a b k).getD j (0, 0) = if a ≤ j ∧ j < b + 1 then (vI xs j + k, wI xs j) else xs.getD j (0, 0) := modTo_get _ _ _ _ hj
theorem up_kkt {xs : Rd} {a b : Nat} {k : Int} (o2 : okH (upL xs a b k) = true) : KKT xs.length (vq (upL xs a b k)) (wq xs) (fun i => (bestR (upL xs a b k)).getD i 0) := by
  have kk := best_kkt o2
  rw [upL_len] at kk
  refine kk.congr (fun i _ => rfl) (fun i hi => ?_) (fun _ _ => rfl)
  unfold wq
  congr 1
  unfold wI
  rw [upL_get _ _ _ _ hi]
  split <;> rfl
theorem rr_up {xs : Rd} {a b : Nat} {k : Int} (o : okH xs = true) (o2 : okH (upL xs a b k) = true) {i : Nat} (hi : i < xs.length) : (0 ≤ k → rr xs i ≤ rr (upL xs a b k) i) ∧ (k ≤ 0 → rr (upL xs a b k) i ≤ rr xs i) := by
  have e1 := rr_mm xs hi
  have e2 : rr (upL xs a b k) i = mm (vq (upL xs a b k)) (wq xs) xs.length i := (up_kkt o2).mm (wq_pos o) hi
  have hv : ∀ j, j < xs.length → vI (upL xs a b k) j = vI xs j ∨ vI (upL xs a b k) j = vI xs j + k := fun j hj => by
    unfold vI
    rw [upL_get _ _ _ _ hj]
    split
    · right; rfl
    · left; rfl
  rw [e1, e2]
  constructor
  · intro hk
    exact mm_mono hi (wq_pos o) fun j hj => Rat.intCast_le_intCast.2 (by rcases hv j hj with h | h <;> omega)
  · intro hk
    exact mm_mono hi (wq_pos o) fun j hj => Rat.intCast_le_intCast.2 (by rcases hv j hj with h | h <;> omega)
theorem errRz_zero {xs : Rd} {k by' : Int} (h : errRz xs k by' = 0) : errH xs = 0 ∧ 0 ≤ k ∧ k < xs.length ∧ okH (upL xs k.toNat k.toNat by') = true := by
  unfold errRz at h
  split at h
  · rename_i h0
    obtain ⟨a, b, c⟩ := errV_in h0
    unfold errU at h
    split at h
    · rename_i h1; exact ⟨a, b, c, h1.2⟩
    · omega
  · contradiction

end Go.Proofs.Ytnngafndlgnclaa
