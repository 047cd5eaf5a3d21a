/- Plain mathematics for the theorem of the haze: the misfit is 0 exactly if the readings fall; the example. No program. -/
import Derived.Test.YtlmmkaadoicogaaWalkHb
import Derived.Test.YtlmmkaadoicogaaWalkBh
import Derived.Test.YtlmmkaadoicogaaWalkNe
import Derived.Test.YtlmmkaadoicogaaWalkS
import Derived.Test.YtlmmkaadoicogaaWalkI
namespace Go.Proofs.Ytlmmkaadoicogaa
open Go.RowKit

theorem fallB_iff (xs : Rd) : fallB xs = true ↔ ∀ i, i + 1 < xs.length → vI xs (i + 1) ≤ vI xs i := by
  unfold fallB
  rw [List.all_eq_true]
  constructor
  · intro h i hi
    have := h i (List.mem_range.2 (by omega))
    simpa using this
  · intro h i hi
    have := h i (by have := List.mem_range.1 hi; omega)
    simpa using this
theorem sq_zero {x : Rat} (h : x * x = 0) : x = 0 := by
  rcases Rat.mul_eq_zero.1 h with h | h <;> exact h
theorem sq_nonneg' (x : Rat) : 0 ≤ x * x := by
  rcases Rat.le_total (a := 0) (b := x) with h | h
  · exact Rat.mul_nonneg h h
  · have q : (-x) * (-x) = x * x := by grind
    rw [← q]
    exact Rat.mul_nonneg (by grind) (by grind)
theorem mf_fall {xs : Rd} (o : okH xs = true) : (nu (Mf xs xs.length) = 0) ↔ ∀ i, i + 1 < xs.length → vI xs (i + 1) ≤ vI xs i := by
  have z : nu (Mf xs xs.length) = 0 ↔ Mf xs xs.length = 0 := by
    unfold nu
    exact Rat.num_eq_zero
  rw [z]
  constructor
  · intro h i hi
    have eq : ∀ j, j < xs.length → vq xs j = rr xs j := fun j hj => by
      apply Classical.byContradiction
      intro ne
      have nn : ∀ k, k < xs.length → 0 ≤ wq xs k * ((vq xs k - rr xs k) * (vq xs k - rr xs k)) := fun k hk => by
        have := wq_pos o k hk
        have q : 0 ≤ (vq xs k - rr xs k) * (vq xs k - rr xs k) := sq_nonneg' _
        exact Rat.mul_nonneg (Rat.le_of_lt this) q
      have a1 := psum_nonneg (f := fun k => wq xs k * ((vq xs k - rr xs k) * (vq xs k - rr xs k))) (a := 0) (b := j) (Nat.zero_le _) fun k _ hk => nn k (by omega)
      have a2 := psum_nonneg (f := fun k => wq xs k * ((vq xs k - rr xs k) * (vq xs k - rr xs k))) (a := j + 1) (b := xs.length) (by omega) fun k _ hk => nn k hk
      have e1 : psum (fun k => wq xs k * ((vq xs k - rr xs k) * (vq xs k - rr xs k))) (j + 1) = psum (fun k => wq xs k * ((vq xs k - rr xs k) * (vq xs k - rr xs k))) j + wq xs j * ((vq xs j - rr xs j) * (vq xs j - rr xs j)) := rfl
      have e0 : psum (fun k => wq xs k * ((vq xs k - rr xs k) * (vq xs k - rr xs k))) 0 = 0 := rfl
      have e2 : Mf xs xs.length = psum (fun k => wq xs k * ((vq xs k - rr xs k) * (vq xs k - rr xs k))) xs.length := rfl
      have n0 := nn j hj
      have w0 : wq xs j * ((vq xs j - rr xs j) * (vq xs j - rr xs j)) = 0 := by grind
      rcases Rat.mul_eq_zero.1 w0 with q | q
      · have := wq_pos o j hj
        rw [q] at this
        exact absurd this (by decide)
      · have := sq_zero q
        exact ne (by grind)
    have k := best_kkt o
    have f := k.fall i hi
    have f' : rr xs (i + 1) ≤ rr xs i := f
    rw [← eq i (by omega), ← eq (i + 1) hi] at f'
    unfold vq at f'
    exact_mod_cast f'
  · intro h
    have zz : ∀ k, psum (fun i => wq xs i * (vq xs i - vq xs i)) k = 0 := fun k => by
      induction k with
      | zero => rfl
      | succ k ih =>
        show psum _ k + _ = 0
        rw [ih]
        grind
    have k : KKT xs.length (vq xs) (wq xs) (vq xs) := ⟨fun i hi => by unfold vq; exact_mod_cast h i hi, fun k _ => by rw [zz]; exact Rat.le_refl, fun k _ _ => zz _, zz _⟩
    have e := rr_of o k (fun _ _ => rfl) (fun _ _ => rfl)
    unfold Mf
    have : psum (fun j => wq xs j * ((vq xs j - rr xs j) * (vq xs j - rr xs j))) xs.length = psum (fun _ => 0) xs.length := psum_congr0 fun i hi => by rw [e i hi]; grind
    rw [this]
    generalize xs.length = m
    induction m with
    | zero => rfl
    | succ m ih => show psum _ m + 0 = 0; rw [ih]; exact Rat.add_zero 0
theorem kx_mis : misOr kx = (1, 2) := by decide +kernel
theorem rr_le {xs : Rd} (o : okH xs = true) {i : Nat} (hi : i + 1 < xs.length) : lessB (rr xs i) (rr xs (i + 1)) = false := by
  have f : rr xs (i + 1) ≤ rr xs i := (best_kkt o).fall i hi
  unfold lessB
  simpa using Rat.not_lt.2 f
/-- The number before the hour k, as the loops hold it: none before the first. -/
def hiP (xs : Rd) (a i k : Nat) : Int × Int := if k = 0 then (0, 0) else rq (hiTo (vq xs) (wq xs) a i (k - 1))
def loP (xs : Rd) (i a : Nat) : Int × Int := if a = 0 then (0, 0) else rq (loTo (vq xs) (wq xs) xs.length i (a - 1))
theorem hiP_one (xs : Rd) (a i : Nat) : hiP xs a i (0 + 1) = rq (mq xs a i) := rfl
theorem hiP_succ (xs : Rd) (a i k : Nat) : hiP xs a i (k + 1 + 1) = if lessB (hiTo (vq xs) (wq xs) a i k) (mq xs a (i + (k + 1))) then rq (mq xs a (i + (k + 1))) else hiP xs a i (k + 1) := by
  show rq (hiTo (vq xs) (wq xs) a i (k + 1)) = _
  have e : hiTo (vq xs) (wq xs) a i (k + 1) = if lessB (hiTo (vq xs) (wq xs) a i k) (mq xs a (i + k + 1)) then mq xs a (i + k + 1) else hiTo (vq xs) (wq xs) a i k := rmax_step
  rw [e]
  rw [show i + (k + 1) = i + k + 1 by omega]
  show _ = if _ then _ else rq (hiTo (vq xs) (wq xs) a i k)
  split <;> rfl
theorem loP_one (xs : Rd) (i : Nat) : loP xs i (0 + 1) = rq (hi (vq xs) (wq xs) xs.length 0 i) := rfl
theorem loP_succ (xs : Rd) (i a : Nat) : loP xs i (a + 1 + 1) = if lessB (hi (vq xs) (wq xs) xs.length (a + 1) i) (loTo (vq xs) (wq xs) xs.length i a) then rq (hi (vq xs) (wq xs) xs.length (a + 1) i) else loP xs i (a + 1) := by
  show rq (loTo (vq xs) (wq xs) xs.length i (a + 1)) = _
  have e : loTo (vq xs) (wq xs) xs.length i (a + 1) = if lessB (hi (vq xs) (wq xs) xs.length (a + 1) i) (loTo (vq xs) (wq xs) xs.length i a) then hi (vq xs) (wq xs) xs.length (a + 1) i else loTo (vq xs) (wq xs) xs.length i a := rmin_step
  rw [e]
  show _ = if _ then _ else rq (loTo (vq xs) (wq xs) xs.length i a)
  split <;> rfl
end Go.Proofs.Ytlmmkaadoicogaa
