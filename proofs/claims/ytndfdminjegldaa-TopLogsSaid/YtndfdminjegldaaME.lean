/- Mathematics: which logs and costs are right; distances and counts with their errors. -/
import Derived.Test.YtndfdminjegldaaMU
namespace Go.Proofs.Ytndfdminjegldaa

def sgB (x : Int) : Bool := decide (0 ≤ x ∧ x ≤ 5)
theorem sgB_iff {x : Int} : sgB x = true ↔ 0 ≤ x ∧ x ≤ 5 := by unfold sgB; rw [decide_eq_true_eq]
def SgTo (xs : List Int) (n : Nat) : Prop := ∀ i, i < n → sgB (xs.getD i 0) = true
def errL (xs : List Int) : Int := if xs.length ≤ 10 then (if xs.all sgB = true then 0 else 1) else 3
theorem sgTo_zero (xs : List Int) : SgTo xs 0 := fun _ h => absurd h (Nat.not_lt_zero _)
theorem sgTo_succ {xs : List Int} {k : Nat} (h : SgTo xs k) (hk : sgB (xs.getD k 0) = true) : SgTo xs (k + 1) := fun i hi => by
  by_cases e : i = k
  · subst e; exact hk
  · exact h i (by omega)
theorem sgTo_all {xs : List Int} : SgTo xs xs.length ↔ xs.all sgB = true := by
  rw [List.all_eq_true]
  constructor
  · intro h x hx
    obtain ⟨i, hi, rfl⟩ := List.getElem_of_mem hx
    have := h i hi
    rwa [List.getD_eq_getElem?_getD, List.getElem?_eq_getElem hi] at this
  · intro h i hi
    apply h
    rw [List.getD_eq_getElem?_getD, List.getElem?_eq_getElem hi]
    exact List.getElem_mem _
theorem errL_large {xs : List Int} (h : ¬ xs.length ≤ 10) : errL xs = 3 := if_neg h
theorem errL_arg {xs : List Int} (h : xs.length ≤ 10) {k : Nat} (hk : k < xs.length) (he : sgB (xs.getD k 0) = false) : errL xs = 1 := by
  unfold errL
  rw [if_pos h, if_neg]
  intro ha
  rw [sgTo_all.2 ha k hk] at he
  cases he
theorem errL_fine {xs : List Int} (h : xs.length ≤ 10) (ho : SgTo xs xs.length) : errL xs = 0 := by
  unfold errL
  rw [if_pos h, if_pos (sgTo_all.1 ho)]
theorem errL_ok {xs : List Int} : errL xs = 0 ↔ xs.length ≤ 10 ∧ ∀ x ∈ xs, 0 ≤ x ∧ x ≤ 5 := by
  unfold errL
  constructor
  · intro h
    split at h
    · rename_i h1
      split at h
      · rename_i h2
        exact ⟨h1, fun x hx => sgB_iff.1 (List.all_eq_true.1 h2 x hx)⟩
      · omega
    · omega
  · rintro ⟨h1, h2⟩
    rw [if_pos h1, if_pos (List.all_eq_true.2 fun x hx => sgB_iff.2 (h2 x hx))]
theorem errL_at {xs : List Int} (h : errL xs = 0) {k : Nat} (hk : k < xs.length) : 0 ≤ xs.getD k 0 ∧ xs.getD k 0 ≤ 5 := by
  have := (errL_ok.1 h).2 _ (getD_mem hk)
  exact this
def errC (c : Cst) : Int := if (1 ≤ c.o ∧ c.o ≤ 9) ∧ (1 ≤ c.i ∧ c.i ≤ 9) ∧ (1 ≤ c.h ∧ c.h ≤ 9) then 0 else 1
theorem errC_ok {c : Cst} : errC c = 0 ↔ c.ok := by
  unfold errC Cst.ok
  split
  · rename_i h; exact ⟨fun _ => h, fun _ => rfl⟩
  · rename_i h; exact ⟨fun h => by omega, fun h' => absurd h' h⟩
theorem errC_no {c : Cst} (h : ¬ c.ok) : errC c = 1 := by
  unfold errC Cst.ok at *
  rw [if_neg h]
def errB (l m : List Int) : Int := if errL l = 0 then errL m else errL l
theorem errB_yes {l m : List Int} (h : errL l = 0) : errB l m = errL m := if_pos h
theorem errB_no {l m : List Int} (h : errL l ≠ 0) : errB l m = errL l := if_neg h
theorem errB_ok {l m : List Int} : errB l m = 0 ↔ errL l = 0 ∧ errL m = 0 := by
  unfold errB
  split
  · rename_i h; exact ⟨fun h' => ⟨h, h'⟩, fun h' => h'.2⟩
  · rename_i h; exact ⟨fun h' => absurd h' h, fun h' => absurd h'.1 h⟩
def errD (l m : List Int) (c : Cst) : Int := if errB l m = 0 then errC c else errB l m
theorem errD_yes {l m : List Int} {c : Cst} (h : errB l m = 0) : errD l m c = errC c := if_pos h
theorem errD_no {l m : List Int} {c : Cst} (h : errB l m ≠ 0) : errD l m c = errB l m := if_neg h
theorem errD_ok {l m : List Int} {c : Cst} : errD l m c = 0 ↔ errL l = 0 ∧ errL m = 0 ∧ c.ok := by
  unfold errD
  split
  · rename_i h
    have := errB_ok.1 h
    rw [errC_ok]
    exact ⟨fun h' => ⟨this.1, this.2, h'⟩, fun h' => h'.2.2⟩
  · rename_i h
    exact ⟨fun h' => absurd h' h, fun h' => absurd (errB_ok.2 ⟨h'.1, h'.2.1⟩) h⟩
def distV (l m : List Int) (c : Cst) : Int := if errD l m c = 0 then dist l m c else 0
theorem distV_ok {l m : List Int} {c : Cst} (h : errD l m c = 0) : distV l m c = dist l m c := if_pos h
theorem distV_no {l m : List Int} {c : Cst} (h : errD l m c ≠ 0) : distV l m c = 0 := if_neg h
def cntV (l m : List Int) (c : Cst) : Int := if errD l m c = 0 then cq l m c l.length m.length else 0
theorem cntV_ok {l m : List Int} {c : Cst} (h : errD l m c = 0) : cntV l m c = cq l m c l.length m.length := if_pos h
theorem cntV_no {l m : List Int} {c : Cst} (h : errD l m c ≠ 0) : cntV l m c = 0 := if_neg h
theorem kn_errD1 : errD [1, 2, 3] [1, 3] one3 = 0 := by decide
theorem kn_errD2 : errD [1, 1] [1] one3 = 0 := by decide
theorem kn_dist : distV [1, 2, 3] [1, 3] one3 = 1 := by rw [distV_ok kn_errD1, dist_kn]
theorem kn_cnt : cntV [1, 1] [1] one3 = 2 := by rw [cntV_ok kn_errD2]; exact cq_kn
theorem dist_bd {l m : List Int} {c : Cst} (h : errD l m c = 0) : 0 ≤ dist l m c ∧ dist l m c ≤ 180 := by
  obtain ⟨h1, h2, h3⟩ := errD_ok.1 h
  have h4 := (errL_ok.1 h1).1
  have h5 := (errL_ok.1 h2).1
  have := dd_bd (l := l) (m := m) h3 l.length m.length
  unfold dist
  omega
end Go.Proofs.Ytndfdminjegldaa
