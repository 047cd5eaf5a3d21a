/- Which rosters are right, and how many keepers they need. -/
import Derived.Test.YtpkjgnllkaafkaaWalkO
namespace Go.Proofs.Ytpkjgnllkaafkaa
open Go.RowKit Go.Shelf
attribute [local go_sem] Oper.semAt_some

def rgtB (xs : Ls) (r : List Int) : Bool := (allp xs xs.length).all fun p => gi r p.1 != gi r p.2
theorem rgtB_iff {xs : Ls} {r : List Int} : rgtB xs r = true ↔ Right xs r := by
  unfold rgtB
  rw [List.all_eq_true]
  constructor
  · intro h
    exact right_all fun p hp => by simpa [gi] using h p hp
  · intro h p hp
    obtain ⟨h1, h2, h3⟩ := mem_allp.1 hp
    have := h p.1 p.2 h1 h2 h3
    simpa [gi] using this
def kOk (k : Int) : Bool := decide (0 ≤ k) && decide (k < 12)
theorem kOk_iff {k : Int} : kOk k = true ↔ 0 ≤ k ∧ k < 12 := by simp [kOk]
/-- The first error of a roster. -/
def rosE (xs : Ls) (r : List Int) : Int :=
  if errV xs = 0 then (if r.length = xs.length then (if r.all kOk = true then (if rgtB xs r = true then 0 else 6) else 1) else 1) else errV xs
def rosV (xs : Ls) (r : List Int) : Int := if rosE xs r = 0 then (dst r : Int) else 0
theorem rosE_v {xs : Ls} {r : List Int} (h : errV xs ≠ 0) : rosE xs r = errV xs := if_neg h
theorem rosE_len {xs : Ls} {r : List Int} (h : errV xs = 0) (h1 : r.length ≠ xs.length) : rosE xs r = 1 := by unfold rosE; rw [if_pos h, if_neg h1]
theorem rosE_k {xs : Ls} {r : List Int} (h : errV xs = 0) (h1 : r.length = xs.length) (h2 : ¬ r.all kOk = true) : rosE xs r = 1 := by unfold rosE; rw [if_pos h, if_pos h1, if_neg h2]
theorem rosE_no {xs : Ls} {r : List Int} (h : errV xs = 0) (h1 : r.length = xs.length) (h2 : r.all kOk = true) (h3 : ¬ rgtB xs r = true) : rosE xs r = 6 := by unfold rosE; rw [if_pos h, if_pos h1, if_pos h2, if_neg h3]
theorem rosE_ok {xs : Ls} {r : List Int} (h : errV xs = 0) (h1 : r.length = xs.length) (h2 : r.all kOk = true) (h3 : rgtB xs r = true) : rosE xs r = 0 := by unfold rosE; rw [if_pos h, if_pos h1, if_pos h2, if_pos h3]
theorem rosV_no {xs : Ls} {r : List Int} {e : Int} (h : rosE xs r = e) (he : e ≠ 0) : rosV xs r = 0 := by unfold rosV; rw [if_neg (by rw [h]; exact he)]
theorem rosV_ok {xs : Ls} {r : List Int} (h : rosE xs r = 0) : rosV xs r = dst r := by unfold rosV; rw [if_pos h]
/-- The first k keepers are. -/
def KTo (r : List Int) (k : Nat) : Prop := ∀ i, i < k → kOk (gi r i) = true
theorem kTo_succ {r : List Int} {k : Nat} (h : KTo r k) (h1 : kOk (gi r k) = true) : KTo r (k + 1) := by
  intro i hi
  by_cases e : i = k
  · subst e; exact h1
  · exact h i (by omega)
theorem kTo_all {r : List Int} (h : KTo r r.length) : r.all kOk = true := by
  rw [List.all_eq_true]
  intro x hx
  obtain ⟨i, hi, rfl⟩ := List.getElem_of_mem hx
  have := h i hi
  simpa [gi, List.getD_eq_getElem?_getD, hi] using this
theorem kTo_no {r : List Int} {k : Nat} (hk : k < r.length) (h : kOk (gi r k) = false) : ¬ r.all kOk = true := by
  intro hh
  rw [List.all_eq_true] at hh
  have := hh _ (gi_mem hk)
  rw [h] at this
  cases this

set_option maxHeartbeats 400000 in
theorem overlaps_any (A : Option Addr) (n c : Nat) (w : World) :
    Calls Try.prog 68 #[.slice A n c] w fun e w' => e = .returned (.func (.func 91) #[] #[.pointer (some ⟨w.heap.size, 0, none⟩)]) ∧ w' = w.alloc (.cells #[.slice A n c] 22) := by
  go_enter Try.func68, Try.ntmps68
  go_wp2
  go_ret
  exact ⟨rfl, rfl⟩
theorem overlaps_stops (Bs b off n c : Nat) (A : Option Addr) (xs : Ls) (hn : n ≤ 12) (w : World) (hBs : Bs < w.heap.size)
    (hc : w.cell? ⟨Bs, 0, none⟩ = some (.slice A n c)) (hI : RAt E3 w A n c xs b off) :
    SeqStopsK Fence.wide 2 Try.prog 91 #[.pointer (some ⟨Bs, 0, none⟩)] (epE (n := n)) (KB2 b Bs) (fun ys => vals ys = allp xs n) (fun pre => ∃ q, vals pre ++ q = allp xs n) 1000 w := fun l J Jx W hW hJ _ hY h0 => by
  have hc' := (hW.cell (p := ⟨Bs, 0, none⟩) hBs).trans hc
  exact overlaps1_in l Bs b off n c A xs hn J Jx ⟨_, hJ⟩ hY W hc' (hI.below hW (Nat.le_refl _)) h0

end Go.Proofs.Ytpkjgnllkaafkaa
