/- From how Go's data read to the walks' words: a slice of slices of integers. -/
import Derived.Test.YtbadihbcjdibeaaWalkTm
import Derived.Deep.Matrix
namespace Go.Proofs.Ytbadihbcjdibeaa
open Go.ChangeShapes Go.WideShapes Go.ChangeAt Go.RowKit Go.Deep

theorem cellsRow : Try.prog.cellsOf 23 = 1 := by kernel_rfl

theorem grid_of {w : World} {x : Addr} {n c : Nat} {A : Nat → Option Addr} {L C : Nat → Nat} {Z : Nat → List Int} (hl : n ≤ c) (hm : c ≤ maxLen)
    (hcell : ∀ r, r < c → w.cell? (x.add r) = some (.slice (A r) (L r) (C r)) ∧ L r ≤ C r ∧ C r ≤ maxLen ∧ (Z r).length = C r ∧ (A r = none → C r = 0) ∧
      ∀ a', A r = some a' → ∀ j, j < C r → w.cell? (a'.add j) = some (.int .i64 ((Z r).getD j 0))) :
    Grid w (some x) n c ((List.range n).map fun r => (Z r).take (L r)) := by
  by_cases hn : n = 0
  · subst hn
    exact ⟨0, 0, by simp, by omega, hm, fun h => by omega, fun h => by omega, fun k hk => by omega⟩
  · have h0 := (hcell 0 (by omega)).1
    have hs : x.spot = none := by
      have := World.cell?_spot h0
      simpa [Addr.add] using this
    refine ⟨x.block, x.off, by simp, hl, hm, fun _ => ?_, fun _ => ?_, fun k hk => ?_⟩
    · cases x with
      | mk b off spot => simp at hs; subst hs; rfl
    · have := World.block_lt_of_cell? w _ h0
      simpa [Addr.add] using this
    · obtain ⟨q1, q2, q3, q4, q5, q6⟩ := hcell k (by omega)
      have hget : ((List.range n).map fun r => (Z r).take (L r)).getD k [] = (Z k).take (L k) := by
        simp [List.getD_eq_getElem?_getD, hk]
      rw [hget]
      refine ⟨A k, L k, C k, by rw [← add_spot x k hs]; exact q1, ?_⟩
      cases hA : A k with
      | none =>
        have z := q5 hA
        have z2 : L k = 0 := by omega
        rw [z, z2, List.take_zero]
        exact Row.nilRow w
      | some a' =>
        exact row_of_cells q2 q3 q4 fun i hi => q6 a' hA i (by omega)

section
variable {H : Type} {enc : TypeId × Value → H} {w : World} {base : Nat} {held : Bool}
theorem grid_open {v : Value} {d : DataW H} {p : List MemPlace} {base' : Nat} (hv : Value.okWide Try.prog w .any base' 22 v) (h : DataW.Trod enc Try.prog w base (fun _ => true) held 22 v d p) :
    ∃ (A : Option Addr) (n c : Nat) (ls : List (List Int)), v = .slice A n c ∧ Grid w A n c ls := by
  obtain ⟨a0, len0, cap0, rfl⟩ := okWide_slice Try.underlying22 hv
  obtain ⟨fuel, hf⟩ := h
  rcases open_int_rows Try.underlying22 Try.underlying23 Try.underlying3 cellsRow cellsInt hf with ⟨hcs, _⟩ | ⟨x, l, c, A, L, C, Z, hcs, _, hl, hm, _, hcell⟩
  · simp [Value.cells] at hcs
    obtain ⟨rfl, rfl, rfl⟩ := hcs
    exact ⟨none, 0, 0, [], rfl, 0, 0, rfl, Nat.le_refl _, by omega, fun h => by omega, fun h => by omega, fun k hk => by omega⟩
  · simp [Value.cells] at hcs
    obtain ⟨rfl, rfl, rfl⟩ := hcs
    exact ⟨_, _, _, _, rfl, grid_of hl hm fun r hr => by
      obtain ⟨q1, q2, q3, q4, q5, q6, q7⟩ := hcell r hr
      exact ⟨q1, q2, q3, q4, q6, fun a' ha j hj => (q7 a' ha).2 j hj⟩⟩
end

end Go.Proofs.Ytbadihbcjdibeaa
