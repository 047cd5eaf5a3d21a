/- From how Go's data read to the walks' words: slices of integers. -/
import Derived.Test.YtbadihbcjdibeaaWalkG
import Derived.ProofKit
import Derived.OpenShut
import Derived.ShutString
import Derived.ChangeOld
namespace Go.Proofs.Ytbadihbcjdibeaa
open Go.ChangeShapes Go.WideShapes Go.ChangeAt Go.RowKit

theorem own : ownKnob Try.prog.godebug = none := by kernel_rfl
theorem laidOut : laidOutB Try.prog = true := by kernel_rfl
theorem cellsInt : Try.prog.cellsOf 3 = 1 := by kernel_rfl

theorem add_spot (x : Addr) (i : Nat) (h : x.spot = none) : x.add i = ⟨x.block, x.off + i, none⟩ := by
  cases x with
  | mk b off spot =>
    simp at h
    subst h
    unfold Addr.add
    split
    · rename_i h0; subst h0; rfl
    · rfl

theorem row_of_cells {w : World} {x : Addr} {n c : Nat} {zs : List Int} (hl : n ≤ c) (hm : c ≤ maxLen) (hz : zs.length = c) (hcell : ∀ i, i < zs.length → w.cell? (x.add i) = some (.int .i64 (zs.getD i 0))) :
    Row w (some x) n c (zs.take n) := by
  by_cases hn : n = 0
  · subst hn
    exact ⟨0, 0, by simp, by omega, hm, fun h => by omega, fun h => by omega, fun k hk => by omega⟩
  · have h0 := hcell 0 (by omega)
    have hs : x.spot = none := by
      have := World.cell?_spot h0
      simpa [Addr.add] using this
    refine ⟨x.block, x.off, by rw [List.length_take]; omega, hl, hm, fun _ => ?_, fun _ => ?_, fun k hk => ?_⟩
    · cases x with
      | mk b off spot => simp at hs; subst hs; rfl
    · have := World.block_lt_of_cell? w _ h0
      simpa [Addr.add] using this
    · rw [← add_spot x k hs, hcell k (by omega)]
      simp [List.getD_eq_getElem?_getD, List.getElem?_take, hk]

end Go.Proofs.Ytbadihbcjdibeaa
