/- Slices of integers. -/
import Derived.Test.YtlmmkaadoicogaaLift
namespace Go.Proofs.Ytlmmkaadoicogaa
open Go.ChangeShapes Go.WideShapes Go.ChangeAt Go.RowKit

structure IRowAt (w : World) (A : Option Addr) (n c : Nat) (xs : List Int) (b off : Nat) : Prop where
  len : xs.length = n
  cap : n ≤ c
  max : c ≤ 9223372036854775807
  at_ : 0 < n → A = some ⟨b, off, none⟩
  lt : 0 < n → b < w.heap.size
  cell : ∀ k, k < n → w.cell? ⟨b, off + k, none⟩ = some (.int .i64 (xs.getD k 0))
def IRow (w : World) (A : Option Addr) (n c : Nat) (xs : List Int) : Prop := ∃ b off, IRowAt w A n c xs b off
theorem IRowAt.below {w w' : World} {A : Option Addr} {n c : Nat} {xs : List Int} {b off B : Nat} (h : IRowAt w A n c xs b off) (hb : Below B w w') (hB : w.heap.size ≤ B) : IRowAt w' A n c xs b off := by
  obtain ⟨h1, hc, hm, h2, h3, h4⟩ := h
  refine ⟨h1, hc, hm, h2, fun hn => Nat.lt_of_lt_of_le (h3 hn) hb.size, fun k hk => ?_⟩
  rw [hb.cell (p := ⟨b, off + k, none⟩) (Nat.lt_of_lt_of_le (h3 (by omega)) hB)]
  exact h4 k hk
theorem IRow.nilRow (w : World) : IRow w none 0 0 [] := ⟨0, 0, rfl, by omega, by omega, fun h => by omega, fun h => by omega, fun k hk => by omega⟩
theorem irow_of_cells {w : World} {x : Addr} {n c : Nat} {zs : List Int} (hl : n ≤ c) (hm : c ≤ maxLen) (hz : zs.length = c) (hcell : ∀ i, i < zs.length → w.cell? (x.add i) = some (.int .i64 (zs.getD i 0))) :
    IRow w (some x) n c (zs.take n) := by
  by_cases hn : n = 0
  · subst hn
    exact ⟨0, 0, by simp, by omega, hm, fun h => by omega, fun h => by omega, fun k hk => by omega⟩
  · have h0 := hcell 0 (by omega)
    have hs : x.spot = none := by
      have := World.cell?_spot h0
      simpa [Addr.add] using this
    refine ⟨x.block, x.off, by rw [List.length_take]; omega, hl, hm, fun _ => ?_, fun _ => ?_, fun k hk => ?_⟩
    · cases x with
      | mk b off spot => simp at hs; subst hs; rfl
    · have := World.block_lt_of_cell? w _ h0
      simpa [Addr.add] using this
    · rw [← add_spot x k hs, hcell k (by omega)]
      simp [List.getD_eq_getElem?_getD, List.getElem?_take, hk]

end Go.Proofs.Ytlmmkaadoicogaa
