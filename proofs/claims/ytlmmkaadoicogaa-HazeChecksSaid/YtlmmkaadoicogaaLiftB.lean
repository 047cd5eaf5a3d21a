/- From how Go's data read to the walks' words: a claimed row. -/
import Derived.Test.YtlmmkaadoicogaaWalkCr
import Derived.Lib.SmallJoins
namespace Go.Proofs.Ytlmmkaadoicogaa
open Go.ChangeShapes Go.WideShapes Go.ChangeAt Go.RowKit

theorem cellsInts : Try.prog.cellsOf 44 = 1 := by kernel_rfl
theorem cellsRow : Try.prog.cellsOf 46 = 2 := by kernel_rfl
/-- A cell that reads as a slice of integers. -/
theorem ints_open {H : Type} {enc : TypeId × Value → H} {W : World} {fuel : Nat} {cs : List Value} {x : DataW H × List MemPlace}
    (h : DataW.trod enc Try.prog W 0 (fun _ => true) true fuel 44 cs = some x) : ∃ A n c zs, cs = [.slice A n c] ∧ IRow W A n c zs := by
  rcases open_ints Try.underlying44 Try.underlying3 cellsInt h with ⟨hcs, _⟩ | ⟨a, l, c, zs, hcs, _, hl, hm, hz, _, hcell, _⟩
  · exact ⟨none, 0, 0, [], hcs, IRow.nilRow W⟩
  · exact ⟨some a, l, c, zs.take l, hcs, irow_of_cells hl hm (by simpa using hz) hcell⟩
theorem row_open {H : Type} {enc : TypeId × Value → H} {W : World} {b0 : Nat} {v : Value} {d : DataW H} {p : List MemPlace} (hv : Value.okWide Try.prog W .any b0 46 v) (h : DataW.Trod enc Try.prog W 0 (fun _ => true) true 46 v d p) :
    ∃ D A n c zs, v = .agg #[.int .i64 D, .slice A n c] ∧ IRow W A n c zs := by
  obtain ⟨cs, rfl, hsz⟩ := okWide_struct Try.underlying46 hv
  rw [cellsRow] at hsz
  obtain ⟨l⟩ := cs
  match l, hsz with
  | [c0, c1], _ =>
  obtain ⟨fuel, hf⟩ := h
  obtain ⟨y0, y1, m, _, _, h0, h1⟩ := trod_struct2 Try.underlying46 hf
  obtain ⟨a, e0, _, _⟩ := DataW.trod_int Try.underlying3 h0
  obtain ⟨A, n, c, zs, e2, r2⟩ := ints_open h1
  simp [Value.cells, cellsInt, cellsInts] at e0 e2
  subst e0 e2
  exact ⟨a, A, n, c, zs, rfl, r2⟩

end Go.Proofs.Ytlmmkaadoicogaa
