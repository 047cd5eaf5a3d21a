/- From how Go's data read to the walks' words: slices of integers, tasks, claims. -/
import Derived.Test.YtjhnfcmijijdcaaWalkR
import Derived.ProofKit
import Derived.OpenShut
import Derived.ShutString
import Derived.ChangeOld
import Derived.ChangeSlices
import Derived.Lib.SmallJoins
namespace Go.Proofs.Ytjhnfcmijijdcaa
open Go.ChangeShapes Go.WideShapes Go.ChangeAt Go.RowKit

theorem own : ownKnob Try.prog.godebug = none := by kernel_rfl
theorem laidOut : laidOutB Try.prog = true := by kernel_rfl
theorem cellsInt : Try.prog.cellsOf 3 = 1 := by kernel_rfl
theorem cellsInts : Try.prog.cellsOf 22 = 1 := by kernel_rfl
theorem cellsTask : Try.prog.cellsOf 24 = 4 := by kernel_rfl
theorem Row.nilRow (w : World) : Row w none 0 0 [] := ⟨0, 0, rfl, by omega, by omega, fun h => by omega, fun h => by omega, fun k hk => by omega⟩

theorem add_spot (x : Addr) (i : Nat) (h : x.spot = none) : x.add i = ⟨x.block, x.off + i, none⟩ := by
  cases x with
  | mk b off spot =>
    simp at h
    subst h
    unfold Addr.add
    split
    · rename_i h0; subst h0; rfl
    · rfl

theorem row_of_cells {w : World} {x : Addr} {n c : Nat} {zs : List Int} (hl : n ≤ c) (hm : c ≤ maxLen) (hz : zs.length = c) (hcell : ∀ i, i < zs.length → w.cell? (x.add i) = some (.int .i64 (zs.getD i 0))) :
    Row w (some x) n c (zs.take n) := by
  by_cases hn : n = 0
  · subst hn
    exact ⟨0, 0, by simp, by omega, hm, fun h => by omega, fun h => by omega, fun k hk => by omega⟩
  · have h0 := hcell 0 (by omega)
    have hs : x.spot = none := by
      have := World.cell?_spot h0
      simpa [Addr.add] using this
    refine ⟨x.block, x.off, by rw [List.length_take]; omega, hl, hm, fun _ => ?_, fun _ => ?_, fun k hk => ?_⟩
    · cases x with
      | mk b off spot => simp at hs; subst hs; rfl
    · have := World.block_lt_of_cell? w _ h0
      simpa [Addr.add] using this
    · rw [← add_spot x k hs, hcell k (by omega)]
      simp [List.getD_eq_getElem?_getD, hk]

/-- A cell that reads as a slice of integers. -/
theorem ints_open {H : Type} {enc : TypeId × Value → H} {W : World} {fuel : Nat} {cs : List Value} {x : DataW H × List MemPlace}
    (h : DataW.trod enc Try.prog W 0 (fun _ => true) true fuel 22 cs = some x) : ∃ A n c zs, cs = [.slice A n c] ∧ Row W A n c zs := by
  rcases open_ints Try.underlying22 Try.underlying3 cellsInt h with ⟨hcs, _⟩ | ⟨a, l, c, zs, hcs, _, hl, hm, hz, _, hcell, _⟩
  · exact ⟨none, 0, 0, [], hcs, Row.nilRow W⟩
  · exact ⟨some a, l, c, zs.take l, hcs, row_of_cells hl hm (by simpa using hz) hcell⟩
theorem slice_open {H : Type} {enc : TypeId × Value → H} {W : World} {b0 : Nat} {v : Value} {d : DataW H} {p : List MemPlace} (hv : Value.okWide Try.prog W .any b0 22 v) (h : DataW.Trod enc Try.prog W 0 (fun _ => true) true 22 v d p) :
    ∃ A n c zs, v = .slice A n c ∧ Row W A n c zs := by
  obtain ⟨a, l, c, rfl⟩ := okWide_slice Try.underlying22 hv
  obtain ⟨fuel, hf⟩ := h
  obtain ⟨A, n, c', zs, e, r⟩ := ints_open hf
  simp [Value.cells] at e
  obtain ⟨rfl, rfl, rfl⟩ := e
  exact ⟨_, _, _, zs, rfl, r⟩
theorem task_open {H : Type} {enc : TypeId × Value → H} {W : World} {b0 : Nat} {v : Value} {d : DataW H} {p : List MemPlace} (hv : Value.okWide Try.prog W .any b0 24 v) (h : DataW.Trod enc Try.prog W 0 (fun _ => true) true 24 v d p) :
    ∃ K h A n c cs A' n' c' ds, v = .agg #[.int .i64 K, .int .i64 h, .slice A n c, .slice A' n' c'] ∧ Tin W A n c cs A' n' c' ds := by
  obtain ⟨cs, rfl, hsz⟩ := okWide_struct Try.underlying24 hv
  rw [cellsTask] at hsz
  obtain ⟨l⟩ := cs
  match l, hsz with
  | [c0, c1, c2, c3], _ =>
  obtain ⟨fuel, hf⟩ := h
  obtain ⟨y0, y1, y2, y3, m, _, _, h0, h1, h2, h3⟩ := Go.Joins.trod_struct4 Try.underlying24 hf
  obtain ⟨a, e0, _, _⟩ := DataW.trod_int Try.underlying3 h0
  obtain ⟨b, e1, _, _⟩ := DataW.trod_int Try.underlying3 h1
  obtain ⟨A, n, c, zs, e2, r2⟩ := ints_open h2
  obtain ⟨A', n', c', zs', e3, r3⟩ := ints_open h3
  simp [Value.cells, cellsInt, cellsInts] at e0 e1 e2 e3
  subst e0 e1 e2 e3
  exact ⟨a, b, A, n, c, zs, A', n', c', zs', rfl, r2, r3⟩
theorem cellsClaim : Try.prog.cellsOf 41 = 2 := by kernel_rfl
theorem claim_open {H : Type} {enc : TypeId × Value → H} {W : World} {b0 : Nat} {v : Value} {d : DataW H} {p : List MemPlace} (hv : Value.okWide Try.prog W .any b0 41 v) (h : DataW.Trod enc Try.prog W 0 (fun _ => true) true 41 v d p) :
    ∃ A n c cs A' n' c' ds, v = .agg #[.slice A n c, .slice A' n' c'] ∧ Row W A n c cs ∧ Row W A' n' c' ds := by
  obtain ⟨cs, rfl, hsz⟩ := okWide_struct Try.underlying41 hv
  rw [cellsClaim] at hsz
  obtain ⟨l⟩ := cs
  match l, hsz with
  | [c0, c1], _ =>
  obtain ⟨fuel, hf⟩ := h
  obtain ⟨y0, y1, m, _, _, h0, h1⟩ := trod_struct2 Try.underlying41 hf
  obtain ⟨A, n, c, zs, e2, r2⟩ := ints_open h0
  obtain ⟨A', n', c', zs', e3, r3⟩ := ints_open h1
  simp [Value.cells, cellsInts] at e2 e3
  subst e2 e3
  exact ⟨A, n, c, zs, A', n', c', zs', rfl, r2, r3⟩

end Go.Proofs.Ytjhnfcmijijdcaa
