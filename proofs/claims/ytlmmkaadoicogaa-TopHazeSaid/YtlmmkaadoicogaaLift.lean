/- From how Go's data read to the walks' words: slices of readings. -/
import Derived.Test.YtlmmkaadoicogaaWalkG
import Derived.ProofKit
import Derived.OpenShut
import Derived.ShutString
import Derived.ChangeOld
import Derived.Deep.SlicePairs
namespace Go.Proofs.Ytlmmkaadoicogaa
open Go.ChangeShapes Go.WideShapes Go.ChangeAt Go.RowKit

theorem own : ownKnob Try.prog.godebug = none := by kernel_rfl
theorem laidOut : laidOutB Try.prog = true := by kernel_rfl
theorem cellsInt : Try.prog.cellsOf 3 = 1 := by kernel_rfl
theorem cellsReading : Try.prog.cellsOf 51 = 2 := by kernel_rfl
theorem add_spot (x : Addr) (i : Nat) (h : x.spot = none) : x.add i = ⟨x.block, x.off + i, none⟩ := by
  cases x with
  | mk b off spot =>
    simp at h
    subst h
    unfold Addr.add
    split
    · rename_i h0; subst h0; rfl
    · rfl
theorem row_of_pairs {w : World} {x : Addr} {n c : Nat} (hl : n ≤ c) (hm : c ≤ maxLen)
    (hc : ∀ i, i < n → ∃ q : Int × Int, w.cell? (x.add (i * 2)) = some (.int .i64 q.1) ∧ w.cell? (x.add (i * 2 + 1)) = some (.int .i64 q.2)) : ∃ zs, Row w (some x) n c zs := by
  obtain ⟨q, hq⟩ := Deep.choose_lt hc
  refine ⟨(List.range n).map q, ?_⟩
  by_cases hn : n = 0
  · subst hn
    exact ⟨0, 0, by simp, by omega, hm, fun h => by omega, fun h => by omega, fun k hk => by omega⟩
  · have h0 := (hq 0 (by omega)).1
    have hs : x.spot = none := by
      have := World.cell?_spot h0
      simpa [Addr.add] using this
    refine ⟨x.block, x.off, by simp, hl, hm, fun _ => ?_, fun _ => ?_, fun k hk => ?_⟩
    · cases x with
      | mk b off spot => simp at hs; subst hs; rfl
    · have := World.block_lt_of_cell? w _ h0
      simpa [Addr.add] using this
    · have e : ((List.range n).map q).getD k (0, 0) = q k := by simp [List.getD_eq_getElem?_getD, hk]
      rw [e]
      obtain ⟨g1, g2⟩ := hq k hk
      rw [add_spot x _ hs] at g1 g2
      exact ⟨g1, by rw [Nat.add_assoc]; exact g2⟩
theorem open_readings {H : Type} {enc : TypeId × Value → H} {w : World} {base fuel : Nat} {spare : Nat → Bool} {held : Bool} {a : Option Addr} {n c : Nat} {x : DataW H × List MemPlace}
    (h : DataW.trod enc Try.prog w base spare held fuel 22 (Value.slice a n c).cells.toList = some x) : ∃ zs, Row w a n c zs := by
  rcases Deep.open_slice_pairs (f0 := ⟨"Value", 3, 0, _, _, _, _⟩) Try.underlying22 Try.underlying51 cellsReading rfl rfl cellsInt cellsInt h with ⟨hcs, _⟩ | ⟨ad, len, cap, m, k, V0, V1, D0, D1, P0, P1, hcs, _, hl, hm, hmm, _, hcell⟩
  · simp [Value.cells] at hcs
    obtain ⟨rfl, rfl, rfl⟩ := hcs
    exact ⟨[], Row.nilRow w⟩
  · simp [Value.cells] at hcs
    obtain ⟨rfl, rfl, rfl⟩ := hcs
    refine row_of_pairs hl hm fun i hi => ?_
    obtain ⟨g0, g1, t0, t1⟩ := hcell i (by rw [hmm]; split <;> omega)
    obtain ⟨y0, e0, _⟩ := DataW.trod_int Try.underlying3 t0
    obtain ⟨y1, e1, _⟩ := DataW.trod_int Try.underlying3 t1
    simp at e0 e1
    exact ⟨(y0, y1), by rw [g0, e0], by rw [g1, e1]⟩

end Go.Proofs.Ytlmmkaadoicogaa
