/- From how Go's data read to the walks' words: slices of integers, two logs with costs. -/
import Derived.Test.YtndfdminjegldaaOwn
import Derived.ProofKit
import Derived.OpenShut
import Derived.ShutString
import Derived.ChangeOld
import Derived.Deep.Slices
import Derived.Deep.Strs
namespace Go.Proofs.Ytndfdminjegldaa
open Go.ChangeShapes Go.WideShapes Go.ChangeAt Go.RowKit Go.Deep

theorem own : ownKnob Try.prog.godebug = none := by kernel_rfl
theorem laidOut : laidOutB Try.prog = true := by kernel_rfl
theorem cellsInt : Try.prog.cellsOf 3 = 1 := by kernel_rfl
theorem add_spot (x : Addr) (i : Nat) (h : x.spot = none) : x.add i = ⟨x.block, x.off + i, none⟩ := by
  cases x with
  | mk b off spot =>
    simp at h
    subst h
    unfold Addr.add
    split
    · rename_i h0; subst h0; rfl
    · rfl
/-- A row whose elements' cells are where they should be. -/
theorem r_of_cells {α : Type} (E : Enc α) {w : World} {x : Addr} {n c : Nat} {zs : List α} (hE : 0 < E.size) (hl : n ≤ c) (hm : c ≤ maxLen) (hz : zs.length = n)
    (hc : ∀ i, i < n → ∀ j, j < E.size → w.cell? (x.add (i * E.size + j)) = (E.enc (zs.getD i E.d))[j]?) : R E w (some x) n c zs := by
  by_cases hn : n = 0
  · subst hn
    exact ⟨0, 0, hz, by omega, hm, fun h => by omega, fun h => by omega, fun k hk => by omega⟩
  · have h0 := hc 0 (by omega) 0 hE
    obtain ⟨v, hv⟩ : ∃ v, (E.enc (zs.getD 0 E.d))[0]? = some v := ⟨_, List.getElem?_eq_getElem (by rw [E.len]; exact hE)⟩
    rw [hv] at h0
    have hs : x.spot = none := by
      have := World.cell?_spot h0
      simpa [Addr.add] using this
    refine ⟨x.block, x.off, hz, hl, hm, fun _ => ?_, fun _ => ?_, fun k hk j hj => ?_⟩
    · cases x with
      | mk b off spot => simp at hs; subst hs; rfl
    · have := World.block_lt_of_cell? w _ h0
      simpa [Addr.add] using this
    · rw [← add_spot x _ hs]
      exact hc k hk j hj
theorem ints_row {w : World} {x : Addr} {n c : Nat} {zs : List Int} (hl : n ≤ c) (hm : c ≤ maxLen) (hz : zs.length = c) (hcell : ∀ i, i < zs.length → w.cell? (x.add i) = some (.int .i64 (zs.getD i 0))) :
    R E1 w (some x) n c (zs.take n) := by
  refine r_of_cells E1 (by decide) hl hm (by rw [List.length_take]; omega) fun i hi j hj => ?_
  have hj0 : j = 0 := by
    have : E1.size = 1 := rfl
    omega
  subst hj0
  have e : i * E1.size + 0 = i := Nat.mul_one i
  rw [e, hcell i (by omega)]
  have e2 : (zs.take n).getD i E1.d = zs.getD i 0 := by
    show (zs.take n).getD i 0 = zs.getD i 0
    simp [List.getD_eq_getElem?_getD, hi]
  rw [e2]
  rfl

theorem cellsInts : Try.prog.cellsOf 22 = 1 := by kernel_rfl
theorem cellsCosts : Try.prog.cellsOf 24 = 3 := by kernel_rfl
theorem cellsTwo : Try.prog.cellsOf 26 = 5 := by kernel_rfl
set_option maxRecDepth 100000 in
/-- A cell that reads as a slice of integers. -/
theorem ints_open {H : Type} {enc : TypeId × Value → H} {W : World} {fuel : Nat} {cs : List Value} {x : DataW H × List MemPlace}
    (h : DataW.trod enc Try.prog W 0 (fun _ => true) true fuel 22 cs = some x) : ∃ A n c zs, cs = [.slice A n c] ∧ R E1 W A n c zs := by
  rcases open_ints Try.underlying22 Try.underlying3 cellsInt h with ⟨hcs, _⟩ | ⟨a, l, c, zs, hcs, _, hl, hm, hz, _, hcell, _⟩
  · exact ⟨none, 0, 0, [], hcs, R.nil E1 W⟩
  · exact ⟨some a, l, c, zs.take l, hcs, ints_row hl hm (by simpa using hz) hcell⟩
set_option maxRecDepth 100000 in
theorem slice_open {H : Type} {enc : TypeId × Value → H} {W : World} {b0 : Nat} {v : Value} {d : DataW H} {p : List MemPlace} (hv : Value.okWide Try.prog W .any b0 22 v) (h : DataW.Trod enc Try.prog W 0 (fun _ => true) true 22 v d p) :
    ∃ A n c zs, v = .slice A n c ∧ R E1 W A n c zs := by
  obtain ⟨a, l, c, rfl⟩ := okWide_slice Try.underlying22 hv
  obtain ⟨fuel, hf⟩ := h
  obtain ⟨A, n, c', zs, e, r⟩ := ints_open hf
  simp [Value.cells] at e
  obtain ⟨rfl, rfl, rfl⟩ := e
  exact ⟨_, _, _, zs, rfl, r⟩
set_option maxRecDepth 100000 in
theorem costs_open {H : Type} {enc : TypeId × Value → H} {W : World} {fuel : Nat} {cs : List Value} {x : DataW H × List MemPlace}
    (h : DataW.trod enc Try.prog W 0 (fun _ => true) true fuel 24 cs = some x) (hl : cs.length = 3) : ∃ a b c, cs = [.int .i64 a, .int .i64 b, .int .i64 c] := by
  match cs, hl with
  | [c0, c1, c2], _ =>
  obtain ⟨y0, y1, y2, m, _, _, h0, h1, h2⟩ := trod_struct3 Try.underlying24 h
  obtain ⟨a, e0, _, _⟩ := DataW.trod_int Try.underlying3 h0
  obtain ⟨b, e1, _, _⟩ := DataW.trod_int Try.underlying3 h1
  obtain ⟨c, e2, _, _⟩ := DataW.trod_int Try.underlying3 h2
  simp [cellsInt] at e0 e1 e2
  subst e0 e1 e2
  exact ⟨a, b, c, rfl⟩
set_option maxRecDepth 100000 in
theorem two_open {H : Type} {enc : TypeId × Value → H} {W : World} {b0 : Nat} {v : Value} {d : DataW H} {p : List MemPlace} (hv : Value.okWide Try.prog W .any b0 26 v) (h : DataW.Trod enc Try.prog W 0 (fun _ => true) true 26 v d p) :
    ∃ A n c xs A' n' c' ys o i k, v = .agg #[.slice A n c, .slice A' n' c', .int .i64 o, .int .i64 i, .int .i64 k] ∧ R E1 W A n c xs ∧ R E1 W A' n' c' ys := by
  obtain ⟨cs, rfl, hsz⟩ := okWide_struct Try.underlying26 hv
  rw [cellsTwo] at hsz
  obtain ⟨l⟩ := cs
  match l, hsz with
  | [c0, c1, c2, c3, c4], _ =>
  obtain ⟨fuel, hf⟩ := h
  obtain ⟨y0, y1, y2, m, _, _, h0, h1, h2⟩ := trod_struct3 Try.underlying26 hf
  obtain ⟨A, n, c, zs, e0, r0⟩ := ints_open h0
  obtain ⟨A', n', c', zs', e1, r1⟩ := ints_open h1
  simp [Value.cells, cellsInts] at e0 e1
  subst e0 e1
  obtain ⟨a, b, k, e2⟩ := costs_open h2 (by simp [Value.cells, cellsCosts])
  simp [Value.cells, cellsCosts] at e2
  obtain ⟨rfl, rfl, rfl⟩ := e2
  exact ⟨A, n, c, zs, A', n', c', zs', a, b, k, rfl, r0, r1⟩
end Go.Proofs.Ytndfdminjegldaa
