/- From how Go's data read to the walks' words: slices of shifts, slices of integers. -/
import Derived.Test.YtpkjgnllkaafkaaWalkOw
import Derived.ProofKit
import Derived.OpenShut
import Derived.ShutString
import Derived.ChangeOld
import Derived.Deep.Slices
namespace Go.Proofs.Ytpkjgnllkaafkaa
open Go.ChangeShapes Go.WideShapes Go.ChangeAt Go.RowKit

theorem own : ownKnob Try.prog.godebug = none := by kernel_rfl
theorem laidOut : laidOutB Try.prog = true := by kernel_rfl
theorem cellsInt : Try.prog.cellsOf 3 = 1 := by kernel_rfl
theorem cellsShift : Try.prog.cellsOf 57 = 3 := by kernel_rfl
theorem add_spot (x : Addr) (i : Nat) (h : x.spot = none) : x.add i = ⟨x.block, x.off + i, none⟩ := by
  cases x with
  | mk b off spot =>
    simp at h
    subst h
    unfold Addr.add
    split
    · rename_i h0; subst h0; rfl
    · rfl
/-- A row whose elements' cells are where they should be. -/
theorem r_of_cells {α : Type} (E : Enc α) {w : World} {x : Addr} {n c : Nat} {zs : List α} (hE : 0 < E.size) (hl : n ≤ c) (hm : c ≤ maxLen) (hz : zs.length = n)
    (hc : ∀ i, i < n → ∀ j, j < E.size → w.cell? (x.add (i * E.size + j)) = (E.enc (zs.getD i E.d))[j]?) : R E w (some x) n c zs := by
  by_cases hn : n = 0
  · subst hn
    exact ⟨0, 0, hz, by omega, hm, fun h => by omega, fun h => by omega, fun k hk => by omega⟩
  · have h0 := hc 0 (by omega) 0 hE
    obtain ⟨v, hv⟩ : ∃ v, (E.enc (zs.getD 0 E.d))[0]? = some v := ⟨_, List.getElem?_eq_getElem (by rw [E.len]; exact hE)⟩
    rw [hv] at h0
    have hs : x.spot = none := by
      have := World.cell?_spot h0
      simpa [Addr.add] using this
    refine ⟨x.block, x.off, hz, hl, hm, fun _ => ?_, fun _ => ?_, fun k hk j hj => ?_⟩
    · cases x with
      | mk b off spot => simp at hs; subst hs; rfl
    · have := World.block_lt_of_cell? w _ h0
      simpa [Addr.add] using this
    · rw [← add_spot x _ hs]
      exact hc k hk j hj
theorem ints_row {w : World} {x : Addr} {n c : Nat} {zs : List Int} (hl : n ≤ c) (hm : c ≤ maxLen) (hz : zs.length = c) (hcell : ∀ i, i < zs.length → w.cell? (x.add i) = some (.int .i64 (zs.getD i 0))) :
    R E1 w (some x) n c (zs.take n) := by
  refine r_of_cells E1 (by decide) hl hm (by rw [List.length_take]; omega) fun i hi j hj => ?_
  have hj0 : j = 0 := by
    have : E1.size = 1 := rfl
    omega
  subst hj0
  have e : i * E1.size + 0 = i := Nat.mul_one i
  rw [e, hcell i (by omega)]
  have e2 : (zs.take n).getD i E1.d = zs.getD i 0 := by
    show (zs.take n).getD i 0 = zs.getD i 0
    simp [List.getD_eq_getElem?_getD, List.getElem?_take, hi]
  rw [e2]
  rfl
set_option maxRecDepth 100000 in
/-- One shift's three cells. -/
theorem shift_cells {H : Type} {enc : TypeId × Value → H} {w : World} {base fuel : Nat} {spare : Nat → Bool} {held : Bool} {cs : List Value} {d : DataW H × List MemPlace} (hl : cs.length = 3)
    (h : DataW.trod enc Try.prog w base spare held fuel 57 cs = some d) : ∃ x y z : Int, cs = [.int .i64 x, .int .i64 y, .int .i64 z] := by
  obtain ⟨ys, n, _, _, _, hyl, hf⟩ := DataW.trod_struct Try.underlying57 h
  have hyl' : ys.length = 3 := hyl
  have h0 := hf 0 _ rfl
  have h1 := hf 1 _ rfl
  have h2 := hf 2 _ rfl
  rw [List.getElem?_eq_getElem (by omega)] at h0 h1 h2
  match cs, hl with
  | [v0, v1, v2], _ =>
    obtain ⟨x0, e0, _⟩ := DataW.trod_int Try.underlying3 h0
    obtain ⟨x1, e1, _⟩ := DataW.trod_int Try.underlying3 h1
    obtain ⟨x2, e2, _⟩ := DataW.trod_int Try.underlying3 h2
    replace e0 : List.take (Try.prog.cellsOf 3) (List.drop 0 [v0, v1, v2]) = [.int .i64 x0] := e0
    replace e1 : List.take (Try.prog.cellsOf 3) (List.drop 1 [v0, v1, v2]) = [.int .i64 x1] := e1
    replace e2 : List.take (Try.prog.cellsOf 3) (List.drop 2 [v0, v1, v2]) = [.int .i64 x2] := e2
    rw [cellsInt] at e0 e1 e2
    simp only [List.drop_zero, List.drop_succ_cons, List.take_succ_cons, List.take_zero, List.cons.injEq, and_true] at e0 e1 e2
    exact ⟨x0, x1, x2, by rw [e0, e1, e2]⟩
theorem open_shifts {H : Type} {enc : TypeId × Value → H} {w : World} {base fuel : Nat} {spare : Nat → Bool} {held : Bool} {a : Option Addr} {n c : Nat} {x : DataW H × List MemPlace}
    (h : DataW.trod enc Try.prog w base spare held fuel 22 (Value.slice a n c).cells.toList = some x) : ∃ zs, R E3 w a n c zs := by
  rcases Deep.open_slice Try.underlying22 h with ⟨hcs, _⟩ | ⟨ad, len, cap, m, k, D, Pl, hcs, _, hl, hm, hmm, _, hx⟩
  · simp [Value.cells] at hcs
    obtain ⟨rfl, rfl, rfl⟩ := hcs
    exact ⟨[], R.nil E3 w⟩
  · simp [Value.cells] at hcs
    obtain ⟨rfl, rfl, rfl⟩ := hcs
    have each : ∀ i, ∃ s : Sh, i < n → ∀ j, j < 3 → w.cell? (ad.add (i * 3 + j)) = (E3.enc s)[j]? := by
      intro i
      by_cases hi : i < n
      · obtain ⟨cs', h1, h2⟩ := hx i (by rw [hmm]; split <;> omega)
        rw [cellsShift] at h1
        obtain ⟨_, hlen, hcell⟩ := World.cells?_some h1
        obtain ⟨x, y, z, rfl⟩ := shift_cells hlen h2
        refine ⟨(x, y, z), fun _ j hj => ?_⟩
        have := hcell j hj
        rw [Go.Deep.add_add] at this
        exact this
      · exact ⟨sh0, fun h => absurd h hi⟩
    obtain ⟨f, hf⟩ := Classical.axiomOfChoice each
    refine ⟨(List.range n).map f, r_of_cells E3 (by decide) hl hm (by simp) fun i hi j hj => ?_⟩
    have e : ((List.range n).map f).getD i E3.d = f i := by simp [List.getD_eq_getElem?_getD, hi]
    rw [e]
    exact hf i hi j hj
end Go.Proofs.Ytpkjgnllkaafkaa
