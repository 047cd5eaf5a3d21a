/- From how Go's data read to the walks' words: slices of integers, boxes. -/
import Derived.Test.YtkjnhdkbojcojaaWalkA
import Derived.ProofKit
import Derived.OpenShut
import Derived.ShutString
import Derived.ChangeOld
import Derived.Deep.Slices
import Derived.Deep.Strs
namespace Go.Proofs.Ytkjnhdkbojcojaa
open Go.ChangeShapes Go.WideShapes Go.ChangeAt Go.RowKit Go.Deep

theorem own : ownKnob Try.prog.godebug = none := by kernel_rfl
theorem laidOut : laidOutB Try.prog = true := by kernel_rfl
theorem cellsInt : Try.prog.cellsOf 3 = 1 := by kernel_rfl
theorem add_spot (x : Addr) (i : Nat) (h : x.spot = none) : x.add i = ⟨x.block, x.off + i, none⟩ := by
  cases x with
  | mk b off spot =>
    simp at h
    subst h
    unfold Addr.add
    split
    · rename_i h0; subst h0; rfl
    · rfl
/-- A row whose elements' cells are where they should be. -/
theorem r_of_cells {α : Type} (E : Enc α) {w : World} {x : Addr} {n c : Nat} {zs : List α} (hE : 0 < E.size) (hl : n ≤ c) (hm : c ≤ maxLen) (hz : zs.length = n)
    (hc : ∀ i, i < n → ∀ j, j < E.size → w.cell? (x.add (i * E.size + j)) = (E.enc (zs.getD i E.d))[j]?) : R E w (some x) n c zs := by
  by_cases hn : n = 0
  · subst hn
    exact ⟨0, 0, hz, by omega, hm, fun h => by omega, fun h => by omega, fun k hk => by omega⟩
  · have h0 := hc 0 (by omega) 0 hE
    obtain ⟨v, hv⟩ : ∃ v, (E.enc (zs.getD 0 E.d))[0]? = some v := ⟨_, List.getElem?_eq_getElem (by rw [E.len]; exact hE)⟩
    rw [hv] at h0
    have hs : x.spot = none := by
      have := World.cell?_spot h0
      simpa [Addr.add] using this
    refine ⟨x.block, x.off, hz, hl, hm, fun _ => ?_, fun _ => ?_, fun k hk j hj => ?_⟩
    · cases x with
      | mk b off spot => simp at hs; subst hs; rfl
    · have := World.block_lt_of_cell? w _ h0
      simpa [Addr.add] using this
    · rw [← add_spot x _ hs]
      exact hc k hk j hj
theorem ints_row {w : World} {x : Addr} {n c : Nat} {zs : List Int} (hl : n ≤ c) (hm : c ≤ maxLen) (hz : zs.length = c) (hcell : ∀ i, i < zs.length → w.cell? (x.add i) = some (.int .i64 (zs.getD i 0))) :
    R E1 w (some x) n c (zs.take n) := by
  refine r_of_cells E1 (by decide) hl hm (by rw [List.length_take]; omega) fun i hi j hj => ?_
  have hj0 : j = 0 := by
    have : E1.size = 1 := rfl
    omega
  subst hj0
  have e : i * E1.size + 0 = i := Nat.mul_one i
  rw [e, hcell i (by omega)]
  have e2 : (zs.take n).getD i E1.d = zs.getD i 0 := by
    show (zs.take n).getD i 0 = zs.getD i 0
    simp [List.getD_eq_getElem?_getD, hi]
  rw [e2]
  rfl

theorem cellsInts : Try.prog.cellsOf 23 = 1 := by kernel_rfl
set_option maxRecDepth 100000 in
/-- A cell that reads as a slice of integers. -/
theorem ints_open {H : Type} {enc : TypeId × Value → H} {W : World} {fuel : Nat} {cs : List Value} {x : DataW H × List MemPlace}
    (h : DataW.trod enc Try.prog W 0 (fun _ => true) true fuel 23 cs = some x) : ∃ A n c zs, cs = [.slice A n c] ∧ R E1 W A n c zs := by
  rcases open_ints Try.underlying23 Try.underlying3 cellsInt h with ⟨hcs, _⟩ | ⟨a, l, c, zs, hcs, _, hl, hm, hz, _, hcell, _⟩
  · exact ⟨none, 0, 0, [], hcs, R.nil E1 W⟩
  · exact ⟨some a, l, c, zs.take l, hcs, ints_row hl hm (by simpa using hz) hcell⟩
set_option maxRecDepth 100000 in
theorem slice_open {H : Type} {enc : TypeId × Value → H} {W : World} {b0 : Nat} {v : Value} {d : DataW H} {p : List MemPlace} (hv : Value.okWide Try.prog W .any b0 23 v) (h : DataW.Trod enc Try.prog W 0 (fun _ => true) true 23 v d p) :
    ∃ A n c zs, v = .slice A n c ∧ R E1 W A n c zs := by
  obtain ⟨a, l, c, rfl⟩ := okWide_slice Try.underlying23 hv
  obtain ⟨fuel, hf⟩ := h
  obtain ⟨A, n, c', zs, e, r⟩ := ints_open hf
  simp [Value.cells] at e
  obtain ⟨rfl, rfl, rfl⟩ := e
  exact ⟨_, _, _, zs, rfl, r⟩
theorem cellsArr2 : Try.prog.cellsOf 59 = 2 := by kernel_rfl
theorem cellsBox : Try.prog.cellsOf 25 = 2 := by kernel_rfl
theorem cellsNexts : Try.prog.cellsOf 22 = 1 := by kernel_rfl
set_option maxRecDepth 100000 in
theorem arr2_cells {H : Type} {enc : TypeId × Value → H} {w : World} {base fuel : Nat} {spare : Nat → Bool} {held : Bool} {cs : List Value} {x : DataW H × List MemPlace} (hl : cs.length = 2)
    (h : DataW.trod enc Try.prog w base spare held fuel 59 cs = some x) : ∃ a b : Int, cs = [.int .i64 a, .int .i64 b] := by
  obtain ⟨ys, n, _, _, _, hyl, hf⟩ := DataW.trod_array Try.underlying59 h
  have h0 := hf 0 (by decide)
  have h1 := hf 1 (by decide)
  rw [List.getElem?_eq_getElem (by omega)] at h0 h1
  match cs, hl with
  | [v0, v1], _ =>
    obtain ⟨x0, e0, _⟩ := DataW.trod_int Try.underlying3 h0
    obtain ⟨x1, e1, _⟩ := DataW.trod_int Try.underlying3 h1
    rw [cellsInt] at e0 e1
    simp only [Nat.zero_mul, Nat.one_mul, List.drop_zero, List.drop_succ_cons, List.take_succ_cons, List.take_zero, List.cons.injEq, and_true] at e0 e1
    exact ⟨x0, x1, by rw [e0, e1]⟩
set_option maxRecDepth 100000 in
theorem nexts_open {H : Type} {enc : TypeId × Value → H} {w : World} {fuel : Nat} {cs : List Value} {x : DataW H × List MemPlace}
    (h : DataW.trod enc Try.prog w 0 (fun _ => true) true fuel 22 cs = some x) : ∃ A n c zs, cs = [.slice A n c] ∧ R EN w A n c zs := by
  rcases Deep.open_slice Try.underlying22 h with ⟨hcs, _⟩ | ⟨ad, n, c, m, k, D, Pl, hcs, _, hl, hm, hmm, _, hx⟩
  · exact ⟨none, 0, 0, [], hcs, R.nil EN w⟩
  · have each : ∀ i, ∃ s : Int × Int, i < n → ∀ j, j < 2 → w.cell? (ad.add (i * 2 + j)) = (EN.enc s)[j]? := by
      intro i
      by_cases hi : i < n
      · obtain ⟨cs', h1, h2⟩ := hx i (by rw [hmm]; split <;> omega)
        rw [cellsArr2] at h1
        obtain ⟨_, hlen, hcell⟩ := World.cells?_some h1
        obtain ⟨x, y, rfl⟩ := arr2_cells hlen h2
        refine ⟨(x, y), fun _ j hj => ?_⟩
        have := hcell j hj
        rw [Go.Deep.add_add] at this
        exact this
      · exact ⟨(0, 0), fun h => absurd h hi⟩
    obtain ⟨f, hf⟩ := Classical.axiomOfChoice each
    refine ⟨some ad, n, c, (List.range n).map f, hcs, r_of_cells EN (by decide) hl hm (by simp) fun i hi j hj => ?_⟩
    have e : ((List.range n).map f).getD i EN.d = f i := by simp [List.getD_eq_getElem?_getD, hi]
    rw [e]
    exact hf i hi j hj
set_option maxRecDepth 100000 in
theorem box_open {H : Type} {enc : TypeId × Value → H} {W : World} {b0 : Nat} {v : Value} {d : DataW H} {p : List MemPlace} (hv : Value.okWide Try.prog W .any b0 25 v) (h : DataW.Trod enc Try.prog W 0 (fun _ => true) true 25 v d p) :
    ∃ A n c A' n' c' b, v = bV A n c A' n' c' ∧ BxR W A n c A' n' c' b := by
  obtain ⟨cs, rfl, hsz⟩ := okWide_struct Try.underlying25 hv
  rw [cellsBox] at hsz
  obtain ⟨l⟩ := cs
  match l, hsz with
  | [c0, c1], _ =>
  obtain ⟨fuel, hf⟩ := h
  obtain ⟨y0, y1, m, _, _, h0, h1⟩ := trod_struct2 Try.underlying25 hf
  obtain ⟨A, n, c, zs, e0, r0⟩ := nexts_open h0
  obtain ⟨A', n', c', zs', e1, r1⟩ := ints_open h1
  simp [Value.cells, cellsInts, cellsNexts] at e0 e1
  subst e0 e1
  exact ⟨A, n, c, A', n', c', (zs, zs'), rfl, ⟨r0, r1⟩⟩
theorem cellsTwo : Try.prog.cellsOf 49 = 2 := by kernel_rfl
set_option maxRecDepth 100000 in
theorem two_open {H : Type} {enc : TypeId × Value → H} {W : World} {b0 : Nat} {v : Value} {d : DataW H} {p : List MemPlace} (hv : Value.okWide Try.prog W .any b0 49 v) (h : DataW.Trod enc Try.prog W 0 (fun _ => true) true 49 v d p) :
    ∃ i k, v = .agg #[.int .i64 i, .int .i64 k] := by
  obtain ⟨cs, rfl, hsz⟩ := okWide_struct Try.underlying49 hv
  rw [cellsTwo] at hsz
  obtain ⟨l⟩ := cs
  match l, hsz with
  | [c0, c1], _ =>
  obtain ⟨fuel, hf⟩ := h
  obtain ⟨y0, y1, m, _, _, h0, h1⟩ := trod_struct2 Try.underlying49 hf
  obtain ⟨a, e0, _, _⟩ := DataW.trod_int Try.underlying3 h0
  obtain ⟨b, e1, _, _⟩ := DataW.trod_int Try.underlying3 h1
  simp [Value.cells, cellsInt] at e0 e1
  subst e0 e1
  exact ⟨a, b, rfl⟩
end Go.Proofs.Ytkjnhdkbojcojaa
