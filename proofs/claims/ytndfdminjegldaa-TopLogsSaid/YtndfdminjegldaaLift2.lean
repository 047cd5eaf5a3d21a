/- From how Go's data read to the walks' words: pairs, tables, costs. -/
import Derived.Test.YtndfdminjegldaaLift
import Derived.Test.YtndfdminjegldaaWalkR
namespace Go.Proofs.Ytndfdminjegldaa
open Go.ChangeShapes Go.WideShapes Go.ChangeAt Go.RowKit Go.Deep

theorem cellsPair : Try.prog.cellsOf 62 = 2 := by kernel_rfl
set_option maxRecDepth 100000 in
theorem pair_cells {H : Type} {enc : TypeId × Value → H} {w : World} {base fuel : Nat} {spare : Nat → Bool} {held : Bool} {cs : List Value} {x : DataW H × List MemPlace} (hl : cs.length = 2)
    (h : DataW.trod enc Try.prog w base spare held fuel 62 cs = some x) : ∃ a b : Int, cs = [.int .i64 a, .int .i64 b] := by
  obtain ⟨ys, n, _, _, _, hyl, hf⟩ := DataW.trod_struct Try.underlying62 h
  have hyl' : ys.length = 2 := hyl
  have h0 := hf 0 _ rfl
  have h1 := hf 1 _ rfl
  rw [List.getElem?_eq_getElem (by omega)] at h0 h1
  match cs, hl with
  | [v0, v1], _ =>
    obtain ⟨x0, e0, _⟩ := DataW.trod_int Try.underlying3 h0
    obtain ⟨x1, e1, _⟩ := DataW.trod_int Try.underlying3 h1
    replace e0 : List.take (Try.prog.cellsOf 3) (List.drop 0 [v0, v1]) = [.int .i64 x0] := e0
    replace e1 : List.take (Try.prog.cellsOf 3) (List.drop 1 [v0, v1]) = [.int .i64 x1] := e1
    rw [cellsInt] at e0 e1
    simp only [List.drop_zero, List.drop_succ_cons, List.take_succ_cons, List.take_zero, List.cons.injEq, and_true] at e0 e1
    exact ⟨x0, x1, by rw [e0, e1]⟩
set_option maxRecDepth 100000 in
theorem pairs_cells {H : Type} {enc : TypeId × Value → H} {w : World} {base fuel : Nat} {spare : Nat → Bool} {held : Bool} {a : Option Addr} {n c : Nat} {x : DataW H × List MemPlace}
    (h : DataW.trod enc Try.prog w base spare held fuel 27 (Value.slice a n c).cells.toList = some x) : ∃ zs, R EP w a n c zs := by
  rcases Deep.open_slice Try.underlying27 h with ⟨hcs, _⟩ | ⟨ad, len, cap, m, k, D, Pl, hcs, _, hl, hm, hmm, _, hx⟩
  · simp [Value.cells] at hcs
    obtain ⟨rfl, rfl, rfl⟩ := hcs
    exact ⟨[], R.nil EP w⟩
  · simp [Value.cells] at hcs
    obtain ⟨rfl, rfl, rfl⟩ := hcs
    have each : ∀ i, ∃ s : Pr, i < n → ∀ j, j < 2 → w.cell? (ad.add (i * 2 + j)) = (EP.enc s)[j]? := by
      intro i
      by_cases hi : i < n
      · obtain ⟨cs', h1, h2⟩ := hx i (by rw [hmm]; split <;> omega)
        rw [cellsPair] at h1
        obtain ⟨_, hlen, hcell⟩ := World.cells?_some h1
        obtain ⟨x, y, rfl⟩ := pair_cells hlen h2
        refine ⟨(x, y), fun _ j hj => ?_⟩
        have := hcell j hj
        rw [Go.Deep.add_add] at this
        exact this
      · exact ⟨(0, 0), fun h => absurd h hi⟩
    obtain ⟨f, hf⟩ := Classical.axiomOfChoice each
    refine ⟨(List.range n).map f, r_of_cells EP (by decide) hl hm (by simp) fun i hi j hj => ?_⟩
    have e : ((List.range n).map f).getD i EP.d = f i := by simp [List.getD_eq_getElem?_getD, hi]
    rw [e]
    exact hf i hi j hj
set_option maxRecDepth 100000 in
theorem pairs_open {H : Type} {enc : TypeId × Value → H} {W : World} {b0 : Nat} {v : Value} {d : DataW H} {p : List MemPlace} (hv : Value.okWide Try.prog W .any b0 27 v) (h : DataW.Trod enc Try.prog W 0 (fun _ => true) true 27 v d p) :
    ∃ A n c zs, v = .slice A n c ∧ R EP W A n c zs := by
  obtain ⟨a, l, c, rfl⟩ := okWide_slice Try.underlying27 hv
  obtain ⟨fuel, hf⟩ := h
  obtain ⟨zs, r⟩ := pairs_cells hf
  exact ⟨a, l, c, zs, rfl, r⟩
set_option maxRecDepth 100000 in
theorem costs_open1 {H : Type} {enc : TypeId × Value → H} {W : World} {b0 : Nat} {v : Value} {d : DataW H} {p : List MemPlace} (hv : Value.okWide Try.prog W .any b0 24 v) (h : DataW.Trod enc Try.prog W 0 (fun _ => true) true 24 v d p) :
    ∃ o i k, v = .agg #[.int .i64 o, .int .i64 i, .int .i64 k] := by
  obtain ⟨cs, rfl, hsz⟩ := okWide_struct Try.underlying24 hv
  rw [cellsCosts] at hsz
  obtain ⟨l⟩ := cs
  obtain ⟨fuel, hf⟩ := h
  obtain ⟨a, b, c, e⟩ := costs_open hf hsz
  have e' : l = [.int .i64 a, .int .i64 b, .int .i64 c] := e
  subst e'
  exact ⟨a, b, c, rfl⟩
/-- A table that comes in: a row of headers, each of which reads as a row. -/
def RR (w : World) (A : Option Addr) (n c : Nat) (L : List (List Int)) : Prop :=
  ∃ hs : List Hd, R EH w A n c hs ∧ L.length = n ∧ ∀ k, k < n → R E1 w (hs.getD k EH.d).1 (hs.getD k EH.d).2.1 (hs.getD k EH.d).2.2 (L.getD k [])
theorem RR.below {w w' : World} {A : Option Addr} {n c : Nat} {L : List (List Int)} (h : RR w A n c L) (hb : Below w.heap.size w w') : RR w' A n c L := by
  obtain ⟨hs, h1, h2, h3⟩ := h
  exact ⟨hs, h1.below hb (Nat.le_refl _), h2, fun k hk => (h3 k hk).below hb (Nat.le_refl _)⟩
theorem RR.drewN {w : World} {A : Option Addr} {n c : Nat} {L : List (List Int)} (h : RR w A n c L) (q : Nat) : RR (w.drewN q) A n c L := h.below (below_drewN (Below.refl _ _) q)
set_option maxRecDepth 100000 in
theorem table_cells {H : Type} {enc : TypeId × Value → H} {w : World} {fuel : Nat} {a : Option Addr} {n c : Nat} {x : DataW H × List MemPlace}
    (h : DataW.trod enc Try.prog w 0 (fun _ => true) true fuel 40 (Value.slice a n c).cells.toList = some x) : ∃ L, RR w a n c L := by
  rcases Deep.open_slice Try.underlying40 h with ⟨hcs, _⟩ | ⟨ad, len, cap, m, k, D, Pl, hcs, _, hl, hm, hmm, _, hx⟩
  · simp [Value.cells] at hcs
    obtain ⟨rfl, rfl, rfl⟩ := hcs
    exact ⟨[], [], R.nil EH w, rfl, fun k hk => by omega⟩
  · simp [Value.cells] at hcs
    obtain ⟨rfl, rfl, rfl⟩ := hcs
    have each : ∀ i, ∃ s : Hd × List Int, i < n → (∀ j, j < 1 → w.cell? (ad.add (i * 1 + j)) = (EH.enc s.1)[j]?) ∧ R E1 w s.1.1 s.1.2.1 s.1.2.2 s.2 := by
      intro i
      by_cases hi : i < n
      · obtain ⟨cs', h1, h2⟩ := hx i (by rw [hmm]; split <;> omega)
        rw [cellsInts] at h1
        obtain ⟨_, hlen, hcell⟩ := World.cells?_some h1
        obtain ⟨A', n', c', zs, rfl, hr⟩ := ints_open h2
        refine ⟨((A', n', c'), zs), fun _ => ⟨fun j hj => ?_, hr⟩⟩
        have := hcell j hj
        rw [Go.Deep.add_add] at this
        exact this
      · exact ⟨((none, 0, 0), []), fun h => absurd h hi⟩
    obtain ⟨f, hf⟩ := Classical.axiomOfChoice each
    refine ⟨(List.range n).map fun i => (f i).2, (List.range n).map fun i => (f i).1, r_of_cells EH (by decide) hl hm (by simp) fun i hi j hj => ?_, by simp, fun k hk => ?_⟩
    · have e : ((List.range n).map fun i => (f i).1).getD i EH.d = (f i).1 := by simp [List.getD_eq_getElem?_getD, hi]
      rw [e]
      exact (hf i hi).1 j hj
    · have e : ((List.range n).map fun i => (f i).1).getD k EH.d = (f k).1 := by simp [List.getD_eq_getElem?_getD, hk]
      have e2 : ((List.range n).map fun i => (f i).2).getD k [] = (f k).2 := by simp [List.getD_eq_getElem?_getD, hk]
      rw [e, e2]
      exact (hf k hk).2
set_option maxRecDepth 100000 in
theorem table_open {H : Type} {enc : TypeId × Value → H} {W : World} {b0 : Nat} {v : Value} {d : DataW H} {p : List MemPlace} (hv : Value.okWide Try.prog W .any b0 40 v) (h : DataW.Trod enc Try.prog W 0 (fun _ => true) true 40 v d p) :
    ∃ A n c L, v = .slice A n c ∧ RR W A n c L := by
  obtain ⟨a, l, c, rfl⟩ := okWide_slice Try.underlying40 hv
  obtain ⟨fuel, hf⟩ := h
  obtain ⟨L, r⟩ := table_cells hf
  exact ⟨a, l, c, L, rfl, r⟩
end Go.Proofs.Ytndfdminjegldaa
