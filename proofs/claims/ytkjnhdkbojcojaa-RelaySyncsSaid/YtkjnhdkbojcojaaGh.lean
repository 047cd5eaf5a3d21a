/- Rows of words whose ends are known; tables of what was seen; append at a walk's step. -/
import Derived.Test.YtkjnhdkbojcojaaPl
import Derived.Test.YtkjnhdkbojcojaaApB
import Derived.Test.YtkjnhdkbojcojaaMW
namespace Go.Proofs.Ytkjnhdkbojcojaa
open Go.RowKit Go.Shelf

/-- Nodes that lie nowhere: a row of words alone. -/
def EG {α : Type} (d : α) : Enc α := { size := 0, enc := fun _ => [], len := fun _ => rfl, one := fun _ u h => (by cases h), d := d }
theorem cPlG {α : Type} {d : α} {w : World} {A : Option Addr} {n c b off : Nat} {xs : List (α × Hd)} (h : RAt (EPl (EG d)) w A n c xs b off) {k : Nat} (hk : k < n) : w.cell? ⟨b, off + k, none⟩ = some (.slice (xs.getD k (EPl (EG d)).d).2.1 (xs.getD k (EPl (EG d)).d).2.2.1 (xs.getD k (EPl (EG d)).d).2.2.2) := by
  have h1 := h.cell k hk 0 (show 0 < 1 by decide)
  rw [show k * (EPl (EG d)).size + 0 = k from Nat.mul_one k] at h1
  exact h1
theorem info_ints : (Try.prog.info? 23).map (fun i => (i.zero, i.size, i.bytes)) = some (some (.slice none 0 0), 1, 24) := by kernel_rfl
/-- Which pairs were seen. -/
def seenA (V : Pl (Nat × Nat)) : Array Value := ((List.range 36).map fun j => Value.bool (hasP V (j / 6, j % 6))).toArray
theorem seen_get (V : Pl (Nat × Nat)) {x y : Nat} (hx : x < 6) (hy : y < 6) : (seenA V)[x * 6 + y]? = some (.bool (hasP V (x, y))) := by
  have h1 : (x * 6 + y) / 6 = x := by omega
  have h2 : (x * 6 + y) % 6 = y := by omega
  unfold seenA
  rw [List.getElem?_toArray, List.getElem?_map, List.getElem?_range (by omega)]
  simp only [Option.map_some, h1, h2]
theorem seen_size (V : Pl (Nat × Nat)) : (seenA V).size = 36 := by simp [seenA]
theorem has_app {α : Type} [DecidableEq α] (V : Pl α) (x y : α) (w : List Int) : hasP (V ++ [(x, w)]) y = (hasP V y || decide (x = y)) := by
  simp [hasP, List.any_append]
theorem seen_put (V : Pl (Nat × Nat)) {x y : Nat} (hx : x < 6) (hy : y < 6) (w : List Int) : (seenA V).setIfInBounds (x * 6 + y) (.bool true) = seenA (V ++ [((x, y), w)]) := by
  apply Array.ext (by simp [seenA])
  intro i h1 h2
  have hi : i < 36 := by rw [seen_size] at h2; exact h2
  rw [Array.getElem_setIfInBounds (by simpa [seenA] using hi)]
  by_cases e : x * 6 + y = i
  · rw [if_pos e]
    subst e
    have h3 : (x * 6 + y) / 6 = x := by omega
    have h4 : (x * 6 + y) % 6 = y := by omega
    simp [seenA, h3, h4, has_app]
  · rw [if_neg e]
    have h3 : ¬ ((x, y) = (i / 6, i % 6)) := fun e2 => by
      injection e2 with e3 e4
      omega
    simp only [seenA, List.getElem_toArray, List.getElem_map, List.getElem_range, has_app, decide_eq_false h3, Bool.or_false]
theorem seen_nil : seenA [] = #[.bool false, .bool false, .bool false, .bool false, .bool false, .bool false, .bool false, .bool false, .bool false, .bool false, .bool false, .bool false, .bool false, .bool false, .bool false, .bool false, .bool false, .bool false, .bool false, .bool false, .bool false, .bool false, .bool false, .bool false, .bool false, .bool false, .bool false, .bool false, .bool false, .bool false, .bool false, .bool false, .bool false, .bool false, .bool false, .bool false] := rfl
section
variable {P : Program} {ops : Array Oper} {rest : List Oper} {o : Oper} {a : Act} {w : World} {Q : Exit → Act → World → Prop}
theorem wpList_of_step (hgd : o.guard = none) (h : if Region.wanted o (yielded ops a.tmps) = true then Oper.wp P o a w (wpList P ops Q rest) Q else True) : wpList P ops Q (o :: rest) a w := by
  have hw : Region.wanted o (yielded ops a.tmps) = true := by simp [Region.wanted, hgd]
  rw [if_pos hw] at h
  unfold wpList
  rw [if_pos hw]
  exact .inl h
end
section
variable {α : Type} {E : Enc α} {P : Program} (w : World) {ops : Array Oper} {rest : List Oper} {o : Oper} {a : Act} {Q : Exit → Act → World → Prop}
/-- out = append(out, xs...), xs any row. -/
theorem wpList_appG (z : Value) (bytes : Nat) (hgd : o.guard = none) (s x : Operand) (t e : TypeId) (ho : o.op = .call { callee := .builtin .append, args := #[s, x], argTypes := #[t, t] })
    (hu : P.underlying t = some (.slice e)) (hinfo : (P.info? e).map (fun i => (i.zero, i.size, i.bytes)) = some (some z, E.size, bytes)) (hz : z.cells.size = E.size) (hE : 0 < E.size) (hby : bytes ≤ 64)
    (B n c : Nat) (A : Option Addr) (l : List α) (A2 : Option Addr) (m c2 : Nat) (ys : List α) (hs : a.eval s = .slice A n c) (hx : a.eval x = .slice A2 m c2)
    (hown : Own E w B e A n c l) (hrow : R E w A2 m c2 ys) (hm2 : m ≤ 1000000) (hn : n ≤ 1000000) (hB : B ≤ w.heap.size)
    (h : ∀ A' c' w', Own E w' B e A' (n + m) c' (l ++ ys) → Below B w w' → w.grownBy w' (Value.slice A n c).ownBlock → (A' = A ∨ ∃ g', A' = some ⟨g', 0, none⟩ ∧ w.heap.size ≤ g') → wpList P ops Q rest (a.put o.dst (.slice A' (n + m) c')) w') :
    wpList P ops Q (o :: rest) a w :=
  wpList_of_step hgd (step_appG w z bytes hgd s x t e ho hu hinfo hz hE hby B n c A l A2 m c2 ys hs hx hown hrow hm2 hn hB h)
end
end Go.Proofs.Ytkjnhdkbojcojaa
