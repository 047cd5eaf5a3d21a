/- Rows of elements of several cells each, whatever the element: how they are read, owned, appended to and stored into; plain lemmas, no program. -/
import Derived.Test.YtkjnhdkbojcojaaRows
import Derived.WalkKit
import Derived.WalkSpells
import Derived.WalkLawsBesides
import Derived.Below
import Derived.Deep.QuietTactic
import Derived.BigQuiet
import Derived.Lib.Hide
import Derived.OwnWalk
import Derived.Laws.AppendOwn
import Derived.Laws.MakeOwn
import Derived.Laws.OwnMore
import Derived.Laws.Rows
import Derived.Deep.Draws
namespace Go.Proofs.Ytkjnhdkbojcojaa
open Go.RowKit

theorem hide {p : Prop} (h : p) : Hid p := h

/-- How an element lies in cells. -/
structure Enc (α : Type) where
  size : Nat
  enc : α → List Value
  len : ∀ x, (enc x).length = size
  one : ∀ x, ∀ u ∈ enc x, u.oneCell' = true
  d : α
section
variable {α : Type} (E : Enc α)
def Enc.cells (l : List α) : List Value := l.flatMap E.enc
theorem Enc.cells_len (l : List α) : (E.cells l).length = l.length * E.size := by
  induction l with
  | nil => simp [Enc.cells]
  | cons x l ih =>
    have := E.len x
    simp only [Enc.cells, List.flatMap_cons, List.length_append, List.length_cons] at ih ⊢
    rw [ih, this, Nat.add_mul]
    omega
theorem Enc.cells_app (l m : List α) : E.cells (l ++ m) = E.cells l ++ E.cells m := by simp [Enc.cells]
theorem Enc.cells_one (l : List α) : ∀ u ∈ E.cells l, u.oneCell' = true := by
  intro u hu
  obtain ⟨r, _, h⟩ := List.mem_flatMap.1 hu
  exact E.one r u h
theorem Enc.cells_get : ∀ (l : List α) {k j : Nat}, k < l.length → j < E.size → (E.cells l)[k * E.size + j]? = (E.enc (l.getD k E.d))[j]?
  | x :: l, 0, j, _, hj => by
    have := E.len x
    simp only [Enc.cells, List.flatMap_cons, Nat.zero_mul, Nat.zero_add]
    rw [List.getElem?_append_left (by omega)]
    simp
  | x :: l, k + 1, j, h, hj => by
    have h1 := E.len x
    have ih := Enc.cells_get l (k := k) (j := j) (by simpa using h) hj
    simp only [Enc.cells, List.flatMap_cons] at ih ⊢
    rw [List.getElem?_append_right (by rw [h1, Nat.add_mul]; omega), h1, Nat.add_mul, show k * E.size + 1 * E.size + j - E.size = k * E.size + j by omega, ih]
    simp
theorem Enc.cells_set : ∀ (l : List α) (k j : Nat) (v : Value) (y : α), k < l.length → j < E.size → E.enc y = (E.enc (l.getD k E.d)).set j v → (E.cells l).set (k * E.size + j) v = E.cells (l.set k y)
  | x :: l, 0, j, v, y, _, hj, he => by
    have := E.len x
    simp only [Enc.cells, List.flatMap_cons, List.set_cons_zero, Nat.zero_mul, Nat.zero_add]
    rw [List.set_append_left _ _ (by omega), he]
    simp
  | x :: l, k + 1, j, v, y, h, hj, he => by
    have h1 := E.len x
    have ih := Enc.cells_set l k j v y (by simpa using h) hj (by simpa using he)
    simp only [Enc.cells, List.flatMap_cons, List.set_cons_succ] at ih ⊢
    rw [List.set_append_right _ _ (by rw [h1, Nat.add_mul]; omega), h1, Nat.add_mul, show k * E.size + 1 * E.size + j - E.size = k * E.size + j by omega, ih]

/-- The slice value '.slice A n c' reads as xs; b, off say where it lies (they mean nothing where it is empty). -/
structure RAt (w : World) (A : Option Addr) (n c : Nat) (xs : List α) (b off : Nat) : Prop where
  len : xs.length = n
  cap : n ≤ c
  max : c ≤ 9223372036854775807
  at_ : 0 < n → A = some ⟨b, off, none⟩
  lt : 0 < n → b < w.heap.size
  cell : ∀ k, k < n → ∀ j, j < E.size → w.cell? ⟨b, off + (k * E.size + j), none⟩ = (E.enc (xs.getD k E.d))[j]?
def R (w : World) (A : Option Addr) (n c : Nat) (xs : List α) : Prop := ∃ b off, RAt E w A n c xs b off
variable {E} {w w' : World} {A : Option Addr} {n c b off : Nat} {xs l : List α}
theorem R.length (h : R E w A n c xs) : xs.length = n := by
  obtain ⟨b, off, h⟩ := h
  exact h.len
theorem RAt.below {B : Nat} (h : RAt E w A n c xs b off) (hb : Below B w w') (hB : w.heap.size ≤ B) : RAt E w' A n c xs b off := by
  refine ⟨h.len, h.cap, h.max, h.at_, fun hn => Nat.lt_of_lt_of_le (h.lt hn) hb.size, fun k hk j hj => ?_⟩
  rw [hb.cell (p := ⟨b, off + (k * E.size + j), none⟩) (Nat.lt_of_lt_of_le (h.lt (by omega)) hB)]
  exact h.cell k hk j hj
theorem R.below {B : Nat} (h : R E w A n c xs) (hb : Below B w w') (hB : w.heap.size ≤ B) : R E w' A n c xs := by
  obtain ⟨b, off, h⟩ := h
  exact ⟨b, off, h.below hb hB⟩
/-- The row lies below B: then it is kept by whatever keeps what is below B. -/
theorem RAt.under {B : Nat} (h : RAt E w A n c xs b off) (hb : Below B w w') (hB : 0 < n → b < B) : RAt E w' A n c xs b off := by
  refine ⟨h.len, h.cap, h.max, h.at_, fun hn => Nat.lt_of_lt_of_le (h.lt hn) hb.size, fun k hk j hj => ?_⟩
  rw [hb.cell (p := ⟨b, off + (k * E.size + j), none⟩) (hB (by omega))]
  exact h.cell k hk j hj
theorem R.nil (E : Enc α) (w : World) : R E w none 0 0 [] := ⟨0, 0, rfl, by omega, by omega, fun h => by omega, fun h => by omega, fun k hk => by omega⟩
theorem RAt.sub (h : RAt E w A n c xs b off) {i m : Nat} (hi : i + m ≤ n) : R E w (some ⟨b, off + i * E.size, none⟩) m (c - i) ((xs.drop i).take m) := by
  have h1 := h.len; have h2 := h.cap; have h3 := h.max
  refine ⟨b, off + i * E.size, by rw [List.length_take, List.length_drop]; omega, by omega, by omega, fun _ => rfl, fun h' => h.lt (by omega), fun k hk j hj => ?_⟩
  have := h.cell (i + k) (by omega) j hj
  rw [show off + i * E.size + (k * E.size + j) = off + ((i + k) * E.size + j) by rw [Nat.add_mul]; omega]
  have e : ((xs.drop i).take m).getD k E.d = xs.getD (i + k) E.d := by simp [List.getD_eq_getElem?_getD, hk]
  rw [e]
  exact this

/-- The slice value owns its row, from block B on, and holds l. -/
def Own (E : Enc α) (w : World) (B : Nat) (e : TypeId) (A : Option Addr) (n c : Nat) (l : List α) : Prop := l.length = n ∧ w.ownsRow B e E.size (.slice A n c) n (E.cells l)
variable {B : Nat} {e : TypeId}
theorem Own.len (h : Own E w B e A n c l) : l.length = n := h.1
theorem Own.nil (E : Enc α) (w : World) (B : Nat) (e : TypeId) : Own E w B e none 0 0 [] := ⟨rfl, World.ownsRow_nil w B e E.size⟩
theorem Own.form (h : Own E w B e A n c l) : (A = none ∧ n = 0 ∧ c = 0 ∧ l = []) ∨ ∃ g, A = some ⟨g, 0, none⟩ ∧ B ≤ g ∧ g < w.heap.size ∧ n ≤ c ∧ c ≤ maxLen := by
  have hl := h.len
  rcases h.2.2 with ⟨hv, hn⟩ | ⟨g, cap, cur, hv, hb, hg, hnc, hcm, _⟩
  · simp at hv
    obtain ⟨rfl, rfl, rfl⟩ := hv
    exact .inl ⟨rfl, rfl, rfl, List.eq_nil_of_length_eq_zero hl⟩
  · simp at hv
    obtain ⟨rfl, rfl⟩ := hv
    exact .inr ⟨g, rfl, hb, (Array.getElem?_eq_some_iff.1 hg).1, hnc, hcm⟩
theorem Own.cell {g : Nat} (h : Own E w B e (some ⟨g, 0, none⟩) n c l) {k j : Nat} (hk : k < n) (hj : j < E.size) : w.cell? ⟨g, k * E.size + j, none⟩ = (E.enc (l.getD k E.d))[j]? := by
  have hl := h.len
  have e1 := World.ownsRow.cellAt h.2 (k * E.size + j) (by
    have : (k + 1) * E.size ≤ n * E.size := Nat.mul_le_mul_right _ hk
    rw [Nat.add_mul] at this
    omega)
  exact e1.trans (E.cells_get l (by omega) hj)
theorem Own.frozen {g : Nat} (h : Own E w B e (some ⟨g, 0, none⟩) n c l) (k : Nat) : w.frozen? ⟨g, k, none⟩ = false := World.ownsRow.frozenAt h.2 k
theorem Own.rowAt {g : Nat} (h : Own E w B e (some ⟨g, 0, none⟩) n c l) : RAt E w (some ⟨g, 0, none⟩) n c l g 0 := by
  rcases h.form with ⟨hh, _⟩ | ⟨g', hA, _, hlt, hnc', hcm'⟩
  · cases hh
  · injection hA with hA
    injection hA with hA
    subst hA
    exact ⟨h.len, hnc', hcm', fun _ => rfl, fun _ => hlt, fun k hk j hj => by rw [Nat.zero_add]; exact h.cell hk hj⟩
theorem Own.row (h : Own E w B e A n c l) : R E w A n c l := by
  rcases h.form with ⟨rfl, rfl, rfl, rfl⟩ | ⟨g, rfl, _, hlt, hnc', hcm'⟩
  · exact ⟨0, 0, rfl, by omega, by omega, fun h => by omega, fun h => by omega, fun k hk => by omega⟩
  · exact ⟨g, 0, h.rowAt⟩
theorem Own.kept (h : Own E w B e A n c l) {row : Option Nat} (hg : w.grownBy w' row) (hne : (Value.slice A n c).ownBlock = none ∨ (Value.slice A n c).ownBlock ≠ row) : Own E w' B e A n c l :=
  ⟨h.1, World.ownsRow.kept h.2 hg hne⟩
theorem grown_of_below {B : Nat} (h : Below B w w') (hB : w.heap.size ≤ B) (row : Option Nat) : w.grownBy w' row :=
  ⟨h.os, h.tape, h.output, h.size, fun k hk _ => h.block k (by omega)⟩
theorem Own.below (h : Own E w B e A n c l) {B' : Nat} (hb : Below B' w w') (hB : w.heap.size ≤ B') : Own E w' B e A n c l :=
  h.kept (grown_of_below hb hB none) (by cases hv : (Value.slice A n c).ownBlock <;> simp)
theorem Own.alloc (h : Own E w B e A n c l) (o : Obj) : Own E (w.alloc o) B e A n c l := ⟨h.1, World.ownsRow.alloc h.2 o⟩
theorem Own.drew (h : Own E w B e A n c l) : Own E w.drew B e A n c l := h
theorem Own.drewN (h : Own E w B e A n c l) (k : Nat) : Own E (w.drewN k) B e A n c l := h
theorem Own.more (h : Own E w B e A n c l) {B' : Nat} (hB : B' ≤ B) : Own E w B' e A n c l := by
  refine ⟨h.1, h.2.1, ?_⟩
  rcases h.2.2 with h2 | ⟨g, cap, cur, hv, hb, r⟩
  · exact .inl h2
  · exact .inr ⟨g, cap, cur, hv, by omega, r⟩
theorem Own.stored {g : Nat} (h : Own E w B e (some ⟨g, 0, none⟩) n c l) {k j : Nat} (hk : k < n) (hj : j < E.size) (v : Value) (y : α) (he : E.enc y = (E.enc (l.getD k E.d)).set j v) :
    Own E (w.setCell ⟨g, k * E.size + j, none⟩ v) B e (some ⟨g, 0, none⟩) n c (l.set k y) := by
  have hl := h.len
  have e1 := (World.ownsRow.stored h.2 (k * E.size + j) v).1
  rw [E.cells_set l k j v y (by omega) hj he] at e1
  exact ⟨by rw [List.length_set]; exact hl, e1⟩
theorem Own.lit (w : World) (l : List α) (hB : B ≤ w.heap.size) (hl : l.length ≤ maxLen) : Own E (w.alloc (.cells (E.cells l).toArray e)) B e (some ⟨w.heap.size, 0, none⟩) l.length l.length l := by
  have e1 := World.ownsRow_lit (w := w) (base := B) (e := e) (size := E.size) (E.cells l).toArray l.length hB hl (by simp [E.cells_len])
  exact ⟨rfl, by simpa using e1⟩
end

section
variable {α : Type} {E : Enc α} {P : Program} (w : World) {ops : Array Oper} {rest : List Oper} {o : Oper} {a : Act} {Q : Exit → Act → World → Prop}

/-- out = append(out, x): x lies in a new block of its own. -/
theorem wpList_app1 (z : Value) (bytes : Nat) (hgd : o.guard = none) (s x : Operand) (t e : TypeId) (ho : o.op = .call { callee := .builtin .append, args := #[s, x], argTypes := #[t, t] })
    (hu : P.underlying t = some (.slice e)) (hinfo : (P.info? e).map (fun i => (i.zero, i.size, i.bytes)) = some (some z, E.size, bytes)) (hz : z.cells.size = E.size) (hE : 0 < E.size) (hby : bytes ≤ 64)
    (B n c : Nat) (A : Option Addr) (l : List α) (y : α) (cs : Array Value) (hcs : cs = (E.enc y).toArray) (hs : a.eval s = .slice A n c) (hx : a.eval x = .slice (some ⟨w.heap.size, 0, none⟩) 1 1)
    (hown : Own E w B e A n c l) (hn : n ≤ 1000000) (hB : B ≤ w.heap.size)
    (h : ∀ A' c' w', Own E w' B e A' (n + 1) c' (l ++ [y]) → Below B w w' → w.grownBy w' (Value.slice A n c).ownBlock → wpList P ops Q rest (a.put o.dst (.slice A' (n + 1) c')) w') :
    wpList P ops Q (o :: rest) a (w.alloc (.cells cs e)) := by
  subst hcs
  obtain ⟨i0, hi, hz0, hz1, hz2⟩ := info_parts hinfo
  have hlen := E.len y
  refine wpList_append_own (P := P) _ hgd s x t ho B e i0 z E.size bytes hu hi hz0 hz1 hz2 hz hE _ n (E.cells l) hs (World.ownsRow.alloc hown.2 _)
    ⟨w.heap.size, 0, none⟩ 1 1 (E.enc y) hx (by omega) ?_ (E.one y) (by unfold maxLen; omega) ?_ (by simp; omega) ?_
  · intro j u hu
    have hcell : (w.alloc (.cells (E.enc y).toArray e)).cell? ⟨w.heap.size, j, none⟩ = (E.enc y).toArray[j]? := cell_of_row _ _ j _ e (0, 0) (heap_alloc_new w _)
    have hadd : (⟨w.heap.size, 0, none⟩ : Addr).add j = ⟨w.heap.size, j, none⟩ := by unfold Addr.add; split <;> simp_all
    rw [hadd, hcell]
    simpa using hu
  · have : (n + 1) * bytes ≤ (n + 1) * 64 := Nat.mul_le_mul_left _ hby
    omega
  · intro v' w' hown' hg _
    have hown2 : w'.ownsRow B e E.size v' (n + 1) (E.cells (l ++ [y])) := by
      rw [E.cells_app]
      have e1 : E.cells [y] = E.enc y := by simp [Enc.cells]
      rw [e1]
      exact hown'
    have hg2 : w.grownBy w' (Value.slice A n c).ownBlock :=
      ⟨hg.os, hg.tape, hg.output, Nat.le_trans (by simp) hg.size, fun k hk hne => (hg.block k (by simp; omega) hne).trans (Below.heap_alloc w _ k hk)⟩
    have hv : ∃ A' c', v' = .slice A' (n + 1) c' := by
      rcases hown2.2 with ⟨_, hn0⟩ | ⟨g, cap, cur, hv, _⟩
      · omega
      · exact ⟨_, _, hv⟩
    obtain ⟨A', c', rfl⟩ := hv
    have hl := hown.len
    refine h A' c' w' ⟨by simp [hl], hown2⟩ ((Below.refl B w).grown hg2 hB fun k hk => ?_) hg2
    rcases hown.form with ⟨rfl, _⟩ | ⟨g, rfl, hbg, _⟩
    · simp [Value.ownBlock] at hk
    · simp [Value.ownBlock] at hk; omega
end
end Go.Proofs.Ytkjnhdkbojcojaa
