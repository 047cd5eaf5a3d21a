/- New rows of any element of one cell; rows of different elements lie apart. -/
import Derived.Test.YtkjnhdkbojcojaaOwn
namespace Go.Proofs.Ytkjnhdkbojcojaa
open Go.RowKit Go.Shelf

section
variable {α β : Type} {E : Enc α} {E' : Enc β} {w : World} {B B' n n' c c' p : Nat} {e e' : TypeId} {A : Option Addr} {l : List α} {l' : List β}
theorem own_ne (h : Own E w B e A n c l) (h' : Own E' w B' e' (some ⟨p, 0, none⟩) n' c' l') (hte : e' ≠ e) : (Value.slice A n c).ownBlock = none ∨ (Value.slice A n c).ownBlock ≠ some p := by
  rcases h.2.2 with ⟨hv, _⟩ | ⟨g, cap, cur, hv, _, hg, _⟩
  · simp at hv
    obtain ⟨h1, _⟩ := hv
    left
    rw [h1]
    rfl
  · right
    simp at hv
    obtain ⟨h1, _⟩ := hv
    rw [h1]
    intro e1
    simp [Value.ownBlock] at e1
    subst e1
    rcases h'.2.2 with ⟨hv', _⟩ | ⟨g', cap', cur', hv', _, hg', _⟩
    · simp at hv'
    · simp at hv'
      obtain ⟨h2, _⟩ := hv'
      subst h2
      rw [hg] at hg'
      cases hg'
      exact hte rfl
/-- What is stored to another row, of other elements, changes nothing. -/
theorem own_set_other (h : Own E w B e A n c l) (h' : Own E' w B' e' (some ⟨p, 0, none⟩) n' c' l') (hte : e' ≠ e) (i : Nat) (v : Value) : Own E (w.setCell ⟨p, i, none⟩ v) B e A n c l :=
  h.kept (row := some p) ⟨rfl, rfl, rfl, by simp, fun k _ hn => Below.heap_setCell w ⟨p, i, none⟩ v k (fun e => hn (by rw [e]))⟩ (own_ne h h' hte)
end
section
variable {α : Type} {E : Enc α} {rest : List Oper} {ops : Array Oper} {o : Oper} {a : Act} {Q : Exit → Act → World → Prop}
/-- make([]T, n), an element being one cell. -/
theorem wpList_mkE (w : World) (hgd : o.guard = none) (l c : Operand) (t e : TypeId) (hop : o.op = Op.makeSlice t l c) (hu : Try.prog.underlying t = some (.slice e)) (z : Value) (x0 : α) (bytes : Nat)
    (hinfo : (Try.prog.info? e).map (fun i => (i.zero, i.size, i.bytes)) = some (some z, 1, bytes)) (hby : bytes ≤ 64) (hE : E.size = 1) (hz : z.cells = #[z]) (hx : E.enc x0 = [z]) (B n : Nat) (hl : a.eval l = .int .i64 n) (hc : a.eval c = .int .i64 n)
    (hn : n ≤ 1000000) (hB : B ≤ w.heap.size)
    (h : ∀ w', Own E w' B e (some ⟨w.heap.size, 0, none⟩) n n (List.replicate n x0) → Below w.heap.size w w' → w.heap.size < w'.heap.size → wpList Try.prog ops Q rest (a.put o.dst (.slice (some ⟨w.heap.size, 0, none⟩) n n)) w') :
    wpList Try.prog ops Q (o :: rest) a w := by
  obtain ⟨i0, hi, hz0, hz1, hz2⟩ := info_parts hinfo
  have hnb : bytes * n ≤ 64 * n := Nat.mul_le_mul_right _ hby
  have hnb2 : n * bytes ≤ n * 64 := Nat.mul_le_mul_left _ hby
  refine wpList_make_full (P := Try.prog) w hgd l c t hop B e i0 z 1 hu hi hz0 hz1 .i64 .i64 n n n hl hc rfl rfl (by rw [hz2]; omega) (by unfold maxLen; omega) hB fun w' hown hg => ?_
  have e1 : (madeCells z.cells (n * 1)).toList = E.cells (List.replicate n x0) := by
    rw [Nat.mul_one, hz, toList_madeCells_one]
    clear hl hc hn h hown hnb hnb2
    induction n with
    | zero => rfl
    | succ n ih => simp [Enc.cells, hx, List.replicate_succ] at ih ⊢; exact ih
  rw [e1] at hown
  have ho : Own E w' B e (some ⟨w.heap.size, 0, none⟩) n n (List.replicate n x0) := ⟨by simp, by rw [hE]; exact hown⟩
  refine h w' ho ((Below.refl _ w).grown hg (Nat.le_refl _) fun k hk => by cases hk) ?_
  rcases ho.form with ⟨hh, _⟩ | ⟨g, hA, _, hlt, _⟩
  · cases hh
  · injection hA with hA; injection hA with hA; omega
end
theorem gtl {α : Type} {E : Enc α} {w : World} {B n c g : Nat} {e : TypeId} {L : List α} (h : Own E w B e (some ⟨g, 0, none⟩) n c L) : g < w.heap.size := by
  rcases h.form with ⟨hh, _⟩ | ⟨g', hA, _, hlt, _⟩
  · cases hh
  · injection hA with hA; injection hA with hA; omega
theorem gge {α : Type} {E : Enc α} {w : World} {B n c g : Nat} {e : TypeId} {L : List α} (h : Own E w B e (some ⟨g, 0, none⟩) n c L) : B ≤ g := by
  rcases h.form with ⟨hh, _⟩ | ⟨g', hA, hb, _⟩
  · cases hh
  · injection hA with hA; injection hA with hA; omega
theorem getD_set_pos {α : Type} {l : List α} {i j : Nat} {a b : α} (h : j < l.length) : (l.set j a).getD i b = if i = j then a else l.getD i b := by
  rw [List.getD_eq_getElem?_getD, List.getD_eq_getElem?_getD, List.getElem?_set]
  by_cases e : j = i
  · subst e; simp [h]
  · rw [if_neg e, if_neg (fun h => e h.symm)]
end Go.Proofs.Ytkjnhdkbojcojaa
