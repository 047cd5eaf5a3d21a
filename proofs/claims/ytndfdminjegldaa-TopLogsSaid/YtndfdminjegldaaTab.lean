/- Tables whose rows lie in one block; new rows of any element of one cell. -/
import Derived.Test.YtndfdminjegldaaOwn
import Derived.Test.YtndfdminjegldaaMU
namespace Go.Proofs.Ytndfdminjegldaa
open Go.RowKit Go.Shelf

section
variable {α β : Type} {E : Enc α} {E' : Enc β} {w : World} {B B' n n' c c' p : Nat} {e e' : TypeId} {A : Option Addr} {l : List α} {l' : List β}
theorem own_ne (h : Own E w B e A n c l) (h' : Own E' w B' e' (some ⟨p, 0, none⟩) n' c' l') (hte : e' ≠ e) : (Value.slice A n c).ownBlock = none ∨ (Value.slice A n c).ownBlock ≠ some p := by
  rcases h.2.2 with ⟨hv, _⟩ | ⟨g, cap, cur, hv, _, hg, _⟩
  · simp at hv
    obtain ⟨h1, _⟩ := hv
    left
    rw [h1]
    rfl
  · right
    simp at hv
    obtain ⟨h1, _⟩ := hv
    rw [h1]
    intro e1
    simp [Value.ownBlock] at e1
    subst e1
    rcases h'.2.2 with ⟨hv', _⟩ | ⟨g', cap', cur', hv', _, hg', _⟩
    · simp at hv'
    · simp at hv'
      obtain ⟨h2, _⟩ := hv'
      subst h2
      rw [hg] at hg'
      cases hg'
      exact hte rfl
/-- What is stored to another row, of other elements, changes nothing. -/
theorem own_set_other (h : Own E w B e A n c l) (h' : Own E' w B' e' (some ⟨p, 0, none⟩) n' c' l') (hte : e' ≠ e) (i : Nat) (v : Value) : Own E (w.setCell ⟨p, i, none⟩ v) B e A n c l :=
  h.kept (row := some p) ⟨rfl, rfl, rfl, by simp, fun k _ hn => Below.heap_setCell w ⟨p, i, none⟩ v k (fun e => hn (by rw [e]))⟩ (own_ne h h' hte)
end
section
variable {α : Type} {E : Enc α} {rest : List Oper} {ops : Array Oper} {o : Oper} {a : Act} {Q : Exit → Act → World → Prop}
/-- make([]T, n), an element being one cell. -/
theorem wpList_mkE (w : World) (hgd : o.guard = none) (l c : Operand) (t e : TypeId) (hop : o.op = Op.makeSlice t l c) (hu : Try.prog.underlying t = some (.slice e)) (z : Value) (x0 : α) (bytes : Nat)
    (hinfo : (Try.prog.info? e).map (fun i => (i.zero, i.size, i.bytes)) = some (some z, 1, bytes)) (hby : bytes ≤ 64) (hE : E.size = 1) (hz : z.cells = #[z]) (hx : E.enc x0 = [z]) (B n : Nat) (hl : a.eval l = .int .i64 n) (hc : a.eval c = .int .i64 n)
    (hn : n ≤ 1000000) (hB : B ≤ w.heap.size)
    (h : ∀ w', Own E w' B e (some ⟨w.heap.size, 0, none⟩) n n (List.replicate n x0) → Below w.heap.size w w' → w.heap.size < w'.heap.size → wpList Try.prog ops Q rest (a.put o.dst (.slice (some ⟨w.heap.size, 0, none⟩) n n)) w') :
    wpList Try.prog ops Q (o :: rest) a w := by
  obtain ⟨i0, hi, hz0, hz1, hz2⟩ := info_parts hinfo
  have hnb : bytes * n ≤ 64 * n := Nat.mul_le_mul_right _ hby
  have hnb2 : n * bytes ≤ n * 64 := Nat.mul_le_mul_left _ hby
  refine wpList_make_full (P := Try.prog) w hgd l c t hop B e i0 z 1 hu hi hz0 hz1 .i64 .i64 n n n hl hc rfl rfl (by rw [hz2]; omega) (by unfold maxLen; omega) hB fun w' hown hg => ?_
  have e1 : (madeCells z.cells (n * 1)).toList = E.cells (List.replicate n x0) := by
    rw [Nat.mul_one, hz, toList_madeCells_one]
    clear hl hc hn h hown hnb hnb2
    induction n with
    | zero => rfl
    | succ n ih => simp [Enc.cells, hx, List.replicate_succ] at ih ⊢; exact ih
  rw [e1] at hown
  have ho : Own E w' B e (some ⟨w.heap.size, 0, none⟩) n n (List.replicate n x0) := ⟨by simp, by rw [hE]; exact hown⟩
  refine h w' ho ((Below.refl _ w).grown hg (Nat.le_refl _) fun k hk => by cases hk) ?_
  rcases ho.form with ⟨hh, _⟩ | ⟨g, hA, _, hlt, _⟩
  · cases hh
  · injection hA with hA; injection hA with hA; omega
end
theorem gtl {α : Type} {E : Enc α} {w : World} {B n c g : Nat} {e : TypeId} {L : List α} (h : Own E w B e (some ⟨g, 0, none⟩) n c L) : g < w.heap.size := by
  rcases h.form with ⟨hh, _⟩ | ⟨g', hA, _, hlt, _⟩
  · cases hh
  · injection hA with hA; injection hA with hA; omega
theorem gge {α : Type} {E : Enc α} {w : World} {B n c g : Nat} {e : TypeId} {L : List α} (h : Own E w B e (some ⟨g, 0, none⟩) n c L) : B ≤ g := by
  rcases h.form with ⟨hh, _⟩ | ⟨g', hA, hb, _⟩
  · cases hh
  · injection hA with hA; injection hA with hA; omega
theorem getD_set_pos {α : Type} {l : List α} {i j : Nat} {a b : α} (h : j < l.length) : (l.set j a).getD i b = if i = j then a else l.getD i b := by
  rw [List.getD_eq_getElem?_getD, List.getD_eq_getElem?_getD, List.getElem?_set]
  by_cases e : j = i
  · subst e; simp [h]
  · rw [if_neg e, if_neg (fun h => e h.symm)]
/-- The header of a row. -/
def hdr (gC C k : Nat) : Hd := (some ⟨gC, k * C, none⟩, C, C)
def hdrs (gC R C : Nat) : List Hd := (List.range R).map (hdr gC C)
theorem hdrs_len (gC R C : Nat) : (hdrs gC R C).length = R := by simp [hdrs]
theorem hdrs_at {gC R C k : Nat} (h : k < R) : (hdrs gC R C).getD k EH.d = hdr gC C k := by
  rw [List.getD_eq_getElem?_getD]; simp [hdrs, h]
theorem idx_lt {R C r k : Nat} (hr : r < R) (hk : k < C) : r * C + k < R * C := by
  have : (r + 1) * C ≤ R * C := Nat.mul_le_mul_right _ hr
  rw [Nat.add_mul] at this
  omega
theorem idx_inj {C r k r' k' : Nat} (hk : k < C) (hk' : k' < C) (h : r * C + k = r' * C + k') : r = r' ∧ k = k' := by
  have h1 : (r * C + k) / C = r := by rw [Nat.mul_comm, Nat.mul_add_div (by omega), Nat.div_eq_of_lt hk, Nat.add_zero]
  have h2 : (r' * C + k') / C = r' := by rw [Nat.mul_comm, Nat.mul_add_div (by omega), Nat.div_eq_of_lt hk', Nat.add_zero]
  have : r = r' := by rw [← h1, ← h2, h]
  subst this
  exact ⟨rfl, by omega⟩
/-- A table of R rows of C numbers, of our own. -/
structure Tab (w : World) (B gO gC R C : Nat) (L : List Int) : Prop where
  hd : Own EH w B 22 (some ⟨gO, 0, none⟩) R R (hdrs gC R C)
  ce : Own E1 w B 3 (some ⟨gC, 0, none⟩) (R * C) (R * C) L
theorem ownH {w : World} {B n c g : Nat} {e : TypeId} {L : List Hd} (h : Own EH w B e (some ⟨g, 0, none⟩) n c L) {k : Nat} (hk : k < n) : w.cell? ⟨g, k, none⟩ = some (.slice (L.getD k EH.d).1 (L.getD k EH.d).2.1 (L.getD k EH.d).2.2) := by
  have h1 := h.cell (j := 0) hk (by decide)
  rw [show k * EH.size + 0 = k from Nat.mul_one k] at h1
  exact h1
section
variable {w w' : World} {B gO gC R C : Nat} {L : List Int}
theorem Tab.below (h : Tab w B gO gC R C L) {B' : Nat} (hb : Below B' w w') (hB : w.heap.size ≤ B') : Tab w' B gO gC R C L := ⟨h.hd.below hb hB, h.ce.below hb hB⟩
theorem Tab.drew (h : Tab w B gO gC R C L) : Tab w.drew B gO gC R C L := ⟨h.hd.drew, h.ce.drew⟩
theorem Tab.drewN (h : Tab w B gO gC R C L) (k : Nat) : Tab (w.drewN k) B gO gC R C L := ⟨h.hd.drewN k, h.ce.drewN k⟩
theorem Tab.more (h : Tab w B gO gC R C L) {B' : Nat} (hB : B' ≤ B) : Tab w B' gO gC R C L := ⟨h.hd.more hB, h.ce.more hB⟩
theorem Tab.set (h : Tab w B gO gC R C L) {k : Nat} (hk : k < R * C) (a : Int) : Tab (w.setCell ⟨gC, k, none⟩ (.int .i64 a)) B gO gC R C (L.set k a) :=
  ⟨own_set_other h.hd h.ce (by decide) _ _, h.ce.stored1 hk a⟩
theorem Tab.head (h : Tab w B gO gC R C L) {r : Nat} (hr : r < R) : w.cell? ⟨gO, r, none⟩ = some (.slice (some ⟨gC, r * C, none⟩) C C) := by
  have := ownH h.hd hr
  rwa [hdrs_at hr] at this
theorem Tab.cell (h : Tab w B gO gC R C L) {r k : Nat} (hr : r < R) (hk : k < C) : w.cell? ⟨gC, r * C + k, none⟩ = some (.int .i64 (L.getD (r * C + k) 0)) := own1 h.ce (idx_lt hr hk)
theorem Tab.len (h : Tab w B gO gC R C L) : L.length = R * C := h.ce.len
theorem Tab.gO_lt (h : Tab w B gO gC R C L) : gO < w.heap.size := gtl h.hd
theorem Tab.gC_lt (h : Tab w B gO gC R C L) : gC < w.heap.size := gtl h.ce
theorem Tab.gC_ge (h : Tab w B gO gC R C L) : B ≤ gC := gge h.ce
def rowL (L : List Int) (C r : Nat) : List Int := (List.range C).map fun k => L.getD (r * C + k) 0
theorem rowL_len (L : List Int) (C r : Nat) : (rowL L C r).length = C := by simp [rowL]
theorem rowL_at {L : List Int} {C r k : Nat} (h : k < C) : (rowL L C r).getD k 0 = L.getD (r * C + k) 0 := by
  rw [List.getD_eq_getElem?_getD]; simp [rowL, h]
theorem Tab.row (h : Tab w B gO gC R C L) {r : Nat} (hr : r < R) (hC : C ≤ 9223372036854775807) : Go.Proofs.Ytndfdminjegldaa.R E1 w (some ⟨gC, r * C, none⟩) C C (rowL L C r) := by
  refine ⟨gC, r * C, rowL_len _ _ _, Nat.le_refl _, hC, fun _ => rfl, fun _ => h.gC_lt, fun k hk j hj => ?_⟩
  have hj0 : j = 0 := by
    have : E1.size = 1 := rfl
    omega
  subst hj0
  rw [show r * C + (k * E1.size + 0) = r * C + k from by rw [show k * E1.size + 0 = k from Nat.mul_one k], h.cell hr hk]
  have : (rowL L C r).getD k E1.d = L.getD (r * C + k) 0 := rowL_at hk
  rw [this]
  rfl
theorem set_at {L : List Int} (hl : L.length = R * C) {r k r' k' : Nat} (hr : r < R) (hk : k < C) (hk' : k' < C) (a : Int) : (L.set (r * C + k) a).getD (r' * C + k') 0 = if r' = r ∧ k' = k then a else L.getD (r' * C + k') 0 := by
  rw [getD_set_pos (by rw [hl]; exact idx_lt hr hk)]
  by_cases e : r' = r ∧ k' = k
  · obtain ⟨rfl, rfl⟩ := e
    rw [if_pos rfl, if_pos ⟨rfl, rfl⟩]
  · rw [if_neg e, if_neg (fun h => e (idx_inj hk' hk h))]
end
end Go.Proofs.Ytndfdminjegldaa
