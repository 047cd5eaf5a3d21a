/- Slices of pairs of integers that a call made itself: what they hold, how they are kept, and the laws on append, make and store in that form. -/
import Derived.Test.YtlmmkaadoicogaaWalkD
import Derived.OwnWalk
import Derived.Laws.AppendOwn
import Derived.Laws.OwnMore
namespace Go.Proofs.Ytlmmkaadoicogaa
open Go.RowKit

/-- The cells of pairs. -/
def cells2 (l : Rd) : List Value := l.flatMap fun r => [.int .i64 r.1, .int .i64 r.2]
theorem cells2_len (l : Rd) : (cells2 l).length = l.length * 2 := by
  induction l with
  | nil => rfl
  | cons r l ih =>
    simp only [cells2, List.flatMap_cons, List.length_append, List.length_cons, List.length_nil] at ih ⊢
    omega
theorem cells2_app (l m : Rd) : cells2 (l ++ m) = cells2 l ++ cells2 m := by simp [cells2]
theorem cells2_get : ∀ (l : Rd) {k : Nat}, k < l.length → (cells2 l)[k * 2]? = some (.int .i64 (l.getD k (0, 0)).1) ∧ (cells2 l)[k * 2 + 1]? = some (.int .i64 (l.getD k (0, 0)).2)
  | r :: l, 0, _ => by simp [cells2]
  | r :: l, k + 1, h => by
    have := cells2_get l (k := k) (by simpa using h)
    rw [show (k + 1) * 2 = k * 2 + 2 by omega]
    simpa [cells2] using this
theorem cells2_one (l : Rd) : ∀ u ∈ cells2 l, u.oneCell' = true := by
  intro u hu
  obtain ⟨r, _, h⟩ := List.mem_flatMap.1 hu
  simp at h
  rcases h with rfl | rfl <;> rfl
theorem cells2_set : ∀ (l : Rd) (k : Nat) (x y : Int), k < l.length → ((cells2 l).set (k * 2) (.int .i64 x)).set (k * 2 + 1) (.int .i64 y) = cells2 (l.set k (x, y))
  | r :: l, 0, x, y, _ => by simp [cells2]
  | r :: l, k + 1, x, y, h => by
    have := cells2_set l k x y (by simpa using h)
    rw [show (k + 1) * 2 = k * 2 + 2 by omega]
    simpa [cells2] using this
theorem cells2_set1 : ∀ (l : Rd) (k : Nat) (x : Int), k < l.length → (cells2 l).set (k * 2) (.int .i64 x) = cells2 (l.set k (x, (l.getD k (0, 0)).2))
  | r :: l, 0, x, _ => by simp [cells2]
  | r :: l, k + 1, x, h => by
    have := cells2_set1 l k x (by simpa using h)
    rw [show (k + 1) * 2 = k * 2 + 2 by omega]
    simpa [cells2] using this

/-- The slice value owns its row, from block B on, and holds l. -/
def Own (w : World) (B : Nat) (e : TypeId) (A : Option Addr) (n c : Nat) (l : Rd) : Prop := w.ownsRow B e 2 (.slice A n c) n (cells2 l)

section
variable {w w' : World} {B n c : Nat} {e : TypeId} {A : Option Addr} {l : Rd}
theorem Own.len (h : Own w B e A n c l) : l.length = n := by
  have := h.1
  rw [cells2_len] at this
  omega
theorem Own.nil (w : World) (B : Nat) (e : TypeId) : Own w B e none 0 0 [] := World.ownsRow_nil w B e 2
theorem Own.form (h : Own w B e A n c l) : (A = none ∧ n = 0 ∧ c = 0 ∧ l = []) ∨ ∃ g, A = some ⟨g, 0, none⟩ ∧ B ≤ g ∧ g < w.heap.size ∧ n ≤ c ∧ c ≤ maxLen := by
  have hl := h.len
  rcases h.2 with ⟨hv, hn⟩ | ⟨g, cap, cur, hv, hb, hg, hnc, hcm, _⟩
  · simp at hv
    obtain ⟨rfl, rfl, rfl⟩ := hv
    exact .inl ⟨rfl, rfl, rfl, List.eq_nil_of_length_eq_zero hl⟩
  · simp at hv
    obtain ⟨rfl, rfl⟩ := hv
    exact .inr ⟨g, rfl, hb, (Array.getElem?_eq_some_iff.1 hg).1, hnc, hcm⟩
theorem Own.cell {g : Nat} (h : Own w B e (some ⟨g, 0, none⟩) n c l) {k : Nat} (hk : k < n) : w.cell? ⟨g, k * 2, none⟩ = some (.int .i64 (l.getD k (0, 0)).1) ∧ w.cell? ⟨g, k * 2 + 1, none⟩ = some (.int .i64 (l.getD k (0, 0)).2) := by
  have hl := h.len
  have e1 := World.ownsRow.cellAt h (k * 2) (by omega)
  have e2 := World.ownsRow.cellAt h (k * 2 + 1) (by omega)
  obtain ⟨f1, f2⟩ := cells2_get l (k := k) (by omega)
  exact ⟨e1.trans f1, e2.trans f2⟩
theorem Own.frozen {g : Nat} (h : Own w B e (some ⟨g, 0, none⟩) n c l) (k : Nat) : w.frozen? ⟨g, k, none⟩ = false := World.ownsRow.frozenAt h k
theorem Own.row (h : Own w B e A n c l) : Row w A n c l := by
  rcases h.form with ⟨rfl, rfl, rfl, rfl⟩ | ⟨g, rfl, _, hlt, hnc', hcm'⟩
  · exact ⟨0, 0, rfl, by omega, by omega, fun h => by omega, fun h => by omega, fun k hk => by omega⟩
  · exact ⟨g, 0, h.len, hnc', hcm', fun _ => rfl, fun _ => hlt, fun k hk => by rw [Nat.zero_add]; exact h.cell hk⟩
theorem Own.kept (h : Own w B e A n c l) {row : Option Nat} (hg : w.grownBy w' row) (hne : (Value.slice A n c).ownBlock = none ∨ (Value.slice A n c).ownBlock ≠ row) : Own w' B e A n c l :=
  World.ownsRow.kept h hg hne
theorem grown_of_below {B : Nat} (h : Below B w w') (hB : w.heap.size ≤ B) (row : Option Nat) : w.grownBy w' row :=
  ⟨h.os, h.tape, h.output, h.size, fun k hk _ => h.block k (by omega)⟩
theorem Own.below (h : Own w B e A n c l) {B' : Nat} (hb : Below B' w w') (hB : w.heap.size ≤ B') : Own w' B e A n c l :=
  h.kept (grown_of_below hb hB none) (by cases hv : (Value.slice A n c).ownBlock <;> simp)
theorem Own.alloc (h : Own w B e A n c l) (o : Obj) : Own (w.alloc o) B e A n c l := World.ownsRow.alloc h o
theorem Own.drew (h : Own w B e A n c l) : Own w.drew B e A n c l := h
theorem Own.drewN (h : Own w B e A n c l) (k : Nat) : Own (w.drewN k) B e A n c l := h
theorem Own.more (h : Own w B e A n c l) {B' : Nat} (hB : B' ≤ B) : Own w B' e A n c l := by
  refine ⟨h.1, ?_⟩
  rcases h.2 with h2 | ⟨g, cap, cur, hv, hb, r⟩
  · exact .inl h2
  · exact .inr ⟨g, cap, cur, hv, by omega, r⟩
theorem Own.stored {g : Nat} (h : Own w B e (some ⟨g, 0, none⟩) n c l) {k : Nat} (hk : k < n) (x y : Int) :
    Own ((w.setCell ⟨g, k * 2, none⟩ (.int .i64 x)).setCell ⟨g, k * 2 + 1, none⟩ (.int .i64 y)) B e (some ⟨g, 0, none⟩) n c (l.set k (x, y)) := by
  have hl := h.len
  have e1 := (World.ownsRow.stored (World.ownsRow.stored h (k * 2) (.int .i64 x)).1 (k * 2 + 1) (.int .i64 y)).1
  rw [cells2_set l k x y (by omega)] at e1
  exact e1
theorem Own.stored1 {g : Nat} (h : Own w B e (some ⟨g, 0, none⟩) n c l) {k : Nat} (hk : k < n) (x : Int) :
    Own (w.setCell ⟨g, k * 2, none⟩ (.int .i64 x)) B e (some ⟨g, 0, none⟩) n c (l.set k (x, (l.getD k (0, 0)).2)) := by
  have hl := h.len
  have e1 := (World.ownsRow.stored h (k * 2) (.int .i64 x)).1
  rw [cells2_set1 l k x (by omega)] at e1
  exact e1
theorem Own.lit (w : World) (l : Rd) (hB : B ≤ w.heap.size) (hl : l.length ≤ maxLen) : Own (w.alloc (.cells (cells2 l).toArray e)) B e (some ⟨w.heap.size, 0, none⟩) l.length l.length l := by
  have e1 := World.ownsRow_lit (w := w) (base := B) (e := e) (size := 2) (cells2 l).toArray l.length hB hl (by simp [cells2_len])
  simpa [Own] using e1
end
theorem Row.nilRow (w : World) : Row w none 0 0 [] := ⟨0, 0, rfl, by omega, by omega, fun h => by omega, fun h => by omega, fun k hk => by omega⟩

section
variable {P : Program} (w : World) {ops : Array Oper} {rest : List Oper} {o : Oper} {a : Act} {Q : Exit → Act → World → Prop}

/-- out = append(out, r): r lies in a new block of its own. -/
theorem wpList_app1 (hgd : o.guard = none) (s x : Operand) (t e : TypeId) (ho : o.op = .call { callee := .builtin .append, args := #[s, x], argTypes := #[t, t] })
    (hu : P.underlying t = some (.slice e)) (hinfo : (P.info? e).map (fun i => (i.zero, i.size, i.bytes)) = some (some (.agg #[.int .i64 0, .int .i64 0]), 2, 16))
    (B n c : Nat) (A : Option Addr) (l : Rd) (y z : Int) (hs : a.eval s = .slice A n c) (hx : a.eval x = .slice (some ⟨w.heap.size, 0, none⟩) 1 1)
    (hown : Own w B e A n c l) (hn : n ≤ 1000000) (hB : B ≤ w.heap.size)
    (h : ∀ A' c' w', Own w' B e A' (n + 1) c' (l ++ [(y, z)]) → Below B w w' → w.grownBy w' (Value.slice A n c).ownBlock → wpList P ops Q rest (a.put o.dst (.slice A' (n + 1) c')) w') :
    wpList P ops Q (o :: rest) a (w.alloc (.cells #[.int .i64 y, .int .i64 z] e)) := by
  obtain ⟨i0, hi, hz0, hz1, hz2⟩ := info_parts hinfo
  refine wpList_append_own (P := P) _ hgd s x t ho B e i0 (.agg #[.int .i64 0, .int .i64 0]) 2 16 hu hi hz0 hz1 hz2 rfl (by decide) _ n (cells2 l) hs (World.ownsRow.alloc hown _)
    ⟨w.heap.size, 0, none⟩ 1 1 [.int .i64 y, .int .i64 z] hx rfl ?_ (cells2_one [(y, z)]) (by unfold maxLen; omega) (by omega) (by simp; omega) ?_
  · intro j u hu
    match j, hu with
    | 0, hu => simp at hu; subst hu; simp [Addr.add]
    | 1, hu => simp at hu; subst hu; simp [Addr.add]
  · intro v' w' hown' hg _
    have hown2 : w'.ownsRow B e 2 v' (n + 1) (cells2 (l ++ [(y, z)])) := by rw [cells2_app]; exact hown'
    have hg2 : w.grownBy w' (Value.slice A n c).ownBlock :=
      ⟨hg.os, hg.tape, hg.output, Nat.le_trans (by simp) hg.size, fun k hk hne => (hg.block k (by simp; omega) hne).trans (Below.heap_alloc w _ k hk)⟩
    have hv : ∃ A' c', v' = .slice A' (n + 1) c' := by
      rcases hown2.2 with ⟨_, hn0⟩ | ⟨g, cap, cur, hv, _⟩
      · omega
      · exact ⟨_, _, hv⟩
    obtain ⟨A', c', rfl⟩ := hv
    refine h A' c' w' hown2 ((Below.refl B w).grown hg2 hB fun k hk => ?_) hg2
    rcases Own.form (l := l) hown with ⟨rfl, _⟩ | ⟨g, rfl, hbg, _⟩
    · simp [Value.ownBlock] at hk
    · simp [Value.ownBlock] at hk; omega

/-- out = append(out, xs...), xs a slice of at least one element. -/
theorem wpList_appN (hgd : o.guard = none) (s x : Operand) (t e : TypeId) (ho : o.op = .call { callee := .builtin .append, args := #[s, x], argTypes := #[t, t] })
    (hu : P.underlying t = some (.slice e)) (hinfo : (P.info? e).map (fun i => (i.zero, i.size, i.bytes)) = some (some (.agg #[.int .i64 0, .int .i64 0]), 2, 16))
    (B n c : Nat) (A : Option Addr) (l : Rd) (A2 : Option Addr) (m c2 : Nat) (ys : Rd) (hs : a.eval s = .slice A n c) (hx : a.eval x = .slice A2 m c2)
    (hown : Own w B e A n c l) (hrow : Row w A2 m c2 ys) (hm : 1 ≤ m) (hm2 : m ≤ 1000000) (hn : n ≤ 1000000) (hB : B ≤ w.heap.size)
    (h : ∀ A' c' w', Own w' B e A' (n + m) c' (l ++ ys) → Below B w w' → w.grownBy w' (Value.slice A n c).ownBlock → wpList P ops Q rest (a.put o.dst (.slice A' (n + m) c')) w') :
    wpList P ops Q (o :: rest) a w := by
  obtain ⟨i0, hi, hz0, hz1, hz2⟩ := info_parts hinfo
  obtain ⟨b, off, r1, rcap, rmax, r2, r3, r4⟩ := hrow
  obtain rfl := r2 (by omega)
  refine wpList_append_own (P := P) _ hgd s x t ho B e i0 (.agg #[.int .i64 0, .int .i64 0]) 2 16 hu hi hz0 hz1 hz2 rfl (by decide) _ n (cells2 l) hs hown
    ⟨b, off, none⟩ m c2 (cells2 ys) hx (by rw [cells2_len]; omega) ?_ (cells2_one ys) (by unfold maxLen; omega) (by omega) hB ?_
  · intro j u hu
    have hj : j < ys.length * 2 := by
      have := (List.getElem?_eq_some_iff.1 hu).1
      rwa [cells2_len] at this
    have hadd : (⟨b, off, none⟩ : Addr).add j = ⟨b, off + j, none⟩ := by unfold Addr.add; split <;> simp_all
    rw [hadd]
    obtain ⟨g1, g2⟩ := cells2_get ys (k := j / 2) (by omega)
    obtain ⟨f1, f2⟩ := r4 (j / 2) (by omega)
    rcases Nat.mod_two_eq_zero_or_one j with hp | hp
    · have e : j = j / 2 * 2 := by omega
      rw [e] at hu ⊢
      rw [g1] at hu
      rw [← hu]
      exact f1
    · have e : j = j / 2 * 2 + 1 := by omega
      rw [e] at hu ⊢
      rw [g2] at hu
      rw [← hu]
      exact f2
  · intro v' w' hown' hg _
    have hown2 : w'.ownsRow B e 2 v' (n + m) (cells2 (l ++ ys)) := by rw [cells2_app]; exact hown'
    have hv : ∃ A' c', v' = .slice A' (n + m) c' := by
      rcases hown2.2 with ⟨_, hn0⟩ | ⟨g, cap, cur, hv, _⟩
      · omega
      · exact ⟨_, _, hv⟩
    obtain ⟨A', c', rfl⟩ := hv
    refine h A' c' w' hown2 ((Below.refl B w).grown hg hB fun k hk => ?_) hg
    rcases Own.form (l := l) hown with ⟨rfl, _⟩ | ⟨g, rfl, hbg, _⟩
    · simp [Value.ownBlock] at hk
    · simp [Value.ownBlock] at hk; omega

theorem made2 (n : Nat) : (madeCells (Value.agg #[.int .i64 0, .int .i64 0]).cells (n * 2)).toList = cells2 (List.replicate n (0, 0)) := by
  have h1 : (Value.agg #[.int .i64 0, .int .i64 0]).cells = #[.int .i64 0, .int .i64 0] := rfl
  rw [h1]
  refine List.ext_getElem? fun j => ?_
  have hl : (madeCells #[Value.int .i64 0, Value.int .i64 0] (n * 2)).size = n * 2 := by simp [madeCells]
  by_cases hj : j < n * 2
  · have e : (madeCells #[Value.int .i64 0, Value.int .i64 0] (n * 2)).toList[j]? = some (.int .i64 0) := by
      rw [Array.getElem?_toList, Array.getElem?_eq_getElem (by omega)]
      simp only [madeCells, Array.getElem_map, Array.getElem_range]
      rcases Nat.mod_two_eq_zero_or_one j with hp | hp <;> simp [hp]
    rw [e]
    obtain ⟨g1, g2⟩ := cells2_get (List.replicate n (0, 0)) (k := j / 2) (by simp; omega)
    have hz : (List.replicate n ((0 : Int), (0 : Int))).getD (j / 2) (0, 0) = (0, 0) := by
      simp [List.getD_eq_getElem?_getD, List.getElem?_replicate]
      split <;> rfl
    rw [hz] at g1 g2
    rcases Nat.mod_two_eq_zero_or_one j with hp | hp
    · rw [show j = j / 2 * 2 by omega, g1]
    · rw [show j = j / 2 * 2 + 1 by omega, g2]
  · rw [List.getElem?_eq_none (by simp [hl]; omega), List.getElem?_eq_none (by rw [cells2_len]; simp; omega)]
/-- make([]T, n). -/
theorem wpList_mk (hgd : o.guard = none) (lo co : Operand) (t e : TypeId) (hop : o.op = Op.makeSlice t lo co)
    (hu : P.underlying t = some (.slice e)) (hinfo : (P.info? e).map (fun i => (i.zero, i.size, i.bytes)) = some (some (.agg #[.int .i64 0, .int .i64 0]), 2, 16)) (B n : Nat) (hl : a.eval lo = .int .i64 n) (hc : a.eval co = .int .i64 n)
    (hn : n ≤ 1000000) (hB : B ≤ w.heap.size)
    (h : ∀ w', Own w' B e (some ⟨w.heap.size, 0, none⟩) n n (List.replicate n (0, 0)) → Below w.heap.size w w' → w.heap.size < w'.heap.size → wpList P ops Q rest (a.put o.dst (.slice (some ⟨w.heap.size, 0, none⟩) n n)) w') :
    wpList P ops Q (o :: rest) a w := by
  obtain ⟨i0, hi, hz0, hz1, hz2⟩ := info_parts hinfo
  refine wpList_make_full (P := P) w hgd lo co t hop B e i0 (.agg #[.int .i64 0, .int .i64 0]) 2 hu hi hz0 hz1 .i64 .i64 n n n hl hc rfl rfl (by rw [hz2]; omega) (by unfold maxLen; omega) hB fun w' hown hg => ?_
  rw [made2] at hown
  have ho : Own w' B e (some ⟨w.heap.size, 0, none⟩) n n (List.replicate n (0, 0)) := hown
  refine h w' ho ((Below.refl _ w).grown hg (Nat.le_refl _) fun k hk => by cases hk) ?_
  rcases ho.form with ⟨hh, _⟩ | ⟨g, hA, _, hlt, _⟩
  · cases hh
  · injection hA with hA; injection hA with hA; omega
end

theorem info_rat : (Try.prog.info? 26).map (fun i => (i.zero, i.size, i.bytes)) = some (some (.agg #[.int .i64 0, .int .i64 0]), 2, 16) := by kernel_rfl
theorem info_reading : (Try.prog.info? 51).map (fun i => (i.zero, i.size, i.bytes)) = some (some (.agg #[.int .i64 0, .int .i64 0]), 2, 16) := by kernel_rfl

/-- A fraction as its two numbers. -/
def rq (q : Rat) : Int × Int := (nu q, de q)

end Go.Proofs.Ytlmmkaadoicogaa
