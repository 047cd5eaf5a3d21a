/- Slices that a call made itself: what they hold, how they are kept, and the laws on append, make and store in that form. -/
import Derived.Test.YtbadihbcjdibeaaWalkR
import Derived.Test.YtbadihbcjdibeaaMathB
namespace Go.Proofs.Ytbadihbcjdibeaa
open Go.RowKit

theorem info_int : (Try.prog.info? 3).map (fun i => (i.zero, i.size, i.bytes)) = some (some (.int .i64 0), 1, 8) := by kernel_rfl

def ints (xs : List Int) : List Value := xs.map (Value.int .i64)
theorem ints_length (xs : List Int) : (ints xs).length = xs.length := by simp [ints]
theorem ints_append (xs ys : List Int) : ints (xs ++ ys) = ints xs ++ ints ys := by simp [ints]
theorem ints_one (xs : List Int) : ∀ u ∈ ints xs, u.oneCell' = true := by
  intro u hu
  obtain ⟨x, _, rfl⟩ := List.mem_map.1 hu
  rfl
theorem ints_get {xs : List Int} {k : Nat} (h : k < xs.length) : (ints xs)[k]? = some (.int .i64 (xs.getD k 0)) := by
  simp [ints, List.getElem?_map, List.getD_eq_getElem?_getD, List.getElem?_eq_getElem h]

/-- The slice value owns its row, from block B on, and holds xs. -/
def Own (w : World) (B : Nat) (A : Option Addr) (n c : Nat) (xs : List Int) : Prop := w.ownsRow B 3 1 (.slice A n c) n (ints xs)

section
variable {w w' : World} {B n c : Nat} {A : Option Addr} {xs : List Int}

theorem Own.len (h : Own w B A n c xs) : xs.length = n := by
  have := h.1
  rw [ints_length] at this
  omega
theorem Own.nil (w : World) (B : Nat) : Own w B none 0 0 [] := World.ownsRow_nil w B 3 1
theorem Own.form (h : Own w B A n c xs) : (A = none ∧ n = 0 ∧ c = 0 ∧ xs = []) ∨ ∃ g, A = some ⟨g, 0, none⟩ ∧ B ≤ g ∧ g < w.heap.size ∧ n ≤ c ∧ c ≤ maxLen := by
  have hl := h.len
  rcases h.2 with ⟨hv, hn⟩ | ⟨g, cap, cur, hv, hb, hg, hnc, hcm, _⟩
  · simp at hv
    obtain ⟨rfl, rfl, rfl⟩ := hv
    exact .inl ⟨rfl, rfl, rfl, List.eq_nil_of_length_eq_zero hl⟩
  · simp at hv
    obtain ⟨rfl, rfl⟩ := hv
    exact .inr ⟨g, rfl, hb, (Array.getElem?_eq_some_iff.1 hg).1, hnc, hcm⟩
theorem Own.cell {g : Nat} (h : Own w B (some ⟨g, 0, none⟩) n c xs) {k : Nat} (hk : k < n) : w.cell? ⟨g, k, none⟩ = some (.int .i64 (xs.getD k 0)) := by
  have e := World.ownsRow.cellAt h k (by omega)
  rw [e, ints_get (by rw [h.len]; exact hk)]
theorem Own.frozen {g : Nat} (h : Own w B (some ⟨g, 0, none⟩) n c xs) (k : Nat) : w.frozen? ⟨g, k, none⟩ = false := World.ownsRow.frozenAt h k
theorem Own.row (h : Own w B A n c xs) : Row w A n c xs := by
  rcases h.form with ⟨rfl, rfl, rfl, rfl⟩ | ⟨g, rfl, _, hlt, hnc', hcm'⟩
  · exact ⟨0, 0, rfl, by omega, by omega, fun h => by omega, fun h => by omega, fun k hk => by omega⟩
  · exact ⟨g, 0, h.len, hnc', hcm', fun _ => rfl, fun _ => hlt, fun k hk => by rw [Nat.zero_add]; exact h.cell hk⟩
theorem Own.kept (h : Own w B A n c xs) {row : Option Nat} (hg : w.grownBy w' row) (hne : (Value.slice A n c).ownBlock = none ∨ (Value.slice A n c).ownBlock ≠ row) : Own w' B A n c xs :=
  World.ownsRow.kept h hg hne
theorem grown_of_below {B : Nat} (h : Below B w w') (hB : w.heap.size ≤ B) (row : Option Nat) : w.grownBy w' row :=
  ⟨h.os, h.tape, h.output, h.size, fun k hk _ => h.block k (by omega)⟩
theorem Own.below (h : Own w B A n c xs) {B' : Nat} (hb : Below B' w w') (hB : w.heap.size ≤ B') : Own w' B A n c xs :=
  h.kept (grown_of_below hb hB none) (by cases hv : (Value.slice A n c).ownBlock <;> simp)
theorem Own.alloc (h : Own w B A n c xs) (o : Obj) : Own (w.alloc o) B A n c xs := World.ownsRow.alloc h o
theorem Own.drew (h : Own w B A n c xs) : Own w.drew B A n c xs := h
theorem Own.more (h : Own w B A n c xs) {B' : Nat} (hB : B' ≤ B) : Own w B' A n c xs := by
  refine ⟨h.1, ?_⟩
  rcases h.2 with h2 | ⟨g, cap, cur, hv, hb, r⟩
  · exact .inl h2
  · exact .inr ⟨g, cap, cur, hv, by omega, r⟩
theorem Own.stored {g : Nat} (h : Own w B (some ⟨g, 0, none⟩) n c xs) (k : Nat) (y : Int) : Own (w.setCell ⟨g, k, none⟩ (.int .i64 y)) B (some ⟨g, 0, none⟩) n c (xs.set k y) := by
  have e := (World.ownsRow.stored h k (.int .i64 y)).1
  have : (ints xs).set k (.int .i64 y) = ints (xs.set k y) := by simp [ints, List.map_set]
  rw [this] at e
  exact e
theorem Own.lit (w : World) (xs : List Int) (hB : B ≤ w.heap.size) (hl : xs.length ≤ maxLen) : Own (w.alloc (.cells (ints xs).toArray 3)) B (some ⟨w.heap.size, 0, none⟩) xs.length xs.length xs := by
  have e := World.ownsRow_lit (w := w) (base := B) (e := 3) (size := 1) (ints xs).toArray xs.length hB hl (by simp [ints])
  simpa [Own] using e
theorem Own.litAt (w : World) (xs : List Int) (g : Nat) (hg : g = w.heap.size) (hB : B ≤ w.heap.size) (hl : xs.length ≤ maxLen) : Own (w.alloc (.cells (ints xs).toArray 3)) B (some ⟨g, 0, none⟩) xs.length xs.length xs := by
  subst hg; exact Own.lit w xs hB hl
end

theorem Row.alloc {w : World} {A : Option Addr} {n c : Nat} {xs : List Int} (h : Row w A n c xs) (o : Obj) : Row (w.alloc o) A n c xs :=
  h.below ((Below.refl w.heap.size w).alloc (Nat.le_refl _) o) (Nat.le_refl _)
theorem Row.drewN {w : World} {A : Option Addr} {n c : Nat} {xs : List Int} (h : Row w A n c xs) (k : Nat) : Row (w.drewN k) A n c xs := by
  obtain ⟨b, off, h⟩ := h
  exact ⟨b, off, h.len, h.cap, h.max, h.at_, h.lt, h.cell⟩

section
variable (w : World) {ops : Array Oper} {rest : List Oper} {o : Oper} {a : Act} {Q : Exit → Act → World → Prop}

/-- out = append(out, y): y lies in a new block of its own. -/
theorem wpList_app1 (hgd : o.guard = none) (s x : Operand) (ho : o.op = .call { callee := .builtin .append, args := #[s, x], argTypes := #[23, 23] })
    (B n c : Nat) (A : Option Addr) (xs : List Int) (y : Int) (hs : a.eval s = .slice A n c) (hx : a.eval x = .slice (some ⟨w.heap.size, 0, none⟩) 1 1)
    (hown : Own w B A n c xs) (hn : n ≤ 1000000) (hB : B ≤ w.heap.size)
    (h : ∀ A' c' w', Own w' B A' (n + 1) c' (xs ++ [y]) → Below B w w' → w.grownBy w' (Value.slice A n c).ownBlock → wpList Try.prog ops Q rest (a.put o.dst (.slice A' (n + 1) c')) w') :
    wpList Try.prog ops Q (o :: rest) a (w.alloc (.cells #[.int .i64 y] 3)) := by
  obtain ⟨i0, hi, hz0, hz1, hz2⟩ := info_parts info_int
  refine wpList_append_own (P := Try.prog) _ hgd s x 23 ho B 3 i0 (.int .i64 0) 1 8 Try.underlying23 hi hz0 hz1 hz2 rfl (by decide) _ n (ints xs) hs (World.ownsRow.alloc hown _)
    ⟨w.heap.size, 0, none⟩ 1 1 [.int .i64 y] hx rfl ?_ (ints_one [y]) (by unfold maxLen; omega) (by omega) (by simp; omega) ?_
  · intro j u hu
    match j, hu with
    | 0, hu => simp at hu; subst hu; simp [Addr.add]
  · intro v' w' hown' hg _
    have hown2 : w'.ownsRow B 3 1 v' (n + 1) (ints (xs ++ [y])) := by rw [ints_append]; exact hown'
    have hg2 : w.grownBy w' (Value.slice A n c).ownBlock :=
      ⟨hg.os, hg.tape, hg.output, Nat.le_trans (by simp) hg.size, fun k hk hne => (hg.block k (by simp; omega) hne).trans (Below.heap_alloc w _ k hk)⟩
    have hv : ∃ A' c', v' = .slice A' (n + 1) c' := by
      rcases hown2.2 with ⟨_, hn0⟩ | ⟨g, cap, cur, hv, _⟩
      · omega
      · exact ⟨_, _, hv⟩
    obtain ⟨A', c', rfl⟩ := hv
    refine h A' c' w' hown2 ((Below.refl B w).grown hg2 hB fun k hk => ?_) hg2
    rcases Own.form (xs := xs) hown with ⟨rfl, _⟩ | ⟨g, rfl, hbg, _⟩
    · simp [Value.ownBlock] at hk
    · simp [Value.ownBlock] at hk; omega

/-- out = append(out, ys...), ys a slice of at least one element. -/
theorem wpList_appN (hgd : o.guard = none) (s x : Operand) (ho : o.op = .call { callee := .builtin .append, args := #[s, x], argTypes := #[23, 23] })
    (B n c : Nat) (A : Option Addr) (xs : List Int) (A2 : Option Addr) (m c2 : Nat) (ys : List Int) (hs : a.eval s = .slice A n c) (hx : a.eval x = .slice A2 m c2)
    (hown : Own w B A n c xs) (hrow : Row w A2 m c2 ys) (hm : 1 ≤ m) (hm2 : m ≤ 1000000) (hn : n ≤ 1000000) (hB : B ≤ w.heap.size)
    (h : ∀ A' c' w', Own w' B A' (n + m) c' (xs ++ ys) → Below B w w' → w.grownBy w' (Value.slice A n c).ownBlock → wpList Try.prog ops Q rest (a.put o.dst (.slice A' (n + m) c')) w') :
    wpList Try.prog ops Q (o :: rest) a w := by
  obtain ⟨i0, hi, hz0, hz1, hz2⟩ := info_parts info_int
  obtain ⟨b, off, r1, rcap, rmax, r2, r3, r4⟩ := hrow
  obtain rfl := r2 (by omega)
  refine wpList_append_own (P := Try.prog) _ hgd s x 23 ho B 3 i0 (.int .i64 0) 1 8 Try.underlying23 hi hz0 hz1 hz2 rfl (by decide) _ n (ints xs) hs hown
    ⟨b, off, none⟩ m c2 (ints ys) hx (by rw [ints_length]; omega) ?_ (ints_one ys) (by unfold maxLen; omega) (by omega) hB ?_
  · intro j u hu
    have hj : j < ys.length := by
      have := (List.getElem?_eq_some_iff.1 hu).1
      rwa [ints_length] at this
    rw [ints_get hj] at hu
    have := r4 j (by omega)
    rw [hu] at this
    unfold Addr.add
    split
    · rename_i h0; subst h0; exact this
    · exact this
  · intro v' w' hown' hg _
    have hown2 : w'.ownsRow B 3 1 v' (n + m) (ints (xs ++ ys)) := by rw [ints_append]; exact hown'
    have hv : ∃ A' c', v' = .slice A' (n + m) c' := by
      rcases hown2.2 with ⟨_, hn0⟩ | ⟨g, cap, cur, hv, _⟩
      · omega
      · exact ⟨_, _, hv⟩
    obtain ⟨A', c', rfl⟩ := hv
    refine h A' c' w' hown2 ((Below.refl B w).grown hg hB fun k hk => ?_) hg
    rcases Own.form (xs := xs) hown with ⟨rfl, _⟩ | ⟨g, rfl, hbg, _⟩
    · simp [Value.ownBlock] at hk
    · simp [Value.ownBlock] at hk; omega

/-- make([]int, n). -/
theorem wpList_mk (hgd : o.guard = none) (l c : Operand) (hop : o.op = Op.makeSlice 23 l c) (B n : Nat) (hl : a.eval l = .int .i64 n) (hc : a.eval c = .int .i64 n)
    (hn : n ≤ 1000000) (hB : B ≤ w.heap.size)
    (h : ∀ w', Own w' B (some ⟨w.heap.size, 0, none⟩) n n (List.replicate n 0) → Below w.heap.size w w' → w.heap.size < w'.heap.size → wpList Try.prog ops Q rest (a.put o.dst (.slice (some ⟨w.heap.size, 0, none⟩) n n)) w') :
    wpList Try.prog ops Q (o :: rest) a w := by
  obtain ⟨i0, hi, hz0, hz1, hz2⟩ := info_parts info_int
  refine wpList_make_full (P := Try.prog) w hgd l c 23 hop B 3 i0 (.int .i64 0) 1 Try.underlying23 hi hz0 hz1 .i64 .i64 n n n hl hc rfl rfl (by rw [hz2]; omega) (by unfold maxLen; omega) hB fun w' hown hg => ?_
  have e : (madeCells (Value.int .i64 0).cells (n * 1)).toList = ints (List.replicate n 0) := by
    rw [Nat.mul_one]
    show (madeCells #[Value.int .i64 0] n).toList = _
    rw [toList_madeCells_one]
    simp [ints]
  rw [e] at hown
  have ho : Own w' B (some ⟨w.heap.size, 0, none⟩) n n (List.replicate n 0) := hown
  refine h w' ho ((Below.refl _ w).grown hg (Nat.le_refl _) fun k hk => by cases hk) ?_
  rcases ho.form with ⟨hh, _⟩ | ⟨g, hA, _, hlt, _⟩
  · cases hh
  · injection hA with hA; injection hA with hA; omega
end

end Go.Proofs.Ytbadihbcjdibeaa
