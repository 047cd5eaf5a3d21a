/- Blocks: slices of four integers that a call made itself, the blocks of a row, and the row of the runs. -/
import Derived.Test.YtlmmkaadoicogaaWalkCr
import Derived.Deep.RegionLawGrows
namespace Go.Proofs.Ytlmmkaadoicogaa
open Go.RowKit

/-- A block as four numbers. -/
abbrev B4 := Int × Int × Int × Int
def cells4 (l : List B4) : List Value := l.flatMap fun r => [.int .i64 r.1, .int .i64 r.2.1, .int .i64 r.2.2.1, .int .i64 r.2.2.2]
abbrev z4 : B4 := (0, 0, 0, 0)
theorem cells4_len (l : List B4) : (cells4 l).length = l.length * 4 := by
  induction l with
  | nil => rfl
  | cons r l ih =>
    simp only [cells4, List.flatMap_cons, List.length_append, List.length_cons, List.length_nil] at ih ⊢
    omega
theorem cells4_app (l m : List B4) : cells4 (l ++ m) = cells4 l ++ cells4 m := by simp [cells4]
theorem cells4_get : ∀ (l : List B4) {k : Nat}, k < l.length → (cells4 l)[k * 4]? = some (.int .i64 (l.getD k z4).1) ∧ (cells4 l)[k * 4 + 1]? = some (.int .i64 (l.getD k z4).2.1) ∧
    (cells4 l)[k * 4 + 2]? = some (.int .i64 (l.getD k z4).2.2.1) ∧ (cells4 l)[k * 4 + 3]? = some (.int .i64 (l.getD k z4).2.2.2)
  | r :: l, 0, _ => by simp [cells4]
  | r :: l, k + 1, h => by
    have := cells4_get l (k := k) (by simpa using h)
    rw [show (k + 1) * 4 = k * 4 + 4 by omega]
    simpa [cells4] using this
theorem cells4_one (l : List B4) : ∀ u ∈ cells4 l, u.oneCell' = true := by
  intro u hu
  obtain ⟨r, _, h⟩ := List.mem_flatMap.1 hu
  simp at h
  rcases h with rfl | rfl | rfl | rfl <;> rfl
theorem cells4_set1 : ∀ (l : List B4) (k : Nat) (x : Int), k < l.length → (cells4 l).set (k * 4 + 1) (.int .i64 x) = cells4 (l.set k ((l.getD k z4).1, x, (l.getD k z4).2.2))
  | r :: l, 0, x, _ => by simp [cells4]
  | r :: l, k + 1, x, h => by
    have := cells4_set1 l k x (by simpa using h)
    rw [show (k + 1) * 4 + 1 = k * 4 + 1 + 4 by omega]
    simpa [cells4] using this
theorem info_block : (Try.prog.info? 43).map (fun i => (i.zero, i.size, i.bytes)) = some (some (.agg #[.int .i64 0, .int .i64 0, .int .i64 0, .int .i64 0]), 4, 32) := by kernel_rfl

/-- A slice of blocks, as it reads. -/
structure Row4At (w : World) (A : Option Addr) (n c : Nat) (l : List B4) (b off : Nat) : Prop where
  len : l.length = n
  cap : n ≤ c
  max : c ≤ 9223372036854775807
  at_ : 0 < n → A = some ⟨b, off, none⟩
  lt : 0 < n → b < w.heap.size
  cell : ∀ k, k < n → w.cell? ⟨b, off + k * 4, none⟩ = some (.int .i64 (l.getD k z4).1) ∧ w.cell? ⟨b, off + k * 4 + 1, none⟩ = some (.int .i64 (l.getD k z4).2.1) ∧
    w.cell? ⟨b, off + k * 4 + 2, none⟩ = some (.int .i64 (l.getD k z4).2.2.1) ∧ w.cell? ⟨b, off + k * 4 + 3, none⟩ = some (.int .i64 (l.getD k z4).2.2.2)
def Row4 (w : World) (A : Option Addr) (n c : Nat) (l : List B4) : Prop := ∃ b off, Row4At w A n c l b off
theorem Row4At.below {w w' : World} {A : Option Addr} {n c : Nat} {l : List B4} {b off B : Nat} (h : Row4At w A n c l b off) (hb : Below B w w') (hB : w.heap.size ≤ B) : Row4At w' A n c l b off := by
  obtain ⟨h1, hc, hm, h2, h3, h4⟩ := h
  refine ⟨h1, hc, hm, h2, fun hn => Nat.lt_of_lt_of_le (h3 hn) hb.size, fun k hk => ?_⟩
  have hl := Nat.lt_of_lt_of_le (h3 (by omega)) hB
  rw [hb.cell (p := ⟨b, off + k * 4, none⟩) hl, hb.cell (p := ⟨b, off + k * 4 + 1, none⟩) hl, hb.cell (p := ⟨b, off + k * 4 + 2, none⟩) hl, hb.cell (p := ⟨b, off + k * 4 + 3, none⟩) hl]
  exact h4 k hk
theorem Row4.below {w w' : World} {A : Option Addr} {n c : Nat} {l : List B4} {B : Nat} (h : Row4 w A n c l) (hb : Below B w w') (hB : w.heap.size ≤ B) : Row4 w' A n c l := by
  obtain ⟨b, o, h⟩ := h
  exact ⟨b, o, h.below hb hB⟩
theorem Row4.length {w : World} {A : Option Addr} {n c : Nat} {l : List B4} (h : Row4 w A n c l) : l.length = n := by
  obtain ⟨_, _, h⟩ := h
  exact h.len

/-- The slice value owns its row of blocks, from block B on, and holds l. -/
def Own4 (w : World) (B : Nat) (A : Option Addr) (n c : Nat) (l : List B4) : Prop := w.ownsRow B 43 4 (.slice A n c) n (cells4 l)
section
variable {w w' : World} {B n c : Nat} {A : Option Addr} {l : List B4}
theorem Own4.len (h : Own4 w B A n c l) : l.length = n := by
  have := h.1
  rw [cells4_len] at this
  omega
theorem Own4.nil (w : World) (B : Nat) : Own4 w B none 0 0 [] := World.ownsRow_nil w B 43 4
theorem Own4.form (h : Own4 w B A n c l) : (A = none ∧ n = 0 ∧ c = 0 ∧ l = []) ∨ ∃ g, A = some ⟨g, 0, none⟩ ∧ B ≤ g ∧ g < w.heap.size ∧ n ≤ c ∧ c ≤ maxLen := by
  have hl := h.len
  rcases h.2 with ⟨hv, hn⟩ | ⟨g, cap, cur, hv, hb, hg, hnc, hcm, _⟩
  · simp at hv
    obtain ⟨rfl, rfl, rfl⟩ := hv
    exact .inl ⟨rfl, rfl, rfl, List.eq_nil_of_length_eq_zero hl⟩
  · simp at hv
    obtain ⟨rfl, rfl⟩ := hv
    exact .inr ⟨g, rfl, hb, (Array.getElem?_eq_some_iff.1 hg).1, hnc, hcm⟩
theorem Own4.cell {g : Nat} (h : Own4 w B (some ⟨g, 0, none⟩) n c l) {k : Nat} (hk : k < n) : w.cell? ⟨g, k * 4, none⟩ = some (.int .i64 (l.getD k z4).1) ∧ w.cell? ⟨g, k * 4 + 1, none⟩ = some (.int .i64 (l.getD k z4).2.1) ∧
    w.cell? ⟨g, k * 4 + 2, none⟩ = some (.int .i64 (l.getD k z4).2.2.1) ∧ w.cell? ⟨g, k * 4 + 3, none⟩ = some (.int .i64 (l.getD k z4).2.2.2) := by
  have hl := h.len
  obtain ⟨f1, f2, f3, f4⟩ := cells4_get l (k := k) (by omega)
  exact ⟨(World.ownsRow.cellAt h (k * 4) (by omega)).trans f1, (World.ownsRow.cellAt h (k * 4 + 1) (by omega)).trans f2, (World.ownsRow.cellAt h (k * 4 + 2) (by omega)).trans f3, (World.ownsRow.cellAt h (k * 4 + 3) (by omega)).trans f4⟩
theorem Own4.frozen {g : Nat} (h : Own4 w B (some ⟨g, 0, none⟩) n c l) (k : Nat) : w.frozen? ⟨g, k, none⟩ = false := World.ownsRow.frozenAt h k
theorem Own4.row (h : Own4 w B A n c l) : Row4 w A n c l := by
  rcases h.form with ⟨rfl, rfl, rfl, rfl⟩ | ⟨g, rfl, _, hlt, hnc', hcm'⟩
  · exact ⟨0, 0, rfl, by omega, by omega, fun h => by omega, fun h => by omega, fun k hk => by omega⟩
  · exact ⟨g, 0, h.len, hnc', hcm', fun _ => rfl, fun _ => hlt, fun k hk => by rw [Nat.zero_add]; exact h.cell hk⟩
theorem Own4.below (h : Own4 w B A n c l) {B' : Nat} (hb : Below B' w w') (hB : w.heap.size ≤ B') : Own4 w' B A n c l :=
  World.ownsRow.kept h (grown_of_below hb hB none) (by cases hv : (Value.slice A n c).ownBlock <;> simp)
theorem Own4.alloc (h : Own4 w B A n c l) (o : Obj) : Own4 (w.alloc o) B A n c l := World.ownsRow.alloc h o
theorem Own4.drewN (h : Own4 w B A n c l) (k : Nat) : Own4 (w.drewN k) B A n c l := h
theorem Own4.drew (h : Own4 w B A n c l) : Own4 w.drew B A n c l := h
theorem Own4.more (h : Own4 w B A n c l) {B' : Nat} (hB : B' ≤ B) : Own4 w B' A n c l := by
  refine ⟨h.1, ?_⟩
  rcases h.2 with h2 | ⟨g, cap, cur, hv, hb, r⟩
  · exact .inl h2
  · exact .inr ⟨g, cap, cur, hv, by omega, r⟩
theorem Own4.stored1 {g : Nat} (h : Own4 w B (some ⟨g, 0, none⟩) n c l) {k : Nat} (hk : k < n) (x : Int) :
    Own4 (w.setCell ⟨g, k * 4 + 1, none⟩ (.int .i64 x)) B (some ⟨g, 0, none⟩) n c (l.set k ((l.getD k z4).1, x, (l.getD k z4).2.2)) := by
  have hl := h.len
  have e1 := (World.ownsRow.stored h (k * 4 + 1) (.int .i64 x)).1
  rw [cells4_set1 l k x (by omega)] at e1
  exact e1
end
section
variable {ops : Array Oper} {o : Oper} {a : Act} {Q : Exit → Act → World → Prop}
theorem new4 (w : World) (y : B4) : ∀ (j : Nat) (u : Value), (cells4 [y])[j]? = some u → (w.alloc (.cells #[.int .i64 y.1, .int .i64 y.2.1, .int .i64 y.2.2.1, .int .i64 y.2.2.2] 43)).cell? ((⟨w.heap.size, 0, none⟩ : Addr).add j) = some u := by
  intro j u hu
  match j, hu with
  | 0, hu => simp [cells4] at hu; subst hu; simp [Addr.add]
  | 1, hu => simp [cells4] at hu; subst hu; simp [Addr.add]
  | 2, hu => simp [cells4] at hu; subst hu; simp [Addr.add]
  | 3, hu => simp [cells4] at hu; subst hu; simp [Addr.add]
theorem after4 {w w' : World} {B n c : Nat} {A : Option Addr} {l : List B4} {y : B4} {v' : Value} {ob : Obj} (hown : Own4 w B A n c l) (hB : B ≤ w.heap.size)
    (h1 : w'.ownsRow B 43 4 v' (n + 1) (cells4 l ++ cells4 [y])) (hg : (w.alloc ob).grownBy w' (Value.slice A n c).ownBlock) :
    ∃ A' c', v' = .slice A' (n + 1) c' ∧ Own4 w' B A' (n + 1) c' (l ++ [y]) ∧ Below B w w' := by
  rw [← cells4_app] at h1
  have hg2 : w.grownBy w' (Value.slice A n c).ownBlock :=
    ⟨hg.os, hg.tape, hg.output, Nat.le_trans (by simp) hg.size, fun k hk hne => (hg.block k (by simp; omega) hne).trans (Below.heap_alloc w _ k hk)⟩
  have hv : ∃ A' c', v' = .slice A' (n + 1) c' := by
    rcases h1.2 with ⟨_, hn0⟩ | ⟨g, cap, cur, hv, _⟩
    · omega
    · exact ⟨_, _, hv⟩
  obtain ⟨A', c', rfl⟩ := hv
  refine ⟨A', c', rfl, h1, (Below.refl B w).grown hg2 hB fun k hk => ?_⟩
  rcases Own4.form (l := l) hown with ⟨rfl, _⟩ | ⟨g, rfl, hbg, _⟩
  · simp [Value.ownBlock] at hk
  · simp [Value.ownBlock] at hk; omega
/-- out = append(out, y), the block y in a new cell block. -/
theorem wpList_app4 {rest : List Oper} (w : World) (hgd : o.guard = none) (s x : Operand) (ho : o.op = .call { callee := .builtin .append, args := #[s, x], argTypes := #[39, 39] })
    (B n c : Nat) (A : Option Addr) (l : List B4) (y : B4) (hs : a.eval s = .slice A n c) (hx : a.eval x = .slice (some ⟨w.heap.size, 0, none⟩) 1 1)
    (hown : Own4 w B A n c l) (hn : n ≤ 1000000) (hB : B ≤ w.heap.size)
    (h : ∀ A' c' w', Own4 w' B A' (n + 1) c' (l ++ [y]) → Below B w w' → wpList Try.prog ops Q rest (a.put o.dst (.slice A' (n + 1) c')) w') :
    wpList Try.prog ops Q (o :: rest) a (w.alloc (.cells #[.int .i64 y.1, .int .i64 y.2.1, .int .i64 y.2.2.1, .int .i64 y.2.2.2] 43)) := by
  obtain ⟨i0, hi, hz0, hz1, hz2⟩ := info_parts info_block
  refine wpList_append_own (P := Try.prog) _ hgd s x 39 ho B 43 i0 (.agg #[.int .i64 0, .int .i64 0, .int .i64 0, .int .i64 0]) 4 32 Try.underlying39 hi hz0 hz1 hz2 rfl (by decide) _ n (cells4 l) hs (World.ownsRow.alloc hown _)
    ⟨w.heap.size, 0, none⟩ 1 1 (cells4 [y]) hx rfl (new4 w y) (cells4_one [y]) (by unfold maxLen; omega) (by omega) (by simp; omega) ?_
  intro v' w' hown' hg _
  obtain ⟨A', c', rfl, h1, h2⟩ := after4 hown hB hown' hg
  exact h A' c' w' h1 h2
/-- The same, as one step of a region. -/
theorem step_app4 {w : World} {K : Act → World → Prop} {E : Prop} (hgd : o.guard = none) (s x : Operand) (hop : o.op = .call { callee := .builtin .append, args := #[s, x], argTypes := #[39, 39] })
    (B n c : Nat) (A : Option Addr) (l : List B4) (y : B4) (hs : a.eval s = .slice A n c) (hx : a.eval x = .slice (some ⟨w.heap.size, 0, none⟩) 1 1)
    (hown : Own4 w B A n c l) (hn : n ≤ 1000000) (hB : B ≤ w.heap.size)
    (hK : ∀ A' c' w', Own4 w' B A' (n + 1) c' (l ++ [y]) → Below B w w' → K (a.put o.dst (.slice A' (n + 1) c')) w') :
    if Region.wanted o (yielded ops a.tmps) = true then Oper.wp Try.prog o a (w.alloc (.cells #[.int .i64 y.1, .int .i64 y.2.1, .int .i64 y.2.2.1, .int .i64 y.2.2.2] 43)) K Q else E := by
  obtain ⟨i0, hi, hz0, hz1, hz2⟩ := info_parts info_block
  have hw : Region.wanted o (yielded ops a.tmps) = true := by simp [Region.wanted, hgd]
  rw [if_pos hw]
  refine wp_append_own (P := Try.prog) _ s x 39 hop B 43 i0 (.agg #[.int .i64 0, .int .i64 0, .int .i64 0, .int .i64 0]) 4 32 Try.underlying39 hi hz0 hz1 hz2 rfl (by decide) _ n (cells4 l) hs (World.ownsRow.alloc hown _)
    ⟨w.heap.size, 0, none⟩ 1 1 (cells4 [y]) hx rfl (new4 w y) (cells4_one [y]) (by unfold maxLen; omega) (by omega) (by simp; omega) ?_
  intro v' w' hown' hg _
  obtain ⟨A', c', rfl, h1, h2⟩ := after4 hown hB hown' hg
  exact hK A' c' w' h1 h2
end

/-- The blocks of the first i numbers of a row, the last one first. -/
def blR (f : Nat → Rat) : Nat → List (Nat × Nat × Rat)
  | 0 => []
  | i + 1 => match blR f i with
    | [] => [(i, i, f i)]
    | (a, b, q) :: rest => if q = f i then (a, i, q) :: rest else (i, i, f i) :: (a, b, q) :: rest
theorem blR_nil {f : Nat → Rat} {i : Nat} (h : blR f i = []) : blR f (i + 1) = [(i, i, f i)] := by rw [blR, h]
theorem blR_same {f : Nat → Rat} {i a b : Nat} {q : Rat} {rest} (h : blR f i = (a, b, q) :: rest) (e : q = f i) : blR f (i + 1) = (a, i, q) :: rest := by rw [blR, h]; exact if_pos e
theorem blR_new {f : Nat → Rat} {i a b : Nat} {q : Rat} {rest} (h : blR f i = (a, b, q) :: rest) (e : ¬ q = f i) : blR f (i + 1) = (i, i, f i) :: (a, b, q) :: rest := by rw [blR, h]; exact if_neg e
theorem blR_len (f : Nat → Rat) : ∀ i, (blR f i).length ≤ i := by
  intro i
  induction i with
  | zero => exact Nat.le_refl _
  | succ i ih =>
    cases h : blR f i with
    | nil => rw [blR_nil h]; simp
    | cons x rest =>
      obtain ⟨a, b, q⟩ := x
      rw [h] at ih
      simp only [List.length_cons] at ih
      by_cases e : q = f i
      · rw [blR_same h e]; simp only [List.length_cons]; omega
      · rw [blR_new h e]; simp only [List.length_cons]; omega
def tri (r : Rn) : Nat × Nat × Rat := (r.a, r.b, rt r.n r.d)
theorem stk_bl {xs : Rd} (o : okH xs = true) {f : Nat → Rat} : ∀ {st : List Rn} {i : Nat}, Stk xs st i → (∀ j, j < i → f j = (rowS st).getD j 0) → blR f i = st.map tri
  | [], i, s, _ => by
    obtain rfl : i = 0 := s
    rfl
  | r :: rest, i, s, hf => by
    have hs := s
    obtain ⟨rfl, g, top, s'⟩ := s
    have hle := g.le
    have ih := stk_bl o s' (f := f) fun j hj => by rw [hf j (by omega), rowS_old hs hj]
    have hv : ∀ j, r.a ≤ j → j ≤ r.b → f j = rt r.n r.d := fun j h1 h2 => by rw [hf j (by omega), rowS_new hs h1 h2]
    have gr := g.pos o
    have step : ∀ k, r.a + k ≤ r.b → blR f (r.a + k + 1) = (r.a, r.a + k, rt r.n r.d) :: rest.map tri := by
      intro k
      induction k with
      | zero =>
        intro h
        rw [Nat.add_zero]
        cases rest with
        | nil =>
          rw [blR_nil ih, hv r.a (Nat.le_refl _) hle]
          rfl
        | cons s2 rest2 =>
          have ne : ¬ rt s2.n s2.d = f r.a := fun e => by
            rw [hv r.a (Nat.le_refl _) hle] at e
            have g2 := (s'.2.1).pos o
            rw [rt_inj (by omega) (by omega)] at e
            have := top s2 rfl
            omega
          rw [blR_new (a := s2.a) (b := s2.b) (q := rt s2.n s2.d) (rest := rest2.map tri) ih ne, hv r.a (Nat.le_refl _) hle]
          rfl
      | succ k ihk =>
        intro h
        have := ihk (by omega)
        rw [show r.a + (k + 1) = r.a + k + 1 by omega]
        exact blR_same this (hv _ (by omega) (by omega)).symm
    have := step (r.b - r.a) (by omega)
    rw [show r.a + (r.b - r.a) = r.b by omega] at this
    exact this
def b4 (x : Nat × Nat × Rat) : B4 := (x.1, x.2.1, nu x.2.2, de x.2.2)
/-- The blocks of the best row. -/
def blocks (xs : Rd) : List B4 := ((blR (rr xs) xs.length).reverse).map b4
theorem blocks_runs {xs : Rd} (o : okH xs = true) {l : List Rn} (s : Stk xs l.reverse xs.length) : blocks xs = l.map fun r => b4 (tri r) := by
  have hb := rowS_best o s
  have e := stk_bl o (f := rr xs) s fun j hj => by rw [hb]; rfl
  unfold blocks
  rw [e]
  simp [List.map_reverse, Function.comp_def]
theorem stk_good {xs : Rd} : ∀ {st : List Rn} {i : Nat}, Stk xs st i → ∀ r, r ∈ st → Good xs r
  | [], _, _, r, h => by cases h
  | x :: rest, i, s, r, h => by
    obtain ⟨_, g, _, s'⟩ := s
    rcases List.mem_cons.1 h with e | h
    · rw [e]; exact g
    · exact stk_good s' r h
theorem good_mq {xs : Rd} {r : Rn} (g : Good xs r) : rt r.n r.d = mq xs r.a r.b := by
  unfold mq
  rw [mn_rt, g.num, g.den]
/-- Each block has the mean of its hours. -/
theorem blocks_mean {xs : Rd} (o : okH xs = true) {k : Nat} (hk : k < (blocks xs).length) :
    ∃ a b : Nat, a ≤ b ∧ b < xs.length ∧ (blocks xs).getD k z4 = ((a : Int), (b : Int), nu (mq xs a b), de (mq xs a b)) := by
  obtain ⟨st, hst⟩ := stk_exists o xs.length (Nat.le_refl _)
  have e := blocks_runs o (l := st.reverse) (by rw [List.reverse_reverse]; exact hst)
  rw [e, List.length_map] at hk
  have hm : st.reverse[k] ∈ st := List.mem_reverse.1 (List.getElem_mem hk)
  have g := stk_good hst _ hm
  refine ⟨st.reverse[k].a, st.reverse[k].b, g.le, g.lt, ?_⟩
  rw [e, ← good_mq g]
  simp only [List.getD_eq_getElem?_getD, List.getElem?_map, List.getElem?_eq_getElem hk, Option.map_some, Option.getD_some]
  rfl
end Go.Proofs.Ytlmmkaadoicogaa
