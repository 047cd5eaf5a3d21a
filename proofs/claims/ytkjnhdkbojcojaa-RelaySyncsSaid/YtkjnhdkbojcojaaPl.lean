/- Places: rows of a node and the header of its word, the words in rows of their own. -/
import Derived.Test.YtkjnhdkbojcojaaRow
import Derived.Test.YtkjnhdkbojcojaaMB
import Derived.Deep.AppendLies
namespace Go.Proofs.Ytkjnhdkbojcojaa
open Go.RowKit Go.Shelf

theorem epl_one {α : Type} (E : Enc α) (x : α × Hd) : ∀ u ∈ E.enc x.1 ++ [.slice x.2.1 x.2.2.1 x.2.2.2], u.oneCell' = true := fun u h => by
  rcases List.mem_append.1 h with h | h
  · exact E.one x.1 u h
  · simp at h; subst h; rfl
def EPl {α : Type} (E : Enc α) : Enc (α × Hd) := { size := E.size + 1, enc := fun x => E.enc x.1 ++ [.slice x.2.1 x.2.2.1 x.2.2.2], len := fun x => by simp [E.len], one := epl_one E, d := (E.d, none, 0, 0) }
section
variable {α : Type} {E : Enc α}
/-- The word of a place. -/
def WordAt (w : World) (B : Nat) (h : Hd) (l : List Int) : Prop := Own E1 w B 3 h.1 h.2.1 h.2.2 l
structure Pls (E : Enc α) (w : World) (B : Nat) (e : TypeId) (A : Option Addr) (n c : Nat) (hs : List (α × Hd)) (V : Pl α) : Prop where
  own : Own (EPl E) w B e A n c hs
  len : V.length = n
  fst : hs.map Prod.fst = V.map Prod.fst
  wd : ∀ k, k < n → WordAt w B (hs.getD k (EPl E).d).2 (V.getD k (E.d, [])).2
variable {w w' : World} {B n c : Nat} {e : TypeId} {A : Option Addr} {hs : List (α × Hd)} {V : Pl α}
theorem Pls.below (h : Pls E w B e A n c hs V) {B' : Nat} (hb : Below B' w w') (hB : w.heap.size ≤ B') : Pls E w' B e A n c hs V := ⟨h.own.below hb hB, h.len, h.fst, fun k hk => Own.below (h.wd k hk) hb hB⟩
theorem Pls.more (h : Pls E w B e A n c hs V) {B' : Nat} (hB : B' ≤ B) : Pls E w B' e A n c hs V := ⟨h.own.more hB, h.len, h.fst, fun k hk => Own.more (h.wd k hk) hB⟩
theorem Pls.drew (h : Pls E w B e A n c hs V) : Pls E w.drew B e A n c hs V := ⟨h.own.drew, h.len, h.fst, fun k hk => Own.drew (h.wd k hk)⟩
theorem Pls.hl (h : Pls E w B e A n c hs V) : hs.length = n := h.own.len
theorem Pls.node (h : Pls E w B e A n c hs V) {k : Nat} (hk : k < n) : (hs.getD k (EPl E).d).1 = (V.getD k (E.d, [])).1 := by
  have h1 := h.hl
  have h2 := h.len
  have h3 : (hs.map Prod.fst)[k]? = (V.map Prod.fst)[k]? := by rw [h.fst]
  rw [List.getElem?_map, List.getElem?_map, List.getElem?_eq_getElem (by omega), List.getElem?_eq_getElem (by omega)] at h3
  rw [List.getD_eq_getElem?_getD, List.getD_eq_getElem?_getD, List.getElem?_eq_getElem (by omega), List.getElem?_eq_getElem (by omega)]
  simpa using h3
/-- A place more. -/
theorem Pls.add (h : Pls E w B e A n c hs V) (he : e ≠ 3) {A' : Option Addr} {c' : Nat} {x : α} {hd : Hd} {l : List Int} (ho : Own (EPl E) w' B e A' (n + 1) c' (hs ++ [(x, hd)])) (hg : w.grownBy w' (Value.slice A n c).ownBlock) (hw : WordAt w B hd l) : Pls E w' B e A' (n + 1) c' (hs ++ [(x, hd)]) (V ++ [(x, l)]) := by
  have keep : ∀ {hd : Hd} {l : List Int}, WordAt w B hd l → WordAt w' B hd l := fun {hd l} hw => by
    refine Own.kept (E := E1) hw hg ?_
    rcases Own.form (E := E1) hw with ⟨h1, _⟩ | ⟨g, h1, _⟩
    · left; rw [h1]; rfl
    · right
      have hw' : Own E1 w B 3 (some ⟨g, 0, none⟩) hd.2.1 hd.2.2 l := by rw [← h1]; exact hw
      rcases own_ne h.own hw' (by intro e; exact he e.symm) with e1 | e1
      · rw [e1, h1]; simp [Value.ownBlock]
      · rw [h1]; intro e2; exact e1 (e2.symm.trans (by simp [Value.ownBlock]))
  have hl := h.hl
  have hl2 := h.len
  refine ⟨ho, by simp [hl2], by simp [h.fst], fun k hk => ?_⟩
  by_cases e1 : k = n
  · subst e1
    have a1 : (hs ++ [(x, hd)]).getD k (EPl E).d = (x, hd) := by rw [List.getD_eq_getElem?_getD, List.getElem?_append_right (by omega), hl]; simp
    have a2 : (V ++ [(x, l)]).getD k (E.d, []) = (x, l) := by rw [List.getD_eq_getElem?_getD, List.getElem?_append_right (by omega), hl2]; simp
    rw [a1, a2]; exact keep hw
  · have a1 : (hs ++ [(x, hd)]).getD k (EPl E).d = hs.getD k (EPl E).d := by rw [List.getD_eq_getElem?_getD, List.getD_eq_getElem?_getD, List.getElem?_append_left (by omega)]
    have a2 : (V ++ [(x, l)]).getD k (E.d, []) = V.getD k (E.d, []) := by rw [List.getD_eq_getElem?_getD, List.getD_eq_getElem?_getD, List.getElem?_append_left (by omega)]
    rw [a1, a2]; exact keep (h.wd k (by omega))
end
section
variable {α : Type} {E : Enc α} {P : Program} (w : World) {ops : Array Oper} {o : Oper} {a : Act} {K : Act → World → Prop} {Q : Exit → Act → World → Prop} {F : Prop}
/-- out = append(out, x) at a step of a region that draws its order. -/
theorem step_app1G (z : Value) (bytes : Nat) (hgd : o.guard = none) (s x : Operand) (t e : TypeId) (ho : o.op = .call { callee := .builtin .append, args := #[s, x], argTypes := #[t, t] })
    (hu : P.underlying t = some (.slice e)) (hinfo : (P.info? e).map (fun i => (i.zero, i.size, i.bytes)) = some (some z, E.size, bytes)) (hz : z.cells.size = E.size) (hE : 0 < E.size) (hby : bytes ≤ 64)
    (B n c : Nat) (A : Option Addr) (l : List α) (y : α) (cs : Array Value) (hcs : cs = (E.enc y).toArray) (hs : a.eval s = .slice A n c) (hx : a.eval x = .slice (some ⟨w.heap.size, 0, none⟩) 1 1)
    (hown : Own E w B e A n c l) (hn : n ≤ 1000000) (hB : B ≤ w.heap.size)
    (h : ∀ A' c' w', Own E w' B e A' (n + 1) c' (l ++ [y]) → Below B w w' → w.grownBy w' (Value.slice A n c).ownBlock → K (a.put o.dst (.slice A' (n + 1) c')) w') :
    if Region.wanted o (yielded ops a.tmps) = true then Oper.wp P o a (w.alloc (.cells cs e)) K Q else F := by
  subst hcs
  obtain ⟨i0, hi, hz0, hz1, hz2⟩ := info_parts hinfo
  have hlen := E.len y
  have hl := hown.len
  refine step_append_lies (w.alloc (.cells (E.enc y).toArray e)) hgd s x t ho B e i0 z E.size bytes hu hi hz0 hz1 hz2 hz hE _ n (E.cells l) hs (World.ownsRow.alloc hown.2 _)
    ⟨w.heap.size, 0, none⟩ 1 1 (E.enc y) hx (by omega) (fun j u hu => World.news_of_block (heap_alloc_new w (.cells (E.enc y).toArray e)) j u (by simpa using hu)) (E.one y) (by omega) (by unfold maxLen; omega) ?_ (by simp; omega) _ rfl ?_
  · have : (n + 1) * bytes ≤ (n + 1) * 64 := Nat.mul_le_mul_left _ hby
    omega
  · intro g cap w' hown' hg _ _
    have hown2 : w'.ownsRow B e E.size (.slice (some ⟨g, 0, none⟩) (n + 1) cap) (n + 1) (E.cells (l ++ [y])) := by
      rw [E.cells_app]
      have e1 : E.cells [y] = E.enc y := by simp [Enc.cells]
      rw [e1]
      exact hown'
    have hg2 : w.grownBy w' (Value.slice A n c).ownBlock :=
      ⟨hg.os, hg.tape, hg.output, Nat.le_trans (by simp) hg.size, fun k hk hne => (hg.block k (by simp; omega) hne).trans (Below.heap_alloc w _ k hk)⟩
    refine h _ cap w' ⟨by simp [hl], hown2⟩ ((Below.refl B w).grown hg2 hB fun k hk => ?_) hg2
    rcases hown.form with ⟨rfl, _⟩ | ⟨g, rfl, hbg, _⟩
    · simp [Value.ownBlock] at hk
    · simp [Value.ownBlock] at hk; omega
end
section
variable {α : Type} {E : Enc α}
/-- What the search of the library says of a row. -/
theorem idx_some {V : Pl α} {p : α → Bool} {k : Nat} {d : α} (hk : k < V.length) (h : p (V.getD k (d, [])).1 = true) (hn : ∀ j, j < k → p (V.getD j (d, [])).1 = false) : idxP V p = (k : Int) := by
  have e1 : V.findIdx? (fun e => p e.1) = some k := by
    rw [List.findIdx?_eq_some_iff_getElem]
    refine ⟨hk, ?_, fun j hj => ?_⟩
    · have := h; rwa [List.getD_eq_getElem?_getD, List.getElem?_eq_getElem hk] at this
    · have := hn j hj; rw [List.getD_eq_getElem?_getD, List.getElem?_eq_getElem (by omega)] at this; simpa using this
  rw [idxP, e1]
theorem idx_none {V : Pl α} {p : α → Bool} {d : α} (hn : ∀ j, j < V.length → p (V.getD j (d, [])).1 = false) : idxP V p = -1 := by
  have e1 : V.findIdx? (fun e => p e.1) = none := by
    rw [List.findIdx?_eq_none_iff]
    intro e he
    obtain ⟨j, hj, rfl⟩ := List.mem_iff_getElem.1 he
    have := hn j hj
    rwa [List.getD_eq_getElem?_getD, List.getElem?_eq_getElem hj] at this
  rw [idxP, e1]
theorem idx_cases (V : Pl α) (p : α → Bool) (d : α) : (∃ k, k < V.length ∧ idxP V p = (k : Int) ∧ V.find? (fun e => p e.1) = some (V.getD k (d, []))) ∨ (idxP V p = -1 ∧ V.find? (fun e => p e.1) = none ∧ V.any (fun e => p e.1) = false) := by
  unfold idxP
  cases h : V.findIdx? (fun e => p e.1) with
  | some k =>
    left
    obtain ⟨hk, h1, h2⟩ := List.findIdx?_eq_some_iff_getElem.1 h
    refine ⟨k, hk, rfl, ?_⟩
    rw [List.find?_eq_some_iff_getElem]
    refine ⟨?_, k, hk, ?_, fun j hj => ?_⟩
    · rw [List.getD_eq_getElem?_getD, List.getElem?_eq_getElem hk]; exact h1
    · rw [List.getD_eq_getElem?_getD, List.getElem?_eq_getElem hk]; rfl
    · have := h2 j hj; simpa using this
  | none =>
    right
    have h1 := List.findIdx?_eq_none_iff.1 h
    exact ⟨rfl, List.find?_eq_none.2 fun x hx => by rw [h1 x hx]; decide, by rw [List.any_eq_false]; intro x hx; rw [h1 x hx]; decide⟩
variable [DecidableEq α]
theorem idx_has (V : Pl α) (x d : α) : (∃ k, idxP V (fun y => y == x) = (k : Int) ∧ (0 : Int) ≤ idxP V (fun y => y == x) ∧ hasP V x = true) ∨ (idxP V (fun y => y == x) = -1 ∧ hasP V x = false) := by
  rcases idx_cases V (fun y => y == x) d with ⟨k, hk, h1, h2⟩ | ⟨h1, _, h3⟩
  · left
    refine ⟨k, h1, by rw [h1]; omega, ?_⟩
    have := List.find?_some h2
    have hm := List.mem_of_find?_eq_some h2
    rw [hasP, List.any_eq_true]
    exact ⟨_, hm, by simpa using this⟩
  · right
    refine ⟨h1, ?_⟩
    rw [hasP]
    rw [← h3]
    first | rfl | (congr 1)
/-- In the midst of a place. -/
def midP (f : α → Int → α) (V : Pl α) (e : α × List Int) : Nat → Pl α
  | 0 => V
  | 1 => halfP f V e
  | _ => expP f V e
theorem midP_add (f : α → Int → α) (V : Pl α) (e : α × List Int) (j : Nat) (hj : j < 2) : midP f V e (j + 1) = addP (midP f V e j) (f e.1 (j : Int)) (e.2 ++ [(j : Int)]) := by
  obtain rfl | rfl : j = 0 ∨ j = 1 := by omega
  · rfl
  · rfl
theorem midP_pre (f : α → Int → α) (V : Pl α) (e : α × List Int) : ∀ j, ∃ M, midP f V e j = V ++ M
  | 0 => ⟨[], by simp [midP]⟩
  | 1 => by obtain ⟨M, h, _⟩ := halfP_pre f V e; exact ⟨M, h⟩
  | j + 2 => expP_pre f V e
theorem midP_get {f : α → Int → α} {V : Pl α} {e : α × List Int} {j i : Nat} {d : α × List Int} (hi : i < V.length) : (midP f V e j).getD i d = V.getD i d := by
  obtain ⟨M, h⟩ := midP_pre f V e j
  rw [h, List.getD_eq_getElem?_getD, List.getElem?_append_left hi, List.getD_eq_getElem?_getD]
theorem wlen_add {L : Pl α} {r : Nat} (h : ∀ e ∈ L, e.2.length ≤ r) (x : α) {w : List Int} (hw : w.length ≤ r) : ∀ e ∈ addP L x w, e.2.length ≤ r := fun e he => by
  unfold addP at he
  split at he
  · exact h e he
  · rcases List.mem_append.1 he with h1 | h1
    · exact h e h1
    · simp at h1; subst h1; exact hw
theorem plN_wlen (f : α → Int → α) (x0 : α) : ∀ (r : Nat), ∀ e ∈ plN f x0 r, e.2.length ≤ r
  | 0, e, he => by simp [plN] at he; subst he; simp
  | r + 1, e, he => by
    have ih := plN_wlen f x0 r
    have ih' : ∀ e ∈ plN f x0 r, e.2.length ≤ r + 1 := fun e he => Nat.le_succ_of_le (ih e he)
    cases h : (plN f x0 r)[r]? with
    | none => rw [plN_none h] at he; exact ih' e he
    | some e0 =>
      rw [plN_some h] at he
      have h0 := ih e0 (List.mem_of_getElem? h)
      exact wlen_add (wlen_add ih' _ (by simp; omega)) _ (by simp; omega) e he
end
end Go.Proofs.Ytkjnhdkbojcojaa
