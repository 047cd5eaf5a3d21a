/- The search, where it keeps what is normal. -/
import Derived.Test.YtllfkhcpdgdmnaaSho
namespace Go.Proofs.Ytllfkhcpdgdmnaa
open Go.RowKit

/-- The header of a row. -/
abbrev Hd := Option Addr × Nat × Nat
def EH : Enc Hd := { size := 1, enc := fun h => [.slice h.1 h.2.1 h.2.2], len := fun _ => rfl, one := fun x u h => by simp at h; subst h; rfl, d := (none, 0, 0) }
theorem info_row : (Try.prog.info? 22).map (fun i => (i.zero, i.size, i.bytes)) = some (some (.slice none 0 0), 1, 24) := by kernel_rfl

section
variable {α β : Type} {E : Enc α} {E' : Enc β} {w w' : World} {B B' n c n' c' : Nat} {e e' : TypeId} {A A' : Option Addr} {l : List α} {l' : List β}
theorem own_ne (h : Own E w B e A n c l) (h' : Own E' w B' e' A' n' c' l') (hte : e ≠ e') : (Value.slice A n c).ownBlock = none ∨ (Value.slice A n c).ownBlock ≠ (Value.slice A' n' c').ownBlock := by
  rcases h.2.2 with ⟨hv, _⟩ | ⟨g, cap, cur, hv, hb, hg, _⟩
  · simp at hv
    obtain ⟨h1, _⟩ := hv
    left
    rw [h1]
    rfl
  · right
    simp at hv
    obtain ⟨h1, _⟩ := hv
    rw [h1]
    intro e1
    rcases h'.2.2 with ⟨hv', _⟩ | ⟨g', cap', cur', hv', hb', hg', _⟩
    · simp at hv'
      obtain ⟨h2, _⟩ := hv'
      rw [h2] at e1
      simp [Value.ownBlock] at e1
    · simp at hv'
      obtain ⟨h2, _⟩ := hv'
      rw [h2] at e1
      simp [Value.ownBlock] at e1
      subst e1
      rw [hg] at hg'
      cases hg'
      exact hte rfl
/-- A row is kept by what keeps its block. -/
theorem Own.held (h : Own E w B e A n c l) (hs : ∀ g, A = some ⟨g, 0, none⟩ → w'.heap[g]? = w.heap[g]?) : Own E w' B e A n c l := by
  refine ⟨h.1, h.2.1, ?_⟩
  rcases h.2.2 with h1 | ⟨g, cap, cur, hv, hb, hg, r⟩
  · exact .inl h1
  · refine .inr ⟨g, cap, cur, hv, hb, ?_, r⟩
    simp at hv
    rw [hs g hv.1]
    exact hg
theorem Own.live (h : Own E w B e A n c l) : ∀ g, A = some ⟨g, 0, none⟩ → g < w.heap.size := by
  intro g hg
  rcases h.form with ⟨h1, _⟩ | ⟨g', h1, _, h2, _⟩
  · rw [h1] at hg; cases hg
  · rw [h1] at hg; cases hg; exact h2
end
/-- The variable at ga holds the rows; none of their blocks is among Av. -/
def AllAt (w : World) (B ga : Nat) (Av : Nat → Prop) (rows : List (List Int)) : Prop :=
  ∃ (A : Option Addr) (n c : Nat) (hs : List Hd), Bk w ga 35 #[.slice A n c] ∧ Own EH w B 22 A n c hs ∧ B ≤ ga ∧ ¬ Av ga ∧ (∀ g, A = some ⟨g, 0, none⟩ → ¬ Av g) ∧ rows.length = n ∧
    ∀ i, i < n → Own E1 w B 3 (hs.getD i EH.d).1 (hs.getD i EH.d).2.1 (hs.getD i EH.d).2.2 (rows.getD i []) ∧ ∀ g, (hs.getD i EH.d).1 = some ⟨g, 0, none⟩ → ¬ Av g
section
variable {w w' : World} {B ga : Nat} {Av Av' : Nat → Prop} {rows : List (List Int)}
/-- What keeps all but Av keeps the rows. -/
theorem AllAt.held (h : AllAt w B ga Av rows) (hk : ∀ g, g < w.heap.size → ¬ Av g → w'.heap[g]? = w.heap[g]?) : AllAt w' B ga Av rows := by
  obtain ⟨A, n, c, hs, h1, h2, h3, h4, h5, h6, h7⟩ := h
  refine ⟨A, n, c, hs, (hk ga h1.in_ h4).trans h1, h2.held (fun g hg => hk g (h2.live g hg) (h5 g hg)), h3, h4, h5, h6, fun i hi => ?_⟩
  obtain ⟨h8, h9⟩ := h7 i hi
  exact ⟨h8.held (fun g hg => hk g (h8.live g hg) (h9 g hg)), h9⟩
/-- Other blocks avoided. -/
theorem AllAt.avoid (h : AllAt w B ga Av rows) (hk : ∀ g, g < w.heap.size → Av' g → Av g) : AllAt w B ga Av' rows := by
  obtain ⟨A, n, c, hs, h1, h2, h3, h4, h5, h6, h7⟩ := h
  refine ⟨A, n, c, hs, h1, h2, h3, fun h => h4 (hk _ h1.in_ h), fun g hg h => h5 g hg (hk _ (h2.live g hg) h), h6, fun i hi => ?_⟩
  obtain ⟨h8, h9⟩ := h7 i hi
  exact ⟨h8, fun g hg h => h9 g hg (hk _ (h8.live g hg) h)⟩
theorem AllAt.below (h : AllAt w B ga Av rows) (hb : Below w.heap.size w w') : AllAt w' B ga Av rows := h.held fun g hg _ => hb.block g hg
theorem AllAt.one {A : Option Addr} {n c : Nat} {L : List Int} {hs : List Hd} {Aa : Option Addr} {na ca : Nat} (hbk : Bk w ga 35 #[.slice Aa (na + 1) ca]) (ho : Own EH w B 22 Aa (na + 1) ca (hs ++ [(A, n, c)])) (h3 : B ≤ ga) (h4 : ¬ Av ga) (h5 : ∀ g, Aa = some ⟨g, 0, none⟩ → ¬ Av g) (h6 : rows.length = na)
    (h7 : ∀ i, i < na → Own E1 w B 3 (hs.getD i EH.d).1 (hs.getD i EH.d).2.1 (hs.getD i EH.d).2.2 (rows.getD i []) ∧ ∀ g, (hs.getD i EH.d).1 = some ⟨g, 0, none⟩ → ¬ Av g)
    (hL : Own E1 w B 3 A n c L) (hA : ∀ g, A = some ⟨g, 0, none⟩ → ¬ Av g) : AllAt w B ga Av (rows ++ [L]) := by
  have hl : hs.length = na := by have := ho.len; simpa using this
  refine ⟨Aa, na + 1, ca, _, hbk, ho, h3, h4, h5, by simp [h6], fun i hi => ?_⟩
  by_cases e : i < na
  · have e1 : (hs ++ [(A, n, c)]).getD i EH.d = hs.getD i EH.d := by
      rw [List.getD_eq_getElem?_getD, List.getElem?_append_left (by omega), ← List.getD_eq_getElem?_getD]
    have e2 : (rows ++ [L]).getD i [] = rows.getD i [] := by
      rw [List.getD_eq_getElem?_getD, List.getElem?_append_left (by omega), ← List.getD_eq_getElem?_getD]
    rw [e1, e2]
    exact h7 i e
  · obtain rfl : i = na := by omega
    have e1 : (hs ++ [(A, n, c)]).getD i EH.d = (A, n, c) := by
      rw [List.getD_eq_getElem?_getD, List.getElem?_append_right (by omega), hl, Nat.sub_self]; rfl
    have e2 : (rows ++ [L]).getD i [] = L := by
      rw [List.getD_eq_getElem?_getD, List.getElem?_append_right (by omega), h6, Nat.sub_self]; rfl
    rw [e1, e2]
    exact ⟨hL, hA⟩
end

section
variable {α : Type} {E : Enc α} {P : Program} (w : World) {ops : Array Oper} {rest : List Oper} {o : Oper} {a : Act} {Q : Exit → Act → World → Prop}
/-- out = append(out, x): x lies in a new block of its own; where the row lies then. -/
theorem wpList_app1L (z : Value) (bytes : Nat) (hgd : o.guard = none) (s x : Operand) (t e : TypeId) (ho : o.op = .call { callee := .builtin .append, args := #[s, x], argTypes := #[t, t] })
    (hu : P.underlying t = some (.slice e)) (hinfo : (P.info? e).map (fun i => (i.zero, i.size, i.bytes)) = some (some z, E.size, bytes)) (hz : z.cells.size = E.size) (hE : 0 < E.size) (hby : bytes ≤ 64)
    (B n c : Nat) (A : Option Addr) (l : List α) (y : α) (cs : Array Value) (hcs : cs = (E.enc y).toArray) (hs : a.eval s = .slice A n c) (hx : a.eval x = .slice (some ⟨w.heap.size, 0, none⟩) 1 1)
    (hown : Own E w B e A n c l) (hn : n ≤ 1000000000) (hB : B ≤ w.heap.size)
    (h : ∀ g' c' w', Own E w' B e (some ⟨g', 0, none⟩) (n + 1) c' (l ++ [y]) → Below B w w' → w.grownBy w' (Value.slice A n c).ownBlock → (A = some ⟨g', 0, none⟩ ∨ w.heap.size ≤ g') → wpList P ops Q rest (a.put o.dst (.slice (some ⟨g', 0, none⟩) (n + 1) c')) w') :
    wpList P ops Q (o :: rest) a (w.alloc (.cells cs e)) := by
  subst hcs
  obtain ⟨i0, hi, hz0, hz1, hz2⟩ := info_parts hinfo
  have hlen := E.len y
  have hl := hown.len
  refine wpList_append_lies (w.alloc (.cells (E.enc y).toArray e)) hgd s x t ho B e i0 z E.size bytes hu hi hz0 hz1 hz2 hz hE _ n (E.cells l) hs (World.ownsRow.alloc hown.2 _)
    ⟨w.heap.size, 0, none⟩ 1 1 (E.enc y) hx (by omega) (fun j u hu => World.news_of_block (heap_alloc_new w (.cells (E.enc y).toArray e)) j u (by simpa using hu)) (E.one y) (by omega) (by unfold maxLen; omega) ?_ (by simp; omega) _ rfl ?_
  · have : (n + 1) * bytes ≤ (n + 1) * 64 := Nat.mul_le_mul_left _ hby
    omega
  · intro g cap w' hown' hg hgo _
    have hown2 : w'.ownsRow B e E.size (.slice (some ⟨g, 0, none⟩) (n + 1) cap) (n + 1) (E.cells (l ++ [y])) := by
      rw [E.cells_app]
      have e1 : E.cells [y] = E.enc y := by simp [Enc.cells]
      rw [e1]
      exact hown'
    have hg2 : w.grownBy w' (Value.slice A n c).ownBlock :=
      ⟨hg.os, hg.tape, hg.output, Nat.le_trans (by simp) hg.size, fun k hk hne => (hg.block k (by simp; omega) hne).trans (Below.heap_alloc w _ k hk)⟩
    refine h g cap w' ⟨by simp [hl], hown2⟩ ((Below.refl B w).grown hg2 hB fun k hk => ?_) hg2 ?_
    · rcases hown.form with ⟨rfl, _⟩ | ⟨g, rfl, hbg, _⟩
      · simp [Value.ownBlock] at hk
      · simp [Value.ownBlock] at hk; omega
    · rcases hgo with h1 | h1
      · rcases hown.form with ⟨rfl, _⟩ | ⟨g', rfl, hbg, _⟩
        · simp [Value.ownBlock] at h1
        · simp [Value.ownBlock] at h1
          left
          rw [h1]
      · right
        rw [h1]
        simp
end
section
variable {α : Type} {E : Enc α} {w w' : World} {B n c p : Nat} {e t : TypeId} {A : Option Addr} {l : List α} {cs : Array Value}
theorem own_bk_ne (h : Own E w B e A n c l) (hb : Bk w p t cs) (hte : t ≠ e) : (Value.slice A n c).ownBlock = none ∨ (Value.slice A n c).ownBlock ≠ some p := by
  rcases h.2.2 with ⟨hv, _⟩ | ⟨g, cap, cur, hv, _, hg, _⟩
  · simp at hv
    obtain ⟨h1, _⟩ := hv
    left
    rw [h1]
    rfl
  · right
    simp at hv
    obtain ⟨h1, _⟩ := hv
    rw [h1]
    intro e1
    simp [Value.ownBlock] at e1
    subst e1
    rw [show w.heap[g]? = _ from hb] at hg
    cases hg
    exact hte rfl
theorem own_setBk (h : Own E w B e A n c l) (hb : Bk w p t cs) (hte : t ≠ e) (i : Nat) (v : Value) : Own E (w.setCell ⟨p, i, none⟩ v) B e A n c l :=
  h.kept (row := some p) ⟨rfl, rfl, rfl, by simp, fun k _ hn => Below.heap_setCell w ⟨p, i, none⟩ v k (fun e => hn (by rw [e]))⟩ (own_bk_ne h hb hte)
end

/-- What the closure leaves. -/
def KeepPost (B ga : Nat) (Av : Nat → Prop) (rows : List (List Int)) (w : World) (e : Ending) (w' : World) : Prop :=
  e = .returned (.tuple #[]) ∧ AllAt w' B ga Av rows ∧ (∀ x, Av x → w'.heap[x]? = w.heap[x]?) ∧ Below B w w'
set_option maxRecDepth 100000 in
set_option maxHeartbeats 4000000 in
theorem All1_any (B ga g2 n c2 : Nat) (Av : Nat → Prop) (L : List Int) (rows : List (List Int)) (w : World) (hA : AllAt w B ga Av rows) (hO : Own E1 w B 3 (some ⟨g2, 0, none⟩) n c2 L) (hg : ¬ Av g2) (hAv : ∀ x, Av x → x < w.heap.size)
    (hn1 : 1 ≤ n) (hn : n ≤ 10) (hb : ∀ k, k < n → -1000 ≤ L.getD k 0 ∧ L.getD k 0 ≤ 1000) (hr : rows.length < 1000000000) (hB : B ≤ w.heap.size) :
    Calls Try.prog 75 #[.slice (some ⟨g2, 0, none⟩) n c2, .pointer (some ⟨ga, 0, none⟩)] w (KeepPost B ga Av (if norB L then rows ++ [L] else rows) w) := by
  have HO := hide hO
  have HA := hide hA
  have HB := hide hb
  clear hA hO hb
  cases hnb : norB L with
  | false =>
    have HN := hide hnb
    clear hnb
    go_enter Try.func75, Try.ntmps75
    go_wp2_with (go_at_call 76; refine (isNormal_any _ n c2 L _ HO.out.row hn1 hn HB.out).mono ?_; rintro e w1 ⟨rfl, b1⟩; rw [HN.out]; have B1 := hide b1; clear b1)
    go_end0
    exact ⟨rfl, HA.out.below B1.out, fun x hx => B1.out.block x (hAv x hx), B1.out.mono hB⟩
  | true =>
    have HN := hide hnb
    clear hnb
    go_enter Try.func75, Try.ntmps75
    go_wp2_with (first
      | (go_at_call 76; refine (isNormal_any _ n c2 L _ HO.out.row hn1 hn HB.out).mono ?_; rintro e w1 ⟨rfl, b1⟩; rw [HN.out]; have B1 := hide b1; have hB1 := b1.size; obtain ⟨A, na, ca, hs, h1, h2, h3, h4, h5, h6, h7⟩ := HA.out.below b1; have k1 := h1.at_ 0; simp at k1; have z1 := h1.fr 0; have H1 := hide h1; have H2 := hide h2; have H5 := hide h5; have H7 := hide h7; clear b1 h1 h2 h5 h7)
      | (at_builtin; refine wpList_app1L (E := EH) w1 (.slice none 0 0) 24 rfl (.tmp 5) (.tmp 7) 35 22 rfl Try.underlying35 info_row rfl (by decide) (by omega) B na ca A hs (some ⟨g2, 0, none⟩, n, c2) _ rfl rfl rfl H2.out (by omega) (by omega) ?_; intro g5 c5 w5 o5 b5 r5 e5; have h15 := bk_row H1.out H2.out (by decide) r5; have k5 := h15.at_ 0; simp at k5; have z5 := h15.fr 0; have H15 := hide h15; have HO5 := hide o5; have HB5 := hide b5; have HR5 := hide r5; have HE5 := hide e5; clear h15 o5 b5 r5 e5))
    go_end0
    have hne : ∀ g, g5 = g → ¬ Av g := by
      rintro g rfl hx
      rcases HE5.out with h | h
      · exact H5.out g5 h hx
      · have := hAv _ hx; omega
    have hrow : ∀ {A' : Option Addr} {n' c' : Nat} {l : List Int}, Own E1 w1 B 3 A' n' c' l → Own E1 (w5.setCell ⟨ga, 0, none⟩ (.slice (some ⟨g5, 0, none⟩) (na + 1) c5)) B 3 A' n' c' l := fun h =>
      own_setBk (h.kept HR5.out (own_ne h H2.out (by decide))) H15.out (by decide) 0 _
    refine ⟨rfl, AllAt.one (na := na) (by have := H15.out.put 0 (.slice (some ⟨g5, 0, none⟩) (na + 1) c5); simpa using this) (own_setBk HO5.out H15.out (by decide) 0 _) h3 h4 (fun g hg' => by cases hg'; exact hne _ rfl) h6 (fun i hi => ⟨hrow (H7.out i hi).1, (H7.out i hi).2⟩) (hrow (HO.out.below B1.out (Nat.le_refl _))) (fun g hg' => by cases hg'; exact hg), fun x hx => ?_, ((B1.out.mono hB).trans HB5.out).setCell (p := ⟨ga, 0, none⟩) h3 _⟩
    have hx1 := hAv x hx
    refine (Below.heap_setCell w5 ⟨ga, 0, none⟩ _ x (fun e => h4 (by have e' : x = ga := e; rw [← e']; exact hx))).trans ((HR5.out.block x (by omega) (fun e => ?_)).trans (B1.out.block x hx1))
    rcases H2.out.form with ⟨hh, _⟩ | ⟨g', hh, _⟩
    · rw [hh] at e
      simp [Value.ownBlock] at e
    · rw [hh] at e
      simp [Value.ownBlock] at e
      exact H5.out g' hh (e ▸ hx)
end Go.Proofs.Ytllfkhcpdgdmnaa
