/- Two tables whose rows lie in blocks of their own: rows appended, numbers stored. -/
import Derived.Test.YtndfdminjegldaaRws
import Derived.Test.YtndfdminjegldaaMI
import Derived.Deep.AppendLies
namespace Go.Proofs.Ytndfdminjegldaa
open Go.RowKit Go.Shelf

section
variable {α : Type} {E : Enc α} {P : Program} (w : World) {ops : Array Oper} {rest : List Oper} {o : Oper} {a : Act} {Q : Exit → Act → World → Prop}
/-- out = append(out, x): x lies in a new block of its own; where the row lies then. -/
theorem wpList_app1L (z : Value) (bytes : Nat) (hgd : o.guard = none) (s x : Operand) (t e : TypeId) (ho : o.op = .call { callee := .builtin .append, args := #[s, x], argTypes := #[t, t] })
    (hu : P.underlying t = some (.slice e)) (hinfo : (P.info? e).map (fun i => (i.zero, i.size, i.bytes)) = some (some z, E.size, bytes)) (hz : z.cells.size = E.size) (hE : 0 < E.size) (hby : bytes ≤ 64)
    (B n c : Nat) (A : Option Addr) (l : List α) (y : α) (cs : Array Value) (hcs : cs = (E.enc y).toArray) (hs : a.eval s = .slice A n c) (hx : a.eval x = .slice (some ⟨w.heap.size, 0, none⟩) 1 1)
    (hown : Own E w B e A n c l) (hn : n ≤ 1000000000) (hB : B ≤ w.heap.size)
    (h : ∀ g' c' w', Own E w' B e (some ⟨g', 0, none⟩) (n + 1) c' (l ++ [y]) → Below B w w' → w.grownBy w' (Value.slice A n c).ownBlock → (A = some ⟨g', 0, none⟩ ∨ w.heap.size ≤ g') → wpList P ops Q rest (a.put o.dst (.slice (some ⟨g', 0, none⟩) (n + 1) c')) w') :
    wpList P ops Q (o :: rest) a (w.alloc (.cells cs e)) := by
  subst hcs
  obtain ⟨i0, hi, hz0, hz1, hz2⟩ := info_parts hinfo
  have hlen := E.len y
  have hl := hown.len
  refine wpList_append_lies (w.alloc (.cells (E.enc y).toArray e)) hgd s x t ho B e i0 z E.size bytes hu hi hz0 hz1 hz2 hz hE _ n (E.cells l) hs (World.ownsRow.alloc hown.2 _)
    ⟨w.heap.size, 0, none⟩ 1 1 (E.enc y) hx (by omega) (fun j u hu => World.news_of_block (heap_alloc_new w (.cells (E.enc y).toArray e)) j u (by simpa using hu)) (E.one y) (by omega) (by unfold maxLen; omega) ?_ (by simp; omega) _ rfl ?_
  · have : (n + 1) * bytes ≤ (n + 1) * 64 := Nat.mul_le_mul_left _ hby
    omega
  · intro g cap w' hown' hg hgo _
    have hown2 : w'.ownsRow B e E.size (.slice (some ⟨g, 0, none⟩) (n + 1) cap) (n + 1) (E.cells (l ++ [y])) := by
      rw [E.cells_app]
      have e1 : E.cells [y] = E.enc y := by simp [Enc.cells]
      rw [e1]
      exact hown'
    have hg2 : w.grownBy w' (Value.slice A n c).ownBlock :=
      ⟨hg.os, hg.tape, hg.output, Nat.le_trans (by simp) hg.size, fun k hk hne => (hg.block k (by simp; omega) hne).trans (Below.heap_alloc w _ k hk)⟩
    refine h g cap w' ⟨by simp [hl], hown2⟩ ((Below.refl B w).grown hg2 hB fun k hk => ?_) hg2 ?_
    · rcases hown.form with ⟨rfl, _⟩ | ⟨g, rfl, hbg, _⟩
      · simp [Value.ownBlock] at hk
      · simp [Value.ownBlock] at hk; omega
    · rcases hgo with h1 | h1
      · rcases hown.form with ⟨rfl, _⟩ | ⟨g', rfl, hbg, _⟩
        · simp [Value.ownBlock] at h1
        · simp [Value.ownBlock] at h1
          left
          rw [h1]
      · right
        rw [h1]
        simp
end
structure Both (w : World) (B : Nat) (A8 : Option Addr) (c8 N : Nat) (A9 : Option Addr) (c9 N' M : Nat) (gs : Nat → Nat) (L : Nat → List Int) (gs' : Nat → Nat) (L' : Nat → List Int) : Prop where
  a : Rws w B A8 c8 N M gs L
  b : Rws w B A9 c9 N' M gs' L'
  sep : ∀ k k', k < N → k' < N' → gs k ≠ gs' k'
  hs : ∀ g, A8 = some ⟨g, 0, none⟩ → A9 ≠ some ⟨g, 0, none⟩
section
variable {w w' : World} {B c8 N c9 N' M : Nat} {A8 A9 : Option Addr} {gs gs' : Nat → Nat} {L L' : Nat → List Int}
theorem Both.below (h : Both w B A8 c8 N A9 c9 N' M gs L gs' L') {B' : Nat} (hb : Below B' w w') (hB : w.heap.size ≤ B') : Both w' B A8 c8 N A9 c9 N' M gs L gs' L' := ⟨h.a.below hb hB, h.b.below hb hB, h.sep, h.hs⟩
theorem Both.drew (h : Both w B A8 c8 N A9 c9 N' M gs L gs' L') : Both w.drew B A8 c8 N A9 c9 N' M gs L gs' L' := ⟨h.a.drew, h.b.drew, h.sep, h.hs⟩
theorem Both.sw (h : Both w B A8 c8 N A9 c9 N' M gs L gs' L') : Both w B A9 c9 N' A8 c8 N M gs' L' gs L := ⟨h.b, h.a, fun k k' hk hk' e => h.sep k' k hk' hk e.symm, fun g h1 h2 => h.hs g h2 h1⟩
theorem Both.setA (h : Both w B A8 c8 N A9 c9 N' M gs L gs' L') {k j : Nat} (hk : k < N) (hj : j < M) (a : Int) : Both (w.setCell ⟨gs k, j, none⟩ (.int .i64 a)) B A8 c8 N A9 c9 N' M gs (fun k' => if k' = k then (L k).set j a else L k') gs' L' :=
  ⟨h.a.set hk hj a, h.b.other h.a (fun k1 k2 h1 h2 e => h.sep k2 k1 h2 h1 e.symm) hk _, h.sep, h.hs⟩
theorem Both.setB (h : Both w B A8 c8 N A9 c9 N' M gs L gs' L') {k j : Nat} (hk : k < N') (hj : j < M) (a : Int) : Both (w.setCell ⟨gs' k, j, none⟩ (.int .i64 a)) B A8 c8 N A9 c9 N' M gs L gs' (fun k' => if k' = k then (L' k).set j a else L' k') :=
  (h.sw.setA hk hj a).sw
theorem Both.nil0 (w : World) (B M : Nat) (gs gs' : Nat → Nat) (L L' : Nat → List Int) : Both w B none 0 0 none 0 0 M gs L gs' L' := ⟨Rws.nil0 .., Rws.nil0 .., fun k k' hk => by omega, fun g h => by cases h⟩
/-- The row of the headers grows: another table stays. -/
theorem Rws.grown {Ah : Option Addr} {nh ch : Nat} {lh : List Hd} (h : Rws w B A9 c9 N' M gs' L') (hh : Own EH w B 22 Ah nh ch lh) (hg : w.grownBy w' (Value.slice Ah nh ch).ownBlock) (hne : ∀ g, Ah = some ⟨g, 0, none⟩ → A9 ≠ some ⟨g, 0, none⟩) : Rws w' B A9 c9 N' M gs' L' := by
  refine ⟨h.hd.kept hg ?_, fun k hk => (h.ro k hk).kept hg ?_, h.inj⟩
  · rcases h.hd.form with ⟨rfl, _⟩ | ⟨g9, rfl, _⟩
    · left; rfl
    · right
      rcases hh.form with ⟨rfl, _⟩ | ⟨g, rfl, _⟩
      · simp [Value.ownBlock]
      · have := hne g rfl
        simp [Value.ownBlock] at this ⊢
        exact this
  · right
    rcases own_ne hh (h.ro k hk) (by decide) with e | e
    · rw [e]; simp [Value.ownBlock]
    · intro e'; exact e (e'.symm.trans (by simp [Value.ownBlock]))
theorem Both.addA {g g2 c2 : Nat} {L0 : List Int} (h : Both w B A8 c8 N A9 c9 N' M gs L gs' L') (h0 : Own E1 w B 3 (some ⟨g, 0, none⟩) M M L0) (hg1 : ∀ k, k < N → gs k ≠ g) (hg2 : ∀ k, k < N' → gs' k ≠ g)
    (hh : Own EH w' B 22 (some ⟨g2, 0, none⟩) (N + 1) c2 (hdg gs M N ++ [(some ⟨g, 0, none⟩, M, M)])) (hgr : w.grownBy w' (Value.slice A8 N c8).ownBlock) (hl : A8 = some ⟨g2, 0, none⟩ ∨ w.heap.size ≤ g2) :
    Both w' B (some ⟨g2, 0, none⟩) c2 (N + 1) A9 c9 N' M (fun k => if k = N then g else gs k) (fun k => if k = N then L0 else L k) gs' L' := by
  have hrow : ∀ {p : Nat} {l : List Int}, Own E1 w B 3 (some ⟨p, 0, none⟩) M M l → Own E1 w' B 3 (some ⟨p, 0, none⟩) M M l := fun {p l} ho => ho.kept hgr (by
    right
    rcases own_ne h.a.hd ho (by decide) with e | e
    · rw [e]; simp [Value.ownBlock]
    · intro e'; exact e (e'.symm.trans (by simp [Value.ownBlock])))
  refine ⟨h.a.add hh (fun k hk => hrow (h.a.ro k hk)) (hrow h0) hg1, h.b.grown h.a.hd hgr h.hs, fun k k' hk hk' => ?_, fun g' e1 e2 => ?_⟩
  · by_cases e : k = N
    · simp only [if_pos e]; exact (hg2 k' hk').symm
    · simp only [if_neg e]; exact h.sep k k' (by omega) hk'
  · simp only [Option.some.injEq, Addr.mk.injEq] at e1
    obtain ⟨rfl, _⟩ := e1
    rcases hl with hl | hl
    · exact h.hs _ hl e2
    · rcases h.b.hd.form with ⟨hh, _⟩ | ⟨g9, hh, _, hlt, _⟩
      · rw [hh] at e2; cases e2
      · rw [hh] at e2; simp only [Option.some.injEq, Addr.mk.injEq] at e2; omega
end
/-- What of the two tables is made up: the rows behind i, and of row i the numbers from j on. -/
def Dn (l m : List Int) (c : Cst) (n n' : Nat) (L L' : Nat → List Int) (i j : Nat) : Prop := ∀ r k, r ≤ n → k ≤ n' → (i < r ∨ (i = r ∧ j ≤ k)) → (L r).getD k 0 = ld l m c r k ∧ (L' r).getD k 0 = nd l m c r k
section
variable {l m : List Int} {c : Cst} {n n' : Nat} {L L' : Nat → List Int} {i j : Nat}
theorem dn_start (L L' : Nat → List Int) : Dn l m c n n' L L' (n + 1) 0 := fun r k hr hk h => by omega
theorem dn_row (h : Dn l m c n n' L L' (i + 1) 0) : Dn l m c n n' L L' i (n' + 1) := fun r k hr hk h1 => h r k hr hk (by omega)
theorem dn_set (h : Dn l m c n n' L L' i (j + 1)) (hj : j ≤ n') (hl : (L i).length = n' + 1) (hl' : (L' i).length = n' + 1) :
    Dn l m c n n' (fun k' => if k' = i then (L i).set j (ld l m c i j) else L k') (fun k' => if k' = i then (L' i).set j (nd l m c i j) else L' k') i j := fun r k hr hk h1 => by
  dsimp only
  by_cases e : r = i
  · subst e
    rw [if_pos rfl, if_pos rfl, getD_set_pos (by omega), getD_set_pos (by omega)]
    by_cases e2 : k = j
    · subst e2; rw [if_pos rfl, if_pos rfl]; exact ⟨rfl, rfl⟩
    · rw [if_neg e2, if_neg e2]; exact h r k hr hk (by omega)
  · rw [if_neg e, if_neg e]; exact h r k hr hk (by omega)
end
theorem mulb {a x : Int} (ha : 1 ≤ a ∧ a ≤ 9) (hx : 0 ≤ x ∧ x ≤ 10) : 0 ≤ a * x ∧ a * x ≤ 90 := by
  have h1 : 0 ≤ a * x := Int.mul_nonneg (by omega) hx.1
  have h2 : a * x ≤ 9 * x := Int.mul_le_mul_of_nonneg_right ha.2 hx.1
  omega
end Go.Proofs.Ytndfdminjegldaa
