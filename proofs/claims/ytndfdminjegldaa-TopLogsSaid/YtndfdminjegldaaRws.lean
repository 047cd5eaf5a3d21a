/- Tables whose rows lie in blocks of their own. -/
import Derived.Test.YtndfdminjegldaaTab
namespace Go.Proofs.Ytndfdminjegldaa
open Go.RowKit Go.Shelf

def hdg (gs : Nat → Nat) (M : Nat) (N : Nat) : List Hd := (List.range N).map fun k => (some ⟨gs k, 0, none⟩, M, M)
theorem hdg_len (gs : Nat → Nat) (M N : Nat) : (hdg gs M N).length = N := by simp [hdg]
theorem hdg_at {gs : Nat → Nat} {M N k : Nat} (h : k < N) : (hdg gs M N).getD k EH.d = (some ⟨gs k, 0, none⟩, M, M) := by
  rw [List.getD_eq_getElem?_getD]; simp [hdg, h]
theorem hdg_succ (gs : Nat → Nat) (M N g : Nat) : hdg (fun k => if k = N then g else gs k) M (N + 1) = hdg gs M N ++ [(some ⟨g, 0, none⟩, M, M)] := by
  unfold hdg
  rw [List.range_succ, List.map_append]
  congr 1
  · apply List.map_congr_left
    intro k hk
    have hk2 : k < N := List.mem_range.1 hk
    have hk3 : k ≠ N := by omega
    simp [hk3]
  · simp
section
variable {α : Type} {E : Enc α} {w : World} {B n c p : Nat} {e : TypeId} {l : List α}
/-- What is stored to another block changes nothing. -/
theorem own_set_ne {g : Nat} (h : Own E w B e (some ⟨g, 0, none⟩) n c l) (hne : g ≠ p) (i : Nat) (v : Value) : Own E (w.setCell ⟨p, i, none⟩ v) B e (some ⟨g, 0, none⟩) n c l :=
  h.kept (row := some p) ⟨rfl, rfl, rfl, by simp, fun k _ hn => Below.heap_setCell w ⟨p, i, none⟩ v k (fun e => hn (by rw [e]))⟩ (.inr (by simpa [Value.ownBlock] using hne))
end
structure Rws (w : World) (B : Nat) (A : Option Addr) (cap N M : Nat) (gs : Nat → Nat) (L : Nat → List Int) : Prop where
  hd : Own EH w B 22 A N cap (hdg gs M N)
  ro : ∀ k, k < N → Own E1 w B 3 (some ⟨gs k, 0, none⟩) M M (L k)
  inj : ∀ k k', k < N → k' < N → gs k = gs k' → k = k'
variable {w w' : World} {B cap N M : Nat} {A : Option Addr} {gs : Nat → Nat} {L : Nat → List Int}
theorem Rws.below (h : Rws w B A cap N M gs L) {B' : Nat} (hb : Below B' w w') (hB : w.heap.size ≤ B') : Rws w' B A cap N M gs L := ⟨h.hd.below hb hB, fun k hk => (h.ro k hk).below hb hB, h.inj⟩
theorem Rws.more (h : Rws w B A cap N M gs L) {B' : Nat} (hB : B' ≤ B) : Rws w B' A cap N M gs L := ⟨h.hd.more hB, fun k hk => (h.ro k hk).more hB, h.inj⟩
theorem Rws.drew (h : Rws w B A cap N M gs L) : Rws w.drew B A cap N M gs L := ⟨h.hd.drew, fun k hk => (h.ro k hk).drew, h.inj⟩
theorem Rws.drewN (h : Rws w B A cap N M gs L) (q : Nat) : Rws (w.drewN q) B A cap N M gs L := ⟨h.hd.drewN q, fun k hk => (h.ro k hk).drewN q, h.inj⟩
theorem Rws.head {g : Nat} (h : Rws w B (some ⟨g, 0, none⟩) cap N M gs L) {k : Nat} (hk : k < N) : w.cell? ⟨g, k, none⟩ = some (.slice (some ⟨gs k, 0, none⟩) M M) := by
  have := ownH h.hd hk
  rwa [hdg_at hk] at this
theorem Rws.cell (h : Rws w B A cap N M gs L) {k j : Nat} (hk : k < N) (hj : j < M) : w.cell? ⟨gs k, j, none⟩ = some (.int .i64 ((L k).getD j 0)) := own1 (h.ro k hk) hj
theorem Rws.frozen (h : Rws w B A cap N M gs L) {k : Nat} (hk : k < N) (j : Nat) : w.frozen? ⟨gs k, j, none⟩ = false := (h.ro k hk).frozen j
theorem Rws.lt (h : Rws w B A cap N M gs L) {k : Nat} (hk : k < N) : gs k < w.heap.size := gtl (h.ro k hk)
theorem Rws.ge (h : Rws w B A cap N M gs L) {k : Nat} (hk : k < N) : B ≤ gs k := gge (h.ro k hk)
/-- A number is stored. -/
theorem Rws.set (h : Rws w B A cap N M gs L) {k j : Nat} (hk : k < N) (hj : j < M) (a : Int) : Rws (w.setCell ⟨gs k, j, none⟩ (.int .i64 a)) B A cap N M gs (fun k' => if k' = k then (L k).set j a else L k') :=
  ⟨own_set_other h.hd (h.ro k hk) (by decide) _ _, fun k' hk' => by
    by_cases e : k' = k
    · subst e; rw [if_pos rfl]; exact (h.ro k' hk').stored1 hj a
    · rw [if_neg e]; exact own_set_ne (h.ro k' hk') (fun e' => e (h.inj _ _ hk' hk e')) _ _, h.inj⟩
/-- .. to another table. -/
theorem Rws.other {A' : Option Addr} {cap' N' M' : Nat} {gs' : Nat → Nat} {L' : Nat → List Int} (h : Rws w B A cap N M gs L) (h' : Rws w B A' cap' N' M' gs' L') (hd : ∀ k k', k < N → k' < N' → gs k ≠ gs' k') {k j : Nat} (hk : k < N') (v : Value) : Rws (w.setCell ⟨gs' k, j, none⟩ v) B A cap N M gs L :=
  ⟨own_set_other h.hd (h'.ro k hk) (by decide) _ _, fun k' hk' => own_set_ne (h.ro k' hk') (hd k' k hk' hk) _ _, h.inj⟩
/-- A row more: it is new, and its header was appended. -/
theorem Rws.add {A2 : Option Addr} {cap2 g : Nat} {L0 : List Int} (h : Rws w B A cap N M gs L) (hh : Own EH w' B 22 A2 (N + 1) cap2 (hdg gs M N ++ [(some ⟨g, 0, none⟩, M, M)])) (hr : ∀ k, k < N → Own E1 w' B 3 (some ⟨gs k, 0, none⟩) M M (L k)) (h0 : Own E1 w' B 3 (some ⟨g, 0, none⟩) M M L0) (hg : ∀ k, k < N → gs k ≠ g) :
    Rws w' B A2 cap2 (N + 1) M (fun k => if k = N then g else gs k) (fun k => if k = N then L0 else L k) :=
  ⟨by rw [hdg_succ]; exact hh, fun k hk => by
    by_cases e : k = N
    · subst e; rw [if_pos rfl, if_pos rfl]; exact h0
    · rw [if_neg e, if_neg e]; exact hr k (by omega), fun k k' hk hk' e => by
    by_cases e1 : k = N
    · by_cases e2 : k' = N
      · omega
      · simp only [if_pos e1, if_neg e2] at e
        exact absurd e.symm (hg k' (by omega))
    · by_cases e2 : k' = N
      · simp only [if_neg e1, if_pos e2] at e
        exact absurd e (hg k (by omega))
      · simp only [if_neg e1, if_neg e2] at e
        exact h.inj _ _ (by omega) (by omega) e⟩
theorem Rws.nil0 (w : World) (B M : Nat) (gs : Nat → Nat) (L : Nat → List Int) : Rws w B none 0 0 M gs L := ⟨Own.nil _ _ _ _, fun k hk => by omega, fun k k' hk => by omega⟩
end Go.Proofs.Ytndfdminjegldaa
