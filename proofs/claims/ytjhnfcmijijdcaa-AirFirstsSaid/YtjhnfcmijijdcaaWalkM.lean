/- Walk of the closure that fills the table of the least costs. -/
import Derived.Test.YtjhnfcmijijdcaaWalkL
namespace Go.Proofs.Ytjhnfcmijijdcaa
open Go.RowKit

/-- Which least costs are known: those up to m. -/
def knL (n m : Nat) : List Value := (List.range (n + 1)).map fun j => Value.bool (decide (j ≤ m))
theorem knL_get {n m j : Nat} (h : j ≤ n) : (knL n m)[j]? = some (.bool (decide (j ≤ m))) := by
  simp [knL, show j < n + 1 by omega]
theorem knL_set {n m : Nat} (h : m + 1 ≤ n) : (knL n m).set (m + 1) (.bool true) = knL n (m + 1) := by
  refine List.ext_getElem? fun j => ?_
  rw [List.getElem?_set]
  by_cases hj : j ≤ n
  · rw [knL_get hj, knL_get hj]
    by_cases e : m + 1 = j
    · subst e; simp [knL, show m + 1 < n + 1 by omega]
    · rw [if_neg e]
      have : (j ≤ m) ↔ (j ≤ m + 1) := by omega
      simp [this]
  · have l1 : (knL n m)[j]? = none := List.getElem?_eq_none (by simp [knL]; omega)
    have l2 : (knL n (m + 1))[j]? = none := List.getElem?_eq_none (by simp [knL]; omega)
    rw [l1, l2, if_neg (by omega)]

/-- The table of the call: where its parts lie, and what they hold. -/
structure St (w : World) (B n : Nat) (task : Array Value) (gr gt gk gb gf gc gl gn : Nat) (m : Nat) (cl ll : List Int) : Prop where
  r : Bk w gr 64 #[.slice none 0 0, .slice none 0 0]
  t : Bk w gt 24 task
  k : Bk w gk 77 #[.slice (some ⟨gn, 0, none⟩) (n + 1) (n + 1)]
  b : Bk w gb 64 #[.slice (some ⟨gc, 0, none⟩) (n + 1) (n + 1), .slice (some ⟨gl, 0, none⟩) (n + 1) (n + 1)]
  f : Bk w gf 78 #[.func (.func 82) #[] #[.pointer (some ⟨gk, 0, none⟩), .pointer (some ⟨gb, 0, none⟩), .pointer (some ⟨gf, 0, none⟩), .pointer (some ⟨gt, 0, none⟩)]]
  c : Own w B (some ⟨gc, 0, none⟩) (n + 1) (n + 1) cl
  l : Own w B (some ⟨gl, 0, none⟩) (n + 1) (n + 1) ll
  n : w.ownsRow B 4 1 (.slice (some ⟨gn, 0, none⟩) (n + 1) (n + 1)) (n + 1) (knL n m)
/-- The parts lie apart. -/
structure Apart (gr gt gk gb gf gc gl gn : Nat) : Prop where
  rc : gr ≠ gc
  rl : gr ≠ gl
  rn : gr ≠ gn
  tc : gt ≠ gc
  tl : gt ≠ gl
  tn : gt ≠ gn
  kc : gk ≠ gc
  kl : gk ≠ gl
  kn : gk ≠ gn
  bc : gb ≠ gc
  bl : gb ≠ gl
  bn : gb ≠ gn
  fc : gf ≠ gc
  fl : gf ≠ gl
  fn : gf ≠ gn
  cl : gc ≠ gl
  cn : gc ≠ gn
  ln : gl ≠ gn
section
variable {w w' : World} {B n : Nat} {task : Array Value} {gr gt gk gb gf gc gl gn m : Nat} {cl ll : List Int}
theorem St.keep (h : St w B n task gr gt gk gb gf gc gl gn m cl ll) (hb : Below w.heap.size w w') : St w' B n task gr gt gk gb gf gc gl gn m cl ll :=
  ⟨h.r.keep hb h.r.in_, h.t.keep hb h.t.in_, h.k.keep hb h.k.in_, h.b.keep hb h.b.in_, h.f.keep hb h.f.in_, h.c.below hb (Nat.le_refl _), h.l.below hb (Nat.le_refl _),
    World.ownsRow.kept h.n (grown_of_below hb (Nat.le_refl _) none) (by simp [Value.ownBlock])⟩
theorem St.draws (h : St w B n task gr gt gk gb gf gc gl gn m cl ll) (k : Nat) : St (w.drewN k) B n task gr gt gk gb gf gc gl gn m cl ll :=
  ⟨h.r.draws k, h.t.draws k, h.k.draws k, h.b.draws k, h.f.draws k, h.c.drewN k, h.l.drewN k, h.n⟩
theorem St.draw (h : St w B n task gr gt gk gb gf gc gl gn m cl ll) : St w.drew B n task gr gt gk gb gf gc gl gn m cl ll :=
  ⟨h.r.draw, h.t.draw, h.k.draw, h.b.draw, h.f.draw, h.c.drew, h.l.drew, h.n⟩
theorem ownsRow_ge {e : TypeId} {size g c k : Nat} {l : List Value} (h : w.ownsRow B e size (.slice (some ⟨g, 0, none⟩) k c) k l) : B ≤ g := by
  rcases h.2 with ⟨h2, _⟩ | ⟨g', cap, cur, hv, hb, _⟩
  · simp at h2
  · simp at hv
    omega
theorem St.ge (h : St w B n task gr gt gk gb gf gc gl gn m cl ll) : B ≤ gc ∧ B ≤ gl ∧ B ≤ gn := ⟨ownsRow_ge h.c, ownsRow_ge h.l, ownsRow_ge h.n⟩
theorem ownsRow_apart {e : TypeId} {size : Nat} {v : Value} {k : Nat} {l : List Value} {p : Addr} (h : w.ownsRow B e size v k l) (hp : v.ownBlock ≠ some p.block) (u : Value) : (w.setCell p u).ownsRow B e size v k l := by
  refine ⟨h.1, ?_⟩
  rcases h.2 with h2 | ⟨g, cap, cur, hv, hb, hg, r⟩
  · exact .inl h2
  · refine .inr ⟨g, cap, cur, hv, hb, ?_, r⟩
    refine (Below.heap_setCell w p u g ?_).trans hg
    rintro rfl
    subst hv
    simp [Value.ownBlock] at hp
theorem Own.apart {A : Option Addr} {k c : Nat} {l : List Int} {p : Addr} (h : Own w B A k c l) (hp : (Value.slice A k c).ownBlock ≠ some p.block) (u : Value) : Own (w.setCell p u) B A k c l := ownsRow_apart h hp u
theorem St.setC (h : St w B n task gr gt gk gb gf gc gl gn m cl ll) (ap : Apart gr gt gk gb gf gc gl gn) (i : Nat) (x : Int) : St (w.setCell ⟨gc, i, none⟩ (.int .i64 x)) B n task gr gt gk gb gf gc gl gn m (cl.set i x) ll :=
  ⟨h.r.apart ap.rc _, h.t.apart ap.tc _, h.k.apart ap.kc _, h.b.apart ap.bc _, h.f.apart ap.fc _, h.c.stored i x, h.l.apart (by simpa [Value.ownBlock] using ap.cl.symm) _, ownsRow_apart h.n (by simpa [Value.ownBlock] using ap.cn.symm) _⟩
theorem St.setL (h : St w B n task gr gt gk gb gf gc gl gn m cl ll) (ap : Apart gr gt gk gb gf gc gl gn) (i : Nat) (x : Int) : St (w.setCell ⟨gl, i, none⟩ (.int .i64 x)) B n task gr gt gk gb gf gc gl gn m cl (ll.set i x) :=
  ⟨h.r.apart ap.rl _, h.t.apart ap.tl _, h.k.apart ap.kl _, h.b.apart ap.bl _, h.f.apart ap.fl _, h.c.apart (by simpa [Value.ownBlock] using ap.cl) _, h.l.stored i x, ownsRow_apart h.n (by simpa [Value.ownBlock] using ap.ln.symm) _⟩
theorem St.setN (h : St w B n task gr gt gk gb gf gc gl gn m cl ll) (ap : Apart gr gt gk gb gf gc gl gn) (hm : m + 1 ≤ n) : St (w.setCell ⟨gn, m + 1, none⟩ (.bool true)) B n task gr gt gk gb gf gc gl gn (m + 1) cl ll :=
  ⟨h.r.apart ap.rn _, h.t.apart ap.tn _, h.k.apart ap.kn _, h.b.apart ap.bn _, h.f.apart ap.fn _, h.c.apart (by simpa [Value.ownBlock] using ap.cn) _, h.l.apart (by simpa [Value.ownBlock] using ap.ln) _, by
    have e := (World.ownsRow.stored h.n (m + 1) (.bool true)).1
    rw [knL_set hm] at e
    exact e⟩
theorem St.known (h : St w B n task gr gt gk gb gf gc gl gn m cl ll) {j : Nat} (hj : j ≤ n) : w.cell? ⟨gn, j, none⟩ = some (.bool (decide (j ≤ m))) := by
  have e := World.ownsRow.cellAt h.n j (by simp [knL]; omega)
  rw [e, knL_get hj]
end
/-- What is known is the least cost. -/
def Kn (t : Tk) (m : Nat) (cl ll : List Int) : Prop := ∀ j, j ≤ m → cl.getD j 0 = t.f j ∧ ll.getD j 0 = (t.q j : Int)
theorem getD_set_ne {l : List Int} {i j : Nat} {x : Int} (h : i ≠ j) : (l.set i x).getD j 0 = l.getD j 0 := by simp [List.getD_eq_getElem?_getD, List.getElem?_set, h]
theorem getD_set_eq {l : List Int} {i : Nat} {x : Int} (h : i < l.length) : (l.set i x).getD i 0 = x := by simp [List.getD_eq_getElem?_getD, h]
theorem Kn.set {t : Tk} {m : Nat} {cl ll : List Int} (h : Kn t m cl ll) {i : Nat} (hi : m < i) (x y : Int) : Kn t m (cl.set i x) (ll.set i y) := fun j hj => by
  rw [getD_set_ne (by omega), getD_set_ne (by omega)]
  exact h j hj

end Go.Proofs.Ytjhnfcmijijdcaa
