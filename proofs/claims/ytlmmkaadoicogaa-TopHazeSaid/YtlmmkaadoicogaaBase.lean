/- The reading of a slice of pairs of integers, and what a call leaves of it: plain lemmas, no program. -/
import Derived.Test.YtlmmkaadoicogaaRows
import Derived.Test.YtlmmkaadoicogaaMathK
import Derived.WalkKit
import Derived.WalkSpells
import Derived.WalkLawsBesides
import Derived.Below
import Derived.Deep.QuietTactic
import Derived.BigQuiet
import Derived.Lib.Hide
import Derived.Laws.OwnMore
import Derived.Laws.Rows
import Derived.Deep.Draws
namespace Go.Proofs.Ytlmmkaadoicogaa
open Go.RowKit

theorem hide {p : Prop} (h : p) : Hid p := h

/-- The slice value '.slice A n c' reads as the pairs xs in the world w; b, off say where it lies (they mean nothing where it is empty). -/
structure RowAt (w : World) (A : Option Addr) (n c : Nat) (xs : Rd) (b off : Nat) : Prop where
  len : xs.length = n
  cap : n ≤ c
  max : c ≤ 9223372036854775807
  at_ : 0 < n → A = some ⟨b, off, none⟩
  lt : 0 < n → b < w.heap.size
  cell : ∀ k, k < n → w.cell? ⟨b, off + k * 2, none⟩ = some (.int .i64 (xs.getD k (0, 0)).1) ∧ w.cell? ⟨b, off + k * 2 + 1, none⟩ = some (.int .i64 (xs.getD k (0, 0)).2)

def Row (w : World) (A : Option Addr) (n c : Nat) (xs : Rd) : Prop := ∃ b off, RowAt w A n c xs b off
theorem Row.length {w : World} {A : Option Addr} {n c : Nat} {xs : Rd} (h : Row w A n c xs) : xs.length = n := by
  obtain ⟨b, off, h1, hc, hm, h2, h3, h4⟩ := h
  exact h1
theorem RowAt.below {w w' : World} {A : Option Addr} {n c : Nat} {xs : Rd} {b off B : Nat} (h : RowAt w A n c xs b off) (hb : Below B w w') (hB : w.heap.size ≤ B) : RowAt w' A n c xs b off := by
  obtain ⟨h1, hc, hm, h2, h3, h4⟩ := h
  refine ⟨h1, hc, hm, h2, fun hn => Nat.lt_of_lt_of_le (h3 hn) hb.size, fun k hk => ?_⟩
  rw [hb.cell (p := ⟨b, off + k * 2, none⟩) (Nat.lt_of_lt_of_le (h3 (by omega)) hB), hb.cell (p := ⟨b, off + k * 2 + 1, none⟩) (Nat.lt_of_lt_of_le (h3 (by omega)) hB)]
  exact h4 k hk
theorem Row.below {w w' : World} {A : Option Addr} {n c : Nat} {xs : Rd} {B : Nat} (h : Row w A n c xs) (hb : Below B w w') (hB : w.heap.size ≤ B) : Row w' A n c xs := by
  obtain ⟨b, off, h1, hc, hm, h2, h3, h4⟩ := h
  refine ⟨b, off, h1, hc, hm, h2, fun hn => Nat.lt_of_lt_of_le (h3 hn) hb.size, fun k hk => ?_⟩
  rw [hb.cell (p := ⟨b, off + k * 2, none⟩) (Nat.lt_of_lt_of_le (h3 (by omega)) hB), hb.cell (p := ⟨b, off + k * 2 + 1, none⟩) (Nat.lt_of_lt_of_le (h3 (by omega)) hB)]
  exact h4 k hk
theorem bcell {W w1 : World} (hb : Below W.heap.size W w1) : (∀ b o, b < W.heap.size → w1.cell? ⟨b, o, none⟩ = W.cell? ⟨b, o, none⟩) ∧ (∀ b o, b < W.heap.size → w1.frozen? ⟨b, o, none⟩ = W.frozen? ⟨b, o, none⟩) :=
  ⟨fun b o h => hb.cell (p := ⟨b, o, none⟩) h, fun b o h => hb.frozen (p := ⟨b, o, none⟩) h⟩
theorem quiet_add_left {P : Program} {f : FuncId} {args : Array Value} {w : World} {a n : Nat} {v : Value}
    (h : Calls P f args (w.drewN (a + n)) fun e w' => e = .returned v ∧ w.drewN (a + n) = w') :
    Calls P f args (w.drewN (a + n)) fun e w'' => e = .returned v ∧ ∃ m, w'' = w.drewN (a + m) :=
  h.mono fun _ _ ⟨he, hm⟩ => ⟨he, n, hm.symm⟩
theorem quiet_left {P : Program} {f : FuncId} {args : Array Value} {w : World} {n : Nat} {v : Value}
    (h : Calls P f args (w.drewN n) fun e w' => e = .returned v ∧ w.drewN n = w') : Calls P f args (w.drewN n) fun e w'' => e = .returned v ∧ ∃ m, w'' = w.drewN m :=
  h.mono fun _ _ ⟨he, hm⟩ => ⟨he, n, hm.symm⟩
theorem below_drewN {B : Nat} {a w : World} (h : Below B a w) (n : Nat) : Below B a (w.drewN n) := ⟨h.os, h.tape, h.output, h.size, h.block⟩
theorem Row.drewN {w : World} {A : Option Addr} {n c : Nat} {xs : Rd} (h : Row w A n c xs) (k : Nat) : Row (w.drewN k) A n c xs := by
  obtain ⟨b, off, h⟩ := h
  exact ⟨b, off, h.len, h.cap, h.max, h.at_, h.lt, h.cell⟩
/-- Block g of the world is the cells cs, of type t. -/
def Bk (w : World) (g : Nat) (t : TypeId) (cs : Array Value) : Prop := w.heap[g]? = some (.cells cs t (0, 0))
section
variable {w w' : World} {g : Nat} {t : TypeId} {cs : Array Value}
theorem Bk.in_ (h : Bk w g t cs) : g < w.heap.size := (Array.getElem?_eq_some_iff.1 h).1
theorem Bk.at_ (h : Bk w g t cs) (i : Nat) : w.cell? ⟨g, i, none⟩ = cs[i]? := cell_of_row w g i cs t (0, 0) h
theorem Bk.fr (h : Bk w g t cs) (i : Nat) : w.frozen? ⟨g, i, none⟩ = false := by
  have h' : w.heap[g]? = some (.cells cs t (0, 0)) := h
  simp [World.frozen?, h']
theorem Bk.born (w : World) (t : TypeId) (cs : Array Value) : Bk (w.alloc (.cells cs t)) w.heap.size t cs := heap_alloc_new w _
theorem Bk.more (h : Bk w g t cs) (o : Obj) : Bk (w.alloc o) g t cs := (Below.heap_alloc w o g h.in_).trans h
theorem Bk.draw (h : Bk w g t cs) : Bk w.drew g t cs := h
theorem Bk.draws (h : Bk w g t cs) (n : Nat) : Bk (w.drewN n) g t cs := h
theorem Bk.put (h : Bk w g t cs) (i : Nat) (u : Value) : Bk (w.setCell ⟨g, i, none⟩ u) g t (cs.setIfInBounds i u) := by
  have h' : w.heap[g]? = some (.cells cs t (0, 0)) := h
  unfold Bk
  simp [World.setCell, Array.getElem?_modify, h']
theorem Bk.apart (h : Bk w g t cs) {p : Addr} (hp : g ≠ p.block) (u : Value) : Bk (w.setCell p u) g t cs := (Below.heap_setCell w p u g hp).trans h
theorem Bk.keep {B : Nat} (h : Bk w g t cs) (hb : Below B w w') (hg : g < B) : Bk w' g t cs := (hb.block g hg).trans h
theorem Bk.two {x y : Value} (h : Bk w g t #[x, y]) : w.cell? ⟨g, 0, none⟩ = some x ∧ w.cell? ⟨g, 1, none⟩ = some y ∧ w.frozen? ⟨g, 0, none⟩ = false ∧ w.frozen? ⟨g, 1, none⟩ = false ∧ g < w.heap.size :=
  ⟨h.at_ 0, h.at_ 1, h.fr 0, h.fr 1, h.in_⟩
theorem Bk.set2 {x y x' y' : Value} (h : Bk w g t #[x, y]) : Bk ((w.setCell ⟨g, 0, none⟩ x').setCell ⟨g, 1, none⟩ y') g t #[x', y'] := (h.put 0 x').put 1 y'
theorem Bk.res2 {x y : Value} (h : Bk w g t #[x, y]) (x' y' : Value) : (w.setCell ⟨g, 0, none⟩ x').cell? ⟨g, 0, none⟩ = some x' ∧ ((w.setCell ⟨g, 0, none⟩ x').setCell ⟨g, 1, none⟩ y').cell? ⟨g, 0, none⟩ = some x' ∧
    ((w.setCell ⟨g, 0, none⟩ x').setCell ⟨g, 1, none⟩ y').cell? ⟨g, 1, none⟩ = some y' :=
  ⟨(h.put 0 x').at_ 0, ((h.put 0 x').put 1 y').at_ 0, ((h.put 0 x').put 1 y').at_ 1⟩
end
theorem ret_i64 {a b : Int} (h : a = b) : Ending.returned (.int .i64 a) = .returned (.int .i64 b) := by rw [h]
theorem ret_bool {a b : Bool} (h : a = b) : Ending.returned (.bool a) = .returned (.bool b) := by rw [h]

end Go.Proofs.Ytlmmkaadoicogaa
