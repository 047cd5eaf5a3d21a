/- Integers as rows; blocks known whole; small lemmas for the walks. -/
import Derived.Test.YtkjnhdkbojcojaaGen
import Derived.OwnWalkIn
import Derived.RangeFuncOwn
import Derived.IntWalk
namespace Go.Proofs.Ytkjnhdkbojcojaa
open Go.RowKit

def E1 : Enc Int := { size := 1, enc := fun x => [.int .i64 x], len := fun _ => rfl, one := fun x u h => by simp at h; subst h; rfl, d := 0 }

section
variable {w : World} {A : Option Addr} {n c b off : Nat}
theorem c1 {xs : List Int} (h : RAt E1 w A n c xs b off) {k : Nat} (hk : k < n) : w.cell? ⟨b, off + k, none⟩ = some (.int .i64 (xs.getD k 0)) := by
  have h1 := h.cell k hk 0 (by decide)
  rw [show k * E1.size + 0 = k from Nat.mul_one k] at h1
  exact h1
end
/-- A pair of integers: two cells. -/
def EN : Enc (Int × Int) := { size := 2, enc := fun x => [.int .i64 x.1, .int .i64 x.2], len := fun _ => rfl, one := fun x u h => by simp at h; rcases h with rfl | rfl <;> rfl, d := (0, 0) }
theorem cN {w : World} {A : Option Addr} {n c b off : Nat} {xs : List (Int × Int)} (h : RAt EN w A n c xs b off) {k : Nat} (hk : k < n) : w.cell? ⟨b, off + k * 2, none⟩ = some (.int .i64 (xs.getD k (0, 0)).1) ∧ w.cell? ⟨b, off + k * 2 + 1, none⟩ = some (.int .i64 (xs.getD k (0, 0)).2) :=
  ⟨h.cell k hk 0 (by decide), h.cell k hk 1 (by decide)⟩
theorem bcell {W w1 : World} (hb : Below W.heap.size W w1) : (∀ b o, b < W.heap.size → w1.cell? ⟨b, o, none⟩ = W.cell? ⟨b, o, none⟩) ∧ (∀ b o, b < W.heap.size → w1.frozen? ⟨b, o, none⟩ = W.frozen? ⟨b, o, none⟩) :=
  ⟨fun b o h => hb.cell (p := ⟨b, o, none⟩) h, fun b o h => hb.frozen (p := ⟨b, o, none⟩) h⟩
theorem below_drewN {B : Nat} {a w : World} (h : Below B a w) (n : Nat) : Below B a (w.drewN n) := ⟨h.os, h.tape, h.output, h.size, h.block⟩
theorem quiet_add_left {P : Program} {f : FuncId} {args : Array Value} {w : World} {a n : Nat} {v : Value}
    (h : Calls P f args (w.drewN (a + n)) fun e w' => e = .returned v ∧ w.drewN (a + n) = w') :
    Calls P f args (w.drewN (a + n)) fun e w'' => e = .returned v ∧ ∃ m, w'' = w.drewN (a + m) :=
  h.mono fun _ _ ⟨he, hm⟩ => ⟨he, n, hm.symm⟩
theorem quiet_left {P : Program} {f : FuncId} {args : Array Value} {w : World} {n : Nat} {v : Value}
    (h : Calls P f args (w.drewN n) fun e w' => e = .returned v ∧ w.drewN n = w') : Calls P f args (w.drewN n) fun e w'' => e = .returned v ∧ ∃ m, w'' = w.drewN m :=
  h.mono fun _ _ ⟨he, hm⟩ => ⟨he, n, hm.symm⟩
/-- Block g of the world is the cells cs, of type t. -/
def Bk (w : World) (g : Nat) (t : TypeId) (cs : Array Value) : Prop := w.heap[g]? = some (.cells cs t (0, 0))
section
variable {w w' : World} {g : Nat} {t : TypeId} {cs : Array Value}
theorem Bk.in_ (h : Bk w g t cs) : g < w.heap.size := (Array.getElem?_eq_some_iff.1 h).1
theorem Bk.at_ (h : Bk w g t cs) (i : Nat) : w.cell? ⟨g, i, none⟩ = cs[i]? := cell_of_row w g i cs t (0, 0) h
theorem Bk.fr (h : Bk w g t cs) (i : Nat) : w.frozen? ⟨g, i, none⟩ = false := by
  have h' : w.heap[g]? = some (.cells cs t (0, 0)) := h
  simp [World.frozen?, h']
theorem Bk.born (w : World) (t : TypeId) (cs : Array Value) : Bk (w.alloc (.cells cs t)) w.heap.size t cs := heap_alloc_new w _
theorem Bk.more (h : Bk w g t cs) (o : Obj) : Bk (w.alloc o) g t cs := (Below.heap_alloc w o g h.in_).trans h
theorem Bk.draw (h : Bk w g t cs) : Bk w.drew g t cs := h
theorem Bk.draws (h : Bk w g t cs) (n : Nat) : Bk (w.drewN n) g t cs := h
theorem Bk.put (h : Bk w g t cs) (i : Nat) (u : Value) : Bk (w.setCell ⟨g, i, none⟩ u) g t (cs.setIfInBounds i u) := by
  have h' : w.heap[g]? = some (.cells cs t (0, 0)) := h
  unfold Bk
  simp [World.setCell, Array.getElem?_modify, h']
theorem Bk.apart (h : Bk w g t cs) {p : Addr} (hp : g ≠ p.block) (u : Value) : Bk (w.setCell p u) g t cs := (Below.heap_setCell w p u g hp).trans h
theorem Bk.keep {B : Nat} (h : Bk w g t cs) (hb : Below B w w') (hg : g < B) : Bk w' g t cs := (hb.block g hg).trans h
end
theorem ret_i64 {a b : Int} (h : a = b) : Ending.returned (.int .i64 a) = .returned (.int .i64 b) := by rw [h]
theorem ret_bool {a b : Bool} (h : a = b) : Ending.returned (.bool a) = .returned (.bool b) := by rw [h]

section
variable {W X Y : World} {row : Option Nat} {B : Nat}
theorem gb_refl (W : World) (row : Option Nat) : W.grownBy W row := ⟨rfl, rfl, rfl, Nat.le_refl _, fun _ _ _ => rfl⟩
theorem gb_trans (h : W.grownBy X row) (k : X.grownBy Y row) : W.grownBy Y row :=
  ⟨k.os.trans h.os, k.tape.trans h.tape, k.output.trans h.output, Nat.le_trans h.size k.size, fun i hi hn => (k.block i (Nat.lt_of_lt_of_le hi h.size) hn).trans (h.block i hi hn)⟩
theorem gb_below (h : W.grownBy X row) (k : Below X.heap.size X Y) : W.grownBy Y row := gb_trans h (grown_of_below k (Nat.le_refl _) row)
theorem gb_alloc (h : W.grownBy X row) (o : Obj) : W.grownBy (X.alloc o) row := gb_below h ((Below.refl _ X).alloc (Nat.le_refl _) o)
theorem gb_set (h : W.grownBy X (some B)) (i : Nat) (v : Value) : W.grownBy (X.setCell ⟨B, i, none⟩ v) (some B) :=
  gb_trans h ⟨rfl, rfl, rfl, by simp, fun k hk hn => Below.heap_setCell X ⟨B, i, none⟩ v k (fun e => hn (by rw [e]))⟩
theorem below_gb (h : W.grownBy X (some B)) {b : Nat} (hb : b ≤ B) (hs : b ≤ W.heap.size) : Below b W X := (Below.refl b W).grown h hs (fun k e => by cases e; exact hb)
theorem gb_bk (h : W.grownBy X (some B)) {g : Nat} {t : TypeId} {cs : Array Value} (hb : Bk W g t cs) (hg : g ≠ B) : Bk X g t cs := (h.block g hb.in_ (fun e => hg (by cases e; rfl))).trans hb
end
section
variable {α : Type} {E : Enc α} {P : Program} (w : World) {ops : Array Oper} {rest : List Oper} {o : Oper} {a : Act} {Q : Exit → Act → World → Prop}
/-- out = append(out, x): x lies in a new block of its own; inside a fence. -/
theorem wpListIn_app1 {F : Fence} {N : Nat} (z : Value) (bytes : Nat) (hgd : o.guard = none) (s x : Operand) (t e : TypeId) (ho : o.op = .call { callee := .builtin .append, args := #[s, x], argTypes := #[t, t] })
    (hu : P.underlying t = some (.slice e)) (hinfo : (P.info? e).map (fun i => (i.zero, i.size, i.bytes)) = some (some z, E.size, bytes)) (hz : z.cells.size = E.size) (hE : 0 < E.size) (hby : bytes ≤ 64)
    (B n c : Nat) (A : Option Addr) (l : List α) (y : α) (cs : Array Value) (hcs : cs = (E.enc y).toArray) (hs : a.eval s = .slice A n c) (hx : a.eval x = .slice (some ⟨w.heap.size, 0, none⟩) 1 1)
    (hown : Own E w B e A n c l) (hn : n ≤ 1000000) (hB : B ≤ w.heap.size)
    (h : ∀ A' c' w', Own E w' B e A' (n + 1) c' (l ++ [y]) → Below B w w' → w.grownBy w' (Value.slice A n c).ownBlock → wpListIn F N P ops Q rest (a.put o.dst (.slice A' (n + 1) c')) w') :
    wpListIn F N P ops Q (o :: rest) a (w.alloc (.cells cs e)) := by
  subst hcs
  obtain ⟨i0, hi, hz0, hz1, hz2⟩ := info_parts hinfo
  have hlen := E.len y
  refine wpListIn_append_own (P := P) _ hgd s x t ho B e i0 z E.size bytes hu hi hz0 hz1 hz2 hz hE _ n (E.cells l) hs (World.ownsRow.alloc hown.2 _)
    ⟨w.heap.size, 0, none⟩ 1 1 (E.enc y) hx (by omega) ?_ (E.one y) (by unfold maxLen; omega) ?_ (by simp; omega) ?_
  · intro j u hu
    have hcell : (w.alloc (.cells (E.enc y).toArray e)).cell? ⟨w.heap.size, j, none⟩ = (E.enc y).toArray[j]? := cell_of_row _ _ j _ e (0, 0) (heap_alloc_new w _)
    have hadd : (⟨w.heap.size, 0, none⟩ : Addr).add j = ⟨w.heap.size, j, none⟩ := by unfold Addr.add; split <;> simp_all
    rw [hadd, hcell]
    simpa using hu
  · have : (n + 1) * bytes ≤ (n + 1) * 64 := Nat.mul_le_mul_left _ hby
    omega
  · intro v' w' hown' hg _
    have hown2 : w'.ownsRow B e E.size v' (n + 1) (E.cells (l ++ [y])) := by
      rw [E.cells_app]
      have e1 : E.cells [y] = E.enc y := by simp [Enc.cells]
      rw [e1]
      exact hown'
    have hg2 : w.grownBy w' (Value.slice A n c).ownBlock :=
      ⟨hg.os, hg.tape, hg.output, Nat.le_trans (by simp) hg.size, fun k hk hne => (hg.block k (by simp; omega) hne).trans (Below.heap_alloc w _ k hk)⟩
    have hv : ∃ A' c', v' = .slice A' (n + 1) c' := by
      rcases hown2.2 with ⟨_, hn0⟩ | ⟨g, cap, cur, hv, _⟩
      · omega
      · exact ⟨_, _, hv⟩
    obtain ⟨A', c', rfl⟩ := hv
    have hl := hown.len
    refine h A' c' w' ⟨by simp [hl], hown2⟩ ((Below.refl B w).grown hg2 hB fun k hk => ?_) hg2
    rcases hown.form with ⟨rfl, _⟩ | ⟨g, rfl, hbg, _⟩
    · simp [Value.ownBlock] at hk
    · simp [Value.ownBlock] at hk; omega
end
section
variable {α : Type} {E : Enc α} {w w' : World} {B n c : Nat} {e : TypeId} {A : Option Addr} {l : List α}
theorem own_keeps (h : Own E w B e A n c l) (hg : w.grownBy w' (Value.slice A n c).ownBlock) : KeepsOthers w w' := by
  refine KeepsOthers.of_grownBy hg fun j o hj ho => ?_
  rcases h.2.2 with ⟨hv, _⟩ | ⟨g, cap, cur, hv, hb, hg', _⟩
  · simp at hv
    obtain ⟨rfl, _⟩ := hv
    simp [Value.ownBlock] at hj
  · simp at hv
    obtain ⟨rfl, _⟩ := hv
    simp [Value.ownBlock] at hj
    subst hj
    rw [hg'] at ho
    cases ho
    rfl
theorem own_other (h : Own E w B e A n c l) {p : Nat} (hp : p < B) (i : Nat) (v : Value) : Own E (w.setCell ⟨p, i, none⟩ v) B e A n c l := by
  refine h.kept (row := some p) ⟨rfl, rfl, rfl, by simp, fun k hk hn => Below.heap_setCell w ⟨p, i, none⟩ v k (fun e => hn (by rw [e]))⟩ ?_
  rcases h.form with ⟨rfl, _⟩ | ⟨g, rfl, hb, _⟩
  · left; simp [Value.ownBlock]
  · right
    simp [Value.ownBlock]
    omega
theorem bk_keeps {g : Nat} {t : TypeId} {cs : Array Value} (h : Bk w g t cs) (hg : w.grownBy w' (some g)) : KeepsOthers w w' :=
  KeepsOthers.of_grownBy hg fun j o hj ho => by cases hj; rw [show w.heap[g]? = _ from h] at ho; cases ho; rfl
end
theorem own_grown_below {α : Type} {E : Enc α} {w w' : World} {B n c : Nat} {e : TypeId} {A : Option Addr} {l : List α} (h : Own E w B e A n c l) (hB : B ≤ w.heap.size) (hg : w.grownBy w' (Value.slice A n c).ownBlock) : Below B w w' := by
  refine (Below.refl B w).grown hg hB fun k hk => ?_
  rcases h.form with ⟨rfl, _⟩ | ⟨g, rfl, hb, _⟩
  · simp [Value.ownBlock] at hk
  · simp [Value.ownBlock] at hk; omega
end Go.Proofs.Ytkjnhdkbojcojaa
