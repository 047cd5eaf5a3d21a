/- The iterator over a row of shifts with their numbers: every loop body that keeps the row is handed all of them, in their order. -/
import Derived.Test.YtpkjgnllkaafkaaWalkF
import Derived.RangeFuncNested
import Derived.RangeFuncBound
import Derived.RangeFuncCalls
import Derived.RangeFuncLeaves
import Derived.RangeFuncBox
import Derived.Shelf.Abstract
import Derived.Shelf.RegionOpen
import Derived.OwnWalkIn
import Derived.TacticsInMore
import Derived.LoopNIn
import Derived.LoopIn
namespace Go.Proofs.Ytpkjgnllkaafkaa
open Go.RowKit Go.Shelf
attribute [local go_sem] Oper.semAt_some

/-- An element of the row L. -/
abbrev El (L : Ns) := { x : Nm // x ∈ L }
def nmE {L : Ns} (x : El L) : Array Value := #[nmV x.1.1 x.1.2.1 x.1.2.2.1 x.1.2.2.2]
theorem att_get {L : Ns} {k : Nat} (h : k < L.length) : ∃ hm, L.attach[k]'(by simpa using h) = ⟨gt L k, hm⟩ := by
  have e : L.attach[k]'(by simpa using h) = ⟨L[k], List.getElem_mem h⟩ := by simp
  have e2 : gt L k = L[k] := by simp [gt, List.getD_eq_getElem?_getD, h]
  exact ⟨by rw [e2]; exact List.getElem_mem h, by rw [e]; exact Subtype.ext e2.symm⟩
theorem att_succ {L : Ns} {k : Nat} (h : k < L.length) : ∃ hm, L.attach.take (k + 1) = L.attach.take k ++ [⟨gt L k, hm⟩] := by
  obtain ⟨hm, e⟩ := att_get h
  exact ⟨hm, by rw [List.take_succ_eq_append_getElem (by simpa using h), e]⟩
/-- Block g is kept. -/
def KB (g : Nat) (W W' : World) : Prop := W.heap.size ≤ W'.heap.size ∧ W'.heap[g]? = W.heap[g]?
theorem KB.refl (g : Nat) (W : World) : KB g W W := ⟨Nat.le_refl _, rfl⟩
theorem KB.trans {g : Nat} {A B C : World} (h : KB g A B) (k : KB g B C) : KB g A C := ⟨Nat.le_trans h.1 k.1, k.2.trans h.2⟩
theorem KB.of_below {g B : Nat} {W W' : World} (h : Below B W W') (hg : g < B) : KB g W W' := ⟨h.size, h.block g hg⟩
theorem KB.alloc {g : Nat} {W W' : World} (h : KB g W W') (hg : g < W'.heap.size) (o : Obj) : KB g W (W'.alloc o) := h.trans ⟨by simp, Below.heap_alloc W' o g hg⟩
theorem KB.setCell {g : Nat} {W W' : World} (h : KB g W W') {p : Addr} (hp : g ≠ p.block) (u : Value) : KB g W (W'.setCell p u) := h.trans ⟨by simp, Below.heap_setCell W' p u g hp⟩
theorem KB.putObj {g B : Nat} (hg : g < B) (W : World) (l : Nat) (o o' : Obj) (hl : B ≤ l) (_ : W.heap[l]? = some o) (_ : o.isCells = false) (_ : o.isWalk = false) : KB g W (W.putObj l o') :=
  ⟨by simp, World.putObj_heap_other (by omega)⟩
theorem RAt.kb {α : Type} {E : Enc α} {w w' : World} {A : Option Addr} {n c g off : Nat} {xs : List α} (h : RAt E w A n c xs g off) (k : KB g w w') : RAt E w' A n c xs g off := by
  refine ⟨h.len, h.cap, h.max, h.at_, fun hn => Nat.lt_of_lt_of_le (h.lt hn) k.1, fun i hi j hj => ?_⟩
  have e : w'.cell? ⟨g, off + (i * E.size + j), none⟩ = w.cell? ⟨g, off + (i * E.size + j), none⟩ := by simp [World.cell?, k.2]
  rw [e]
  exact h.cell i hi j hj
theorem abides_alloc {β : Type} {B : Nat} {J : β → World → Prop} (h : AbidesFrom B J) {s : β} {W : World} (hs : J s W) (o : Obj) : J s (W.alloc o) :=
  h s W _ none hs (grown_of_below ((Below.refl W.heap.size W).alloc (Nat.le_refl _) o) (Nat.le_refl _) none) (fun r e => by cases e)

set_option maxRecDepth 100000 in
set_option maxHeartbeats 2000000 in
theorem values1_in (F : Fence) (n : Nat) (hf : F.fn 100) (hro : F.round = none) (hn : 1 ≤ n) (l Bs g len cap : Nat) (L : Ns) (hlen : L.length = len) (hsm : len ≤ 1000) (hcap : len ≤ cap) (hmax : cap ≤ maxLen)
    (J Jx : List (El L) → World → Prop) (hAb : ∃ B, AbidesFrom B J)
    (hY : ∀ pre x W, J pre W → pre.length < len → YieldAt F (n - 1) Try.prog l (nmE x) W fun e W' =>
      (e = .returned (.bool true) ∧ J (pre ++ [x]) W' ∧ KB g W W') ∨ (e = .returned (.bool false) ∧ Jx (pre ++ [x]) W'))
    (W : World) (hBs : W.cell? ⟨Bs, 0, none⟩ = some (.slice (some ⟨g, 0, none⟩) len cap)) (hc : RAt E4 W (some ⟨g, 0, none⟩) len cap L g 0) (h0 : J [] W) :
    CallsIn F n Try.prog 100 #[.func (.yield l) #[] #[], .pointer (some ⟨Bs, 0, none⟩)] W fun e W' => (∃ v, e = .returned v) ∧
      ((∃ ys, ys = L.attach ∧ J ys W') ∨ (∃ pre, (∃ k, pre = L.attach.take k) ∧ Jx pre W')) := by
  obtain ⟨BA, hAb⟩ := hAb
  have HL := hide hlen
  have HAB := hide hAb
  have HC := hide hc
  have HGL := hide hc.lt
  have hmax' : cap ≤ 9223372036854775807 := hmax
  clear hlen hAb hc hmax
  refine callsIn_of_wp Try.func100 rfl hf ?_ hro
  simp only [Try.ntmps100, List.size_toArray, List.length_cons, List.length_nil, Nat.reduceAdd, Nat.reduceSub, Array.replicate_succ, Array.replicate_zero, List.push_toArray, List.append_toArray, List.nil_append, List.cons_append]
  gi_wp2
  gi_loopw [7] (fun i wr => ∃ k : Nat, k ≤ len ∧ i = .int .i64 k ∧ J (L.attach.take k) wr ∧ KB g W wr)
    (fun i _ => len - (intOf i).toNat)
  case atStart => exact ⟨0, Nat.zero_le _, rfl, h0, KB.refl _ _⟩
  case round =>
    obtain ⟨k, hk, rfl, hJs, hnx⟩ := hrel
    by_cases hlt : k < len
    · obtain ⟨hm, hat⟩ := att_succ (L := L) (k := k) (by rw [HL.out]; exact hlt)
      have HAT := hide hat
      clear hat
      obtain ⟨a1, a2, a3, a4⟩ := c4 (HC.out.kb hnx) hlt
      rw [Nat.zero_add] at a1 a2 a3 a4
      have hgr : g < wr.heap.size := Nat.lt_of_lt_of_le (HGL.out (by omega)) hnx.1
      generalize hx : gt L k = x at *
      clear hx
      have hJ2 := abides_alloc HAB.out hJs (.cells #[.int .i64 x.1, .int .i64 x.2.1, .int .i64 x.2.2.1, .int .i64 x.2.2.2] 75)
      obtain ⟨fn, tmps, assign, body, hy, hR⟩ := hY _ ⟨x, hm⟩ _ hJ2 (by rw [List.length_take, List.length_attach, HL.out]; omega)
      dsimp only [nmE] at hy
      obtain ⟨x1, x2, x3, x4⟩ := x
      dsimp only at a1 a2 a3 a4 hy hJ2
      gi_wp2
      refine hR.mono ?_
      rintro e W3 (⟨rfl, hJ3, hk3⟩ | ⟨rfl, hJx3⟩)
      · gi_wp2
        go_roundw
        case rel => exact ⟨k + 1, by omega, by go_num, by rw [HAT.out]; exact hJ3, (hnx.alloc hgr _).trans hk3⟩
        case measure => simp [intOf]; omega
      · gi_wp2
        refine bodyPost_ret (results_none rfl _ _ _) rfl ?_
        exact ⟨⟨_, rfl⟩, .inr ⟨_, ⟨k + 1, HAT.out.symm⟩, hJx3⟩⟩
    · obtain rfl : k = len := by omega
      gi_wp2
      go_end0
      exact ⟨⟨_, rfl⟩, .inl ⟨_, by rw [List.take_of_length_le (by simp [HL.out])], hJs⟩⟩

/-- The iterator's contract. -/
theorem values_stops (F : Fence) (n : Nat) (hf : F.fn 100) (hro : F.round = none) (hn : 1 ≤ n) (Bs g len cap : Nat) (L : Ns) (hsm : len ≤ 1000) (w : World) (hBs : Bs < w.heap.size)
    (hc : w.cell? ⟨Bs, 0, none⟩ = some (.slice (some ⟨g, 0, none⟩) len cap)) (hI : RAt E4 w (some ⟨g, 0, none⟩) len cap L g 0) :
    SeqStopsK F n Try.prog 100 #[.pointer (some ⟨Bs, 0, none⟩)] (nmE (L := L)) (KB g) (fun ys => ys = L.attach) (fun pre => ∃ k, pre = L.attach.take k) len w := fun l J Jx W hW hJ _ hY h0 => by
  have hc' := (hW.cell (p := ⟨Bs, 0, none⟩) hBs).trans hc
  exact values1_in F n hf hro hn l Bs g len cap L hI.len hsm hI.cap hI.max J Jx ⟨_, hJ⟩ hY W hc' (hI.below hW (Nat.le_refl _)) h0
end Go.Proofs.Ytpkjgnllkaafkaa
