/- The iterator over a row from its end on; the mirror image. -/
import Derived.Test.YtllfkhcpdgdmnaaTal
import Derived.RangeFuncNested
import Derived.RangeFuncBound
import Derived.RangeFuncCalls
import Derived.RangeFuncLeaves
import Derived.RangeFuncBox
import Derived.Shelf.Abstract
import Derived.Shelf.RegionOpen
import Derived.TacticsInMore
import Derived.LoopNIn
import Derived.LoopIn
namespace Go.Proofs.Ytllfkhcpdgdmnaa
open Go.RowKit Go.Shelf
attribute [local go_sem] Oper.semAt_some

/-- Block g is kept. -/
def KB (g : Nat) (W W' : World) : Prop := W.heap.size ≤ W'.heap.size ∧ W'.heap[g]? = W.heap[g]?
theorem KB.refl (g : Nat) (W : World) : KB g W W := ⟨Nat.le_refl _, rfl⟩
theorem KB.trans {g : Nat} {A B C : World} (h : KB g A B) (k : KB g B C) : KB g A C := ⟨Nat.le_trans h.1 k.1, k.2.trans h.2⟩
theorem KB.of_below {g B : Nat} {W W' : World} (h : Below B W W') (hg : g < B) : KB g W W' := ⟨h.size, h.block g hg⟩
theorem KB.alloc {g : Nat} {W W' : World} (h : KB g W W') (hg : g < W'.heap.size) (o : Obj) : KB g W (W'.alloc o) := h.trans ⟨by simp, Below.heap_alloc W' o g hg⟩
theorem KB.setCell {g : Nat} {W W' : World} (h : KB g W W') {p : Addr} (hp : g ≠ p.block) (u : Value) : KB g W (W'.setCell p u) := h.trans ⟨by simp, Below.heap_setCell W' p u g hp⟩
theorem KB.putObj {g B : Nat} (hg : g < B) (W : World) (l : Nat) (o o' : Obj) (hl : B ≤ l) (_ : W.heap[l]? = some o) (_ : o.isCells = false) (_ : o.isWalk = false) : KB g W (W.putObj l o') :=
  ⟨by simp, World.putObj_heap_other (by omega)⟩
theorem RAt.kb {α : Type} {E : Enc α} {w w' : World} {A : Option Addr} {n c g off : Nat} {xs : List α} (h : RAt E w A n c xs g off) (k : KB g w w') : RAt E w' A n c xs g off := by
  refine ⟨h.len, h.cap, h.max, h.at_, fun hn => Nat.lt_of_lt_of_le (h.lt hn) k.1, fun i hi j hj => ?_⟩
  have e : w'.cell? ⟨g, off + (i * E.size + j), none⟩ = w.cell? ⟨g, off + (i * E.size + j), none⟩ := by simp [World.cell?, k.2]
  rw [e]
  exact h.cell i hi j hj
def KB2 (g b : Nat) (W W' : World) : Prop := KB g W W' ∧ KB b W W'
theorem KB2.trans {g b : Nat} {A B C : World} (h : KB2 g b A B) (k : KB2 g b B C) : KB2 g b A C := ⟨h.1.trans k.1, h.2.trans k.2⟩
theorem kb_cell {g i : Nat} {W W' : World} (h : KB g W W') : W'.cell? ⟨g, i, none⟩ = W.cell? ⟨g, i, none⟩ := by simp [World.cell?, h.2]
theorem ownRow_own {α β : Type} (E : Enc α) (b : Nat) (e : TypeId) (A : β → Option Addr) (n c : β → Nat) (l : β → List α) : Go.Own (fun s W => Own E W b e (A s) (n s) (c s) (l s)) := fun s X Y row hs hg hrow => by
  refine hs.kept hg ?_
  rcases hs.2.2 with ⟨hv, _⟩ | ⟨g, cap, cur, hv, hb, hg', _⟩
  · left
    simp at hv
    obtain ⟨h1, _⟩ := hv
    rw [h1]
    rfl
  · right
    simp at hv
    obtain ⟨h1, _⟩ := hv
    rw [h1]
    intro e'
    obtain ⟨o, ho, hc⟩ := hrow g e'.symm
    rw [hg'] at ho
    cases ho
    cases hc
theorem bk_row {α : Type} {E : Enc α} {W w' : World} {g B n c : Nat} {t e : TypeId} {cs : Array Value} {A : Option Addr} {l : List α} (h : Bk W g t cs) (ho : Own E W B e A n c l) (hte : t ≠ e) (hg : W.grownBy w' (Value.slice A n c).ownBlock) : Bk w' g t cs := by
  refine (hg.block g h.in_ (fun e' => ?_)).trans h
  rcases ho.2.2 with ⟨hv, _⟩ | ⟨g', cap, cur, hv, hb, hg', _⟩
  · simp at hv
    obtain ⟨rfl, _⟩ := hv
    simp [Value.ownBlock] at e'
  · simp at hv
    obtain ⟨rfl, _⟩ := hv
    simp [Value.ownBlock] at e'
    subst e'
    rw [show W.heap[g]? = _ from h] at hg'
    cases hg'
    exact hte rfl

/-- The row from its end on, with the indexes. -/
def bwd (L : List Int) : List (Int × Nat) := L.zipIdx.reverse
theorem bwd_len (L : List Int) : (bwd L).length = L.length := by simp [bwd]
theorem bwd_fst (L : List Int) : (bwd L).map (·.1) = L.reverse := by simp [bwd, List.map_reverse, List.zipIdx_map_fst]
abbrev Eb (L : List Int) := { x : Int × Nat // x ∈ bwd L }
def bwE {L : List Int} (x : Eb L) : Array Value := #[.int .i64 x.1.2, .int .i64 x.1.1]
theorem bwd_get {L : List Int} {k : Nat} (h : k < L.length) : (bwd L)[k]'(by rw [bwd_len]; exact h) = (gi L (L.length - 1 - k), L.length - 1 - k) := by
  simp [bwd, gi, List.getD_eq_getElem?_getD, show L.length - 1 - k < L.length by omega]
theorem bwd_succ {L : List Int} {k : Nat} (h : k < L.length) : ∃ hm, (bwd L).attach.take (k + 1) = (bwd L).attach.take k ++ [⟨(gi L (L.length - 1 - k), L.length - 1 - k), hm⟩] := by
  have hk : k < (bwd L).length := by rw [bwd_len]; exact h
  have e := bwd_get h
  refine ⟨by rw [← e]; exact List.getElem_mem hk, ?_⟩
  rw [List.take_succ_eq_append_getElem (by simpa using hk)]
  congr 2
  simp only [List.getElem_attach]
  exact Subtype.ext e

set_option maxRecDepth 100000 in
set_option maxHeartbeats 2000000 in
theorem backward1_in (F : Fence) (n : Nat) (hf : F.fn 100) (hro : F.round = none) (hn : 1 ≤ n) (l Bs g off len cap : Nat) (A : Option Addr) (L : List Int) (hsm : len ≤ 1000)
    (J Jx : List (Eb L) → World → Prop)
    (hY : ∀ pre x W, J pre W → pre.length < len → YieldAt F (n - 1) Try.prog l (bwE x) W fun e W' =>
      (e = .returned (.bool true) ∧ J (pre ++ [x]) W' ∧ KB2 g Bs W W') ∨ (e = .returned (.bool false) ∧ Jx (pre ++ [x]) W'))
    (W : World) (hBs : W.cell? ⟨Bs, 0, none⟩ = some (.slice A len cap)) (hc : RAt E1 W A len cap L g off) (h0 : J [] W) :
    CallsIn F n Try.prog 100 #[.func (.yield l) #[] #[], .pointer (some ⟨Bs, 0, none⟩)] W fun e W' => (∃ v, e = .returned v) ∧
      ((∃ ys, ys = (bwd L).attach ∧ J ys W') ∨ (∃ pre, (∃ k, pre = (bwd L).attach.take k) ∧ Jx pre W')) := by
  have HL := hide hc.len
  have HC := hide hc
  have HGL := hide hc.lt
  have hcap := hc.cap
  have hmax := hc.max
  have HBS := hide hBs
  clear hc
  refine callsIn_of_wp Try.func100 rfl hf ?_ hro
  simp only [Try.ntmps100, List.size_toArray, List.length_cons, List.length_nil, Nat.reduceAdd, Nat.reduceSub, Array.replicate_succ, Array.replicate_zero, List.push_toArray, List.append_toArray, List.nil_append, List.cons_append]
  gi_wp2
  clear hBs
  gi_loopw [3] (fun i wr => ∃ k : Nat, k ≤ len ∧ i = .int .i64 ((len : Int) - 1 - k) ∧ J ((bwd L).attach.take k) wr ∧ KB2 g Bs W wr)
    (fun i _ => (intOf i + 1).toNat)
  case atStart => exact ⟨0, Nat.zero_le _, by simp, h0, KB.refl _ _, KB.refl _ _⟩
  case round =>
    obtain ⟨k, hk, rfl, hJs, hnx⟩ := hrel
    by_cases hlt : k < len
    · obtain rfl := HC.out.at_ (by omega)
      obtain ⟨hm, hat⟩ := bwd_succ (L := L) (k := k) (by rw [HL.out]; exact hlt)
      have hll : L.length - 1 - k = len - 1 - k := by rw [HL.out]
      have a1 := c1 (HC.out.kb hnx.1) (k := len - 1 - k) (by omega)
      have hBr := (kb_cell (i := 0) hnx.2).trans HBS.out
      have hgr : g < wr.heap.size := Nat.lt_of_lt_of_le (HGL.out (by omega)) hnx.1.1
      have HNX := hide hnx
      obtain ⟨fn, tmps, assign, body, hy, hR⟩ := hY _ ⟨(gi L (L.length - 1 - k), L.length - 1 - k), hm⟩ _ hJs (by rw [List.length_take, List.length_attach, bwd_len, HL.out]; omega)
      dsimp only [bwE] at hy
      rw [hll] at hy
      have hR2 := hR
      clear hR hnx
      have HAT := hide hat
      clear hat
      have i1 : (0 : Int) ≤ (len : Int) - 1 - k := by omega
      have i1' : (k : Int) ≤ (len : Int) - 1 := by omega
      have i2 : (len : Int) - 1 - k < (len : Int) := by omega
      have i3 : ((len : Int) - 1 - (k : Int)).toNat = len - 1 - k := by omega
      have i4 : ((len - 1 - k : Nat) : Int) = (len : Int) - 1 - k := by omega
      rw [i4] at hy
      clear i4
      change wr.cell? _ = some (.int .i64 (gi L (len - 1 - k))) at a1
      generalize gi L (len - 1 - k) = x at *
      gi_wp2
      refine hR2.mono ?_
      rintro e W3 (⟨rfl, hJ3, hk3⟩ | ⟨rfl, hJx3⟩)
      · gi_wp2
        go_roundw
        case rel => exact ⟨k + 1, by omega, by go_num, by rw [HAT.out]; exact hJ3, HNX.out.trans hk3⟩
        case measure => simp [intOf]; omega
      · gi_wp2
        refine bodyPost_ret (results_none rfl _ _ _) rfl ?_
        exact ⟨⟨_, rfl⟩, .inr ⟨_, ⟨k + 1, HAT.out.symm⟩, hJx3⟩⟩
    · obtain rfl : k = len := by omega
      have i1 : (k : Int) - 1 - k < 0 := by omega
      gi_wp2
      go_end0
      exact ⟨⟨_, rfl⟩, .inl ⟨_, by rw [List.take_of_length_le (by rw [List.length_attach, bwd_len, HL.out]; omega)], hJs⟩⟩

theorem backward_stops (F : Fence) (n : Nat) (hf : F.fn 100) (hro : F.round = none) (hn : 1 ≤ n) (Bs g off len cap : Nat) (A : Option Addr) (L : List Int) (hsm : len ≤ 1000) (w : World) (hBs : Bs < w.heap.size)
    (hc : w.cell? ⟨Bs, 0, none⟩ = some (.slice A len cap)) (hI : RAt E1 w A len cap L g off) :
    SeqStopsK F n Try.prog 100 #[.pointer (some ⟨Bs, 0, none⟩)] (bwE (L := L)) (KB2 g Bs) (fun ys => ys = (bwd L).attach) (fun pre => ∃ k, pre = (bwd L).attach.take k) len w := fun l J Jx W hW _ _ hY h0 => by
  have hc' := (hW.cell (p := ⟨Bs, 0, none⟩) hBs).trans hc
  exact backward1_in F n hf hro hn l Bs g off len cap A L hsm J Jx hY W hc' (hI.below hW (Nat.le_refl _)) h0
set_option maxHeartbeats 400000 in
theorem Backward_any (A : Option Addr) (n c : Nat) (w : World) :
    Calls Try.prog 94 #[.slice A n c] w fun e w' => e = .returned (.func (.func 100) #[] #[.pointer (some ⟨w.heap.size, 0, none⟩)]) ∧ w' = w.alloc (.cells #[.slice A n c] 22) := by
  go_enter Try.func94, Try.ntmps94
  go_wp2
  go_ret
  exact ⟨rfl, rfl⟩

/-- The mirror image. -/
def mirE (c : List Int) : Int := gi c 0 + gi c (c.length - 1)
def mir (c : List Int) : List Int := c.reverse.map fun x => mirE c - x
theorem mir_len (c : List Int) : (mir c).length = c.length := by simp [mir]

set_option maxRecDepth 100000 in
set_option maxHeartbeats 4000000 in
theorem mirror_any (A : Option Addr) (n c : Nat) (L : List Int) (w : World) (h : R E1 w A n c L) (hn1 : 1 ≤ n) (hn : n ≤ 10) (hb : ∀ k, k < n → -1000 ≤ L.getD k 0 ∧ L.getD k 0 ≤ 1000) :
    Calls Try.prog 68 #[.slice A n c] w (IntsPost (mir L) w) := by
  obtain ⟨g, off, hr⟩ := h
  obtain rfl := hr.at_ (by omega)
  have hgl := hr.lt (by omega)
  have hcap := hr.cap
  have hmax := hr.max
  have HR := hide hr
  have HB := hide hb
  have HL := hide hr.len
  have a0 := c1 hr (k := 0) (by omega)
  have a1 := c1 hr (k := n - 1) (by omega)
  have b0 := hb 0 (by omega)
  have b1 := hb (n - 1) (by omega)
  have HE := hide (show mirE L = L.getD 0 0 + L.getD (n - 1) 0 from by unfold mirE gi; rw [hr.len])
  clear hr hb
  rw [Nat.add_zero] at a0
  generalize L.getD 0 0 = x0 at *
  generalize L.getD (n - 1) 0 = x1 at *
  have i0 : (0 : Int) < (n : Int) := by omega
  have i1 : (0 : Int) ≤ (n : Int) - 1 := by omega
  have i2 : (n : Int) - 1 < (n : Int) := by omega
  have i3 : ((n : Int) - 1).toNat = n - 1 := by omega
  have i4 : IntKind.i64.wrap ((n : Int) - 1) = (n : Int) - 1 := IntWalk.i64_in _ (by omega)
  have i5 : IntKind.i64.wrap (x0 + x1) = x0 + x1 := IntWalk.i64_in _ (by omega)
  refine (callsIn_wide (n := 3)).1 ?_
  refine callsIn_of_wp_marks Try.func68 rfl trivial ?_ rfl
  simp only [Try.ntmps68, List.size_toArray, List.length_cons, List.length_nil, Nat.reduceAdd, Nat.reduceSub, Array.replicate_succ, Array.replicate_zero, List.push_toArray, List.append_toArray, List.nil_append, List.cons_append]
  gi_wp2_with fail
  gi_region
  gi_wp2_with (refine ⟨trivial, ?_⟩; gi_at_call 94; refine (callsIn_wide.2 (Backward_any _ _ _ _)).mono ?_; rintro e w2 ⟨rfl, rfl⟩)
  have hB0 : Below w.heap.size w ((((w.alloc (.cells #[.slice none 0 0] 22)).alloc (.cells #[.int .i64 (x0 + x1)] 3)).alloc (.cells #[.slice (some ⟨g, off, none⟩) n c] 22)).drew) := ((((Below.refl _ w).alloc (Nat.le_refl _) _).alloc (by simp) _).alloc (by simp; omega) _).drew
  have bP : Boxed ((((w.alloc (.cells #[.slice none 0 0] 22)).alloc (.cells #[.int .i64 (x0 + x1)] 3)).alloc (.cells #[.slice (some ⟨g, off, none⟩) n c] 22)).drew) w.heap.size 22 (.slice none 0 0) := ((Boxed.new w 22 (.slice none 0 0)).alloc (.cells #[.int .i64 (x0 + x1)] 3)).alloc (.cells #[.slice (some ⟨g, off, none⟩) n c] 22)
  have bT : Boxed ((((w.alloc (.cells #[.slice none 0 0] 22)).alloc (.cells #[.int .i64 (x0 + x1)] 3)).alloc (.cells #[.slice (some ⟨g, off, none⟩) n c] 22)).drew) (w.alloc (.cells #[.slice none 0 0] 22)).heap.size 3 (.int .i64 (x0 + x1)) := (Boxed.new (w.alloc (.cells #[.slice none 0 0] 22)) 3 (.int .i64 (x0 + x1))).alloc (.cells #[.slice (some ⟨g, off, none⟩) n c] 22)
  have bS : Boxed ((((w.alloc (.cells #[.slice none 0 0] 22)).alloc (.cells #[.int .i64 (x0 + x1)] 3)).alloc (.cells #[.slice (some ⟨g, off, none⟩) n c] 22)).drew) ((w.alloc (.cells #[.slice none 0 0] 22)).alloc (.cells #[.int .i64 (x0 + x1)] 3)).heap.size 22 (.slice (some ⟨g, off, none⟩) n c) := Boxed.new ((w.alloc (.cells #[.slice none 0 0] 22)).alloc (.cells #[.int .i64 (x0 + x1)] 3)) 22 (.slice (some ⟨g, off, none⟩) n c)
  simp only [World.size_alloc] at bT bS
  have hsz : ((((w.alloc (.cells #[.slice none 0 0] 22)).alloc (.cells #[.int .i64 (x0 + x1)] 3)).alloc (.cells #[.slice (some ⟨g, off, none⟩) n c] 22)).drew).heap.size = w.heap.size + 3 := by simp
  obtain ⟨w2, hw2⟩ : ∃ w2, (((w.alloc (.cells #[.slice none 0 0] 22)).alloc (.cells #[.int .i64 (x0 + x1)] 3)).alloc (.cells #[.slice (some ⟨g, off, none⟩) n c] 22)).drew = w2 := ⟨_, rfl⟩
  rw [hw2] at hB0 bP bT bS hsz
  rw [hw2]
  clear hw2
  have hr2 : RAt E1 w2 (some ⟨g, off, none⟩) n c L g off := HR.out.below hB0 (Nat.le_refl _)
  have HSZ := hide hsz
  have hs2 : w.heap.size + 3 ≤ w2.heap.size := by omega
  have hs3 : w2.heap.size ≤ w.heap.size + 3 := by omega
  clear hsz
  have hg0 : g ≠ w.heap.size := by omega
  have hg1 : g ≠ w.heap.size + 1 := by omega
  refine wpIn_rangeFunc_ownH rfl (by omega) (gf := 100) (lb := #[.pointer (some ⟨w.heap.size + 1 + 1, 0, none⟩)]) rfl trivial (enters_of Try.func100 (by kernel_rfl) rfl)
    (backward_stops Fence.wide 2 trivial rfl (by omega) (w.heap.size + 1 + 1) g off n c _ L (by omega) w2 (by omega) bS.cell hr2) KB2.trans (fun W l o o' hl h1 h2 h3 => ⟨KB.putObj (B := w2.heap.size) (by omega) W l o o' hl h1 h2 h3, KB.putObj (B := w2.heap.size) (by omega) W l o o' hl h1 h2 h3⟩) (Below.refl _ _) (fun _ => rfl)
    (fun pre W => (∃ (Ao : Option Addr) (no co : Nat), Boxed W w.heap.size 22 (.slice Ao no co) ∧ Own E1 W w2.heap.size 3 Ao no co (pre.map fun y => x0 + x1 - y.1.1)) ∧ (Boxed W (w.heap.size + 1) 3 (.int .i64 (x0 + x1)) ∧ (Below w.heap.size w W ∧ w2.heap.size ≤ W.heap.size)))
    (fun _ _ _ => False)
    (OwnFrom.and (fun pre X Y row hs hg hr => by obtain ⟨Ao, no, co, h1, h2⟩ := hs; exact ⟨Ao, no, co, boxed_own w.heap.size 22 (fun (_ : Unit) => Value.slice Ao no co) () X Y row h1 hg (fun r e => (hr r e).2), ownRow_own E1 w2.heap.size 3 (fun (_ : Unit) => Ao) (fun _ => no) (fun _ => co) (fun _ => (pre.map fun y => x0 + x1 - y.1.1)) () X Y row h2 hg (fun r e => (hr r e).2)⟩) (OwnFrom.and (Go.Own.from (boxed_own _ _ _) _) (OwnFrom.and (ownFrom_below (Nat.le_refl _) (by omega)) (fun _ _ _ _ hs hg _ => Nat.le_trans hs hg.size))))
    (fun _ _ _ _ _ hs _ _ => hs)
    ⟨⟨none, 0, 0, bP, Own.nil E1 _ _ _⟩, bT, hB0, Nat.le_refl _⟩
    (fun x a' W => a' = { tmps := #[.slice (some ⟨g, off, none⟩) n c, undef, .slice none 0 0, .pointer (some ⟨w.heap.size, 0, none⟩), .pointer (some ⟨w.heap.size + 1, 0, none⟩), undef, .int .i64 x.1.1, .slice (some ⟨g, off, none⟩) n c, .pointer (some ⟨g, off, none⟩), .int .i64 x0, .slice (some ⟨g, off, none⟩) n c, .slice (some ⟨g, off, none⟩) n c, .int .i64 n, .int .i64 ((n : Int) - 1), .pointer (some ⟨g, off + (n - 1), none⟩), .int .i64 x1, .int .i64 (x0 + x1), .slice (some ⟨g, off, none⟩) n c, .func (.func 100) #[] #[.pointer (some ⟨w.heap.size + 1 + 1, 0, none⟩)], .int .i64 x.1.2, .int .i64 x.1.1, undef, undef, undef, undef, undef, undef, undef], defers := [] })
    (fun x a' _ X Y row hs hg hr => hs)
    ?assign ?body ?done ?stop
  case assign =>
    rintro l pre x W K ⟨⟨Ao, no, co, bP1, hO1⟩, bT1, hB1, hs1⟩ hK
    dsimp only [bwE]
    gi_wp2
    exact hK _ _ (KeepsFrom.refl _ _) ⟨KB.refl g W, KB.refl _ W⟩ ⟨⟨Ao, no, co, bP1, hO1⟩, bT1, hB1, hs1⟩ rfl
  case body =>
    rintro l pre x a' W hl ⟨r, hr⟩ ⟨⟨Ao, no, co, bP1, hO1⟩, bT1, hB1, hs1⟩ rfl hlt
    clear hr
    have hno : no ≤ 12 := by have := hO1.len; rw [List.length_map] at this; omega
    have HSN := hide (show ((pre ++ [x]).map fun y => x0 + x1 - y.1.1) = _ ++ [x0 + x1 - x.1.1] by rw [List.map_append, List.map_cons, List.map_nil])
    have hxb : -1000 ≤ x.1.1 ∧ x.1.1 ≤ 1000 := by
      have hm : x.1.1 ∈ L := by
        have : x.1.1 ∈ (bwd L).map (·.1) := List.mem_map.2 ⟨x.1, x.2, rfl⟩
        rw [bwd_fst] at this
        simpa using this
      obtain ⟨k, hk, e⟩ := List.getElem_of_mem hm
      have := HB.out k (by rw [← HL.out]; exact hk)
      rw [List.getD_eq_getElem?_getD, List.getElem?_eq_getElem hk, Option.getD_some, e] at this
      exact this
    generalize (pre.map fun y => x0 + x1 - y.1.1) = ch at *
    obtain ⟨⟨x1', xi⟩, hxm⟩ := x
    dsimp only at *
    have cP := bP1.cell
    have fP := bP1.frozen
    have cT := bT1.cell
    have fT := bT1.frozen
    have HP := hide bP1
    have HT := hide bT1
    have HO := hide hO1
    have HB1 := hide hB1
    clear bP1 bT1 hO1 hB1
    have j5 : IntKind.i64.wrap (x0 + x1 - x1') = x0 + x1 - x1' := IntWalk.i64_in _ (by omega)
    gi_wp2_with (gi_at_builtin; refine wpListIn_app1 (E := E1) _ (.int .i64 0) 8 rfl (.tmp 21) (.tmp 25) 22 3 rfl Try.underlying22 info_int rfl (by decide) (by omega) _ _ _ _ _ (x0 + x1 - x1') _ rfl rfl rfl HO.out (by omega) hs1 ?_; intro A5 c5 w5 o5 b5 g5; have hP5 : Boxed w5 w.heap.size 22 (.slice Ao no co) := (b5.block _ (by omega)).trans HP.out; have cP5 := hP5.cell; have fP5 := hP5.frozen; have hT5 : Boxed w5 (w.heap.size + 1) 3 (.int .i64 (x0 + x1)) := (b5.block _ (by omega)).trans HT.out; have HP5 := hide hP5; have HT5 := hide hT5; have HO5 := hide o5; have HB5 := hide b5; have hs5 := b5.size; have HKO := hide (own_keeps HO.out g5); clear hP5 hT5 o5 b5 g5)
    have hg3 : g < w2.heap.size := by omega
    refine ⟨(HKO.out.trans (KeepsOthers.setCell _ _ _)).from _, ⟨(KB.of_below HB5.out hg3).setCell (p := ⟨w.heap.size, 0, none⟩) hg0 _, (KB.of_below HB5.out (by omega)).setCell (p := ⟨w.heap.size, 0, none⟩) (by simp <;> omega) _⟩, ⟨A5, no + 1, c5, HP5.out.set _, ?_⟩, ?_, ?_, ?_⟩
    · rw [HSN.out]; exact own_other HO5.out (by omega) _ _
    · exact HT5.out.other (by omega) _
    · exact (HB1.out.trans (HB5.out.mono (by omega))).setCell (p := ⟨w.heap.size, 0, none⟩) (Nat.le_refl _) _
    · simp; omega
  case done =>
    rintro D ys W hD rfl ⟨⟨Ao, no, co, bP1, hO1⟩, bT1, hB1, hs1⟩ hK
    have e1 : ((bwd L).attach.map fun y => x0 + x1 - y.1.1) = mir L := by
      have : ((bwd L).attach.map fun y => x0 + x1 - y.1.1) = (((bwd L).attach.map Subtype.val).map (·.1)).map (fun y => x0 + x1 - y) := by rw [List.map_map, List.map_map]; rfl
      rw [this, List.attach_map_subtype_val, bwd_fst]
      unfold mir
      rw [HE.out]
    rw [e1] at hO1
    have cP := bP1.cell
    have HO := hide hO1
    have HB1 := hide hB1
    have HK := hide hK
    clear bP1 hO1 hB1 bT1 e1 hK
    gi_wp2
    have hb0 := belowK_b (w := w) (Nat.le_refl _) W D (.deferred (some [])) (.deferred none) (by omega) HK.out rfl rfl
    refine ⟨by simp, .inl ⟨_, _, rfl, run_takeDeferred HK.out, ?_⟩⟩
    refine ⟨.slice Ao no co, by simp [results, Try.f68, go_sem], Ao, no, co, rfl, ?_, HB1.out.trans hb0⟩
    have := ownRow_own E1 w2.heap.size 3 (fun (_ : Unit) => Ao) (fun _ => no) (fun _ => co) (fun _ => mir L) () W _ (some D) HO.out (grownBy_putObj' W D (.deferred none)) (fun r e => by cases e; exact ⟨_, HK.out, rfl⟩)
    exact this.more (by omega)
  case stop =>
    rintro D c' pre W _ _ h _
    exact h.elim
end Go.Proofs.Ytllfkhcpdgdmnaa
