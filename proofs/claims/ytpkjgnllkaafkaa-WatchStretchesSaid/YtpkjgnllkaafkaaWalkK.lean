/- The iterator over a row of numbered shifts from its end on, and what is chosen. -/
import Derived.Test.YtpkjgnllkaafkaaWalkJ
namespace Go.Proofs.Ytpkjgnllkaafkaa
open Go.RowKit Go.Shelf
attribute [local go_sem] Oper.semAt_some

/-- The row from its end on, with the indexes. -/
def bwd (L : Ns) : List (Nm × Nat) := L.zipIdx.reverse
theorem bwd_len (L : Ns) : (bwd L).length = L.length := by simp [bwd]
theorem bwd_fst (L : Ns) : (bwd L).map (·.1) = L.reverse := by simp [bwd, List.map_reverse, List.zipIdx_map_fst]
abbrev Eb (L : Ns) := { x : Nm × Nat // x ∈ bwd L }
def bwE {L : Ns} (x : Eb L) : Array Value := #[.int .i64 x.1.2, nmV x.1.1.1 x.1.1.2.1 x.1.1.2.2.1 x.1.1.2.2.2]
theorem bwd_get {L : Ns} {k : Nat} (h : k < L.length) : (bwd L)[k]'(by rw [bwd_len]; exact h) = (gt L (L.length - 1 - k), L.length - 1 - k) := by
  simp [bwd, gt, List.getD_eq_getElem?_getD, show L.length - 1 - k < L.length by omega]
theorem bwd_succ {L : Ns} {k : Nat} (h : k < L.length) : ∃ hm, (bwd L).attach.take (k + 1) = (bwd L).attach.take k ++ [⟨(gt L (L.length - 1 - k), L.length - 1 - k), hm⟩] := by
  have hk : k < (bwd L).length := by rw [bwd_len]; exact h
  have e := bwd_get h
  refine ⟨by rw [← e]; exact List.getElem_mem hk, ?_⟩
  rw [List.take_succ_eq_append_getElem (by simpa using hk)]
  congr 2
  simp only [List.getElem_attach]
  exact Subtype.ext e
def KB2 (g b : Nat) (W W' : World) : Prop := KB g W W' ∧ KB b W W'
theorem KB2.trans {g b : Nat} {A B C : World} (h : KB2 g b A B) (k : KB2 g b B C) : KB2 g b A C := ⟨h.1.trans k.1, h.2.trans k.2⟩
theorem kb_cell {g i : Nat} {W W' : World} (h : KB g W W') : W'.cell? ⟨g, i, none⟩ = W.cell? ⟨g, i, none⟩ := by simp [World.cell?, h.2]

set_option maxRecDepth 100000 in
set_option maxHeartbeats 2000000 in
theorem backward1_in (F : Fence) (n : Nat) (hf : F.fn 113) (hro : F.round = none) (hn : 1 ≤ n) (l Bs g off len cap : Nat) (A : Option Addr) (L : Ns) (hsm : len ≤ 1000)
    (J Jx : List (Eb L) → World → Prop)
    (hY : ∀ pre x W, J pre W → pre.length < len → YieldAt F (n - 1) Try.prog l (bwE x) W fun e W' =>
      (e = .returned (.bool true) ∧ J (pre ++ [x]) W' ∧ KB2 g Bs W W') ∨ (e = .returned (.bool false) ∧ Jx (pre ++ [x]) W'))
    (W : World) (hBs : W.cell? ⟨Bs, 0, none⟩ = some (.slice A len cap)) (hc : RAt E4 W A len cap L g off) (h0 : J [] W) :
    CallsIn F n Try.prog 113 #[.func (.yield l) #[] #[], .pointer (some ⟨Bs, 0, none⟩)] W fun e W' => (∃ v, e = .returned v) ∧
      ((∃ ys, ys = (bwd L).attach ∧ J ys W') ∨ (∃ pre, (∃ k, pre = (bwd L).attach.take k) ∧ Jx pre W')) := by
  have HL := hide hc.len
  have HC := hide hc
  have HGL := hide hc.lt
  have hcap := hc.cap
  have hmax := hc.max
  have HBS := hide hBs
  clear hc
  refine callsIn_of_wp Try.func113 rfl hf ?_ hro
  simp only [Try.ntmps113, List.size_toArray, List.length_cons, List.length_nil, Nat.reduceAdd, Nat.reduceSub, Array.replicate_succ, Array.replicate_zero, List.push_toArray, List.append_toArray, List.nil_append, List.cons_append]
  gi_wp2
  clear hBs
  gi_loopw [3] (fun i wr => ∃ k : Nat, k ≤ len ∧ i = .int .i64 ((len : Int) - 1 - k) ∧ J ((bwd L).attach.take k) wr ∧ KB2 g Bs W wr)
    (fun i _ => (intOf i + 1).toNat)
  case atStart => exact ⟨0, Nat.zero_le _, by simp, h0, KB.refl _ _, KB.refl _ _⟩
  case round =>
    obtain ⟨k, hk, rfl, hJs, hnx⟩ := hrel
    by_cases hlt : k < len
    · obtain rfl := HC.out.at_ (by omega)
      obtain ⟨hm, hat⟩ := bwd_succ (L := L) (k := k) (by rw [HL.out]; exact hlt)
      have hll : L.length - 1 - k = len - 1 - k := by rw [HL.out]
      obtain ⟨a1, a2, a3, a4⟩ := c4 (HC.out.kb hnx.1) (k := len - 1 - k) (by omega)
      have hBr := (kb_cell (i := 0) hnx.2).trans HBS.out
      have hgr : g < wr.heap.size := Nat.lt_of_lt_of_le (HGL.out (by omega)) hnx.1.1
      have HNX := hide hnx
      obtain ⟨fn, tmps, assign, body, hy, hR⟩ := hY _ ⟨(gt L (L.length - 1 - k), L.length - 1 - k), hm⟩ _ hJs (by rw [List.length_take, List.length_attach, bwd_len, HL.out]; omega)
      dsimp only [bwE] at hy
      rw [hll] at hy
      have hR2 := hR
      clear hR hnx
      have HAT := hide hat
      clear hat
      have i1 : (0 : Int) ≤ (len : Int) - 1 - k := by omega
      have i1' : (k : Int) ≤ (len : Int) - 1 := by omega
      have i2 : (len : Int) - 1 - k < (len : Int) := by omega
      have i3 : ((len : Int) - 1 - (k : Int)).toNat = len - 1 - k := by omega
      have i4 : ((len - 1 - k : Nat) : Int) = (len : Int) - 1 - k := by omega
      rw [i4] at hy
      clear i4
      generalize gt L (len - 1 - k) = x at *
      obtain ⟨x1, x2, x3, x4⟩ := x
      dsimp only at a1 a2 a3 a4 hy
      gi_wp2
      refine hR2.mono ?_
      rintro e W3 (⟨rfl, hJ3, hk3⟩ | ⟨rfl, hJx3⟩)
      · gi_wp2
        go_roundw
        case rel => exact ⟨k + 1, by omega, by go_num, by rw [HAT.out]; exact hJ3, HNX.out.trans hk3⟩
        case measure => simp [intOf]; omega
      · gi_wp2
        refine bodyPost_ret (results_none rfl _ _ _) rfl ?_
        exact ⟨⟨_, rfl⟩, .inr ⟨_, ⟨k + 1, HAT.out.symm⟩, hJx3⟩⟩
    · obtain rfl : k = len := by omega
      have i1 : (k : Int) - 1 - k < 0 := by omega
      gi_wp2
      go_end0
      exact ⟨⟨_, rfl⟩, .inl ⟨_, by rw [List.take_of_length_le (by rw [List.length_attach, bwd_len, HL.out]; omega)], hJs⟩⟩

theorem backward_stops (F : Fence) (n : Nat) (hf : F.fn 113) (hro : F.round = none) (hn : 1 ≤ n) (Bs g off len cap : Nat) (A : Option Addr) (L : Ns) (hsm : len ≤ 1000) (w : World) (hBs : Bs < w.heap.size)
    (hc : w.cell? ⟨Bs, 0, none⟩ = some (.slice A len cap)) (hI : RAt E4 w A len cap L g off) :
    SeqStopsK F n Try.prog 113 #[.pointer (some ⟨Bs, 0, none⟩)] (bwE (L := L)) (KB2 g Bs) (fun ys => ys = (bwd L).attach) (fun pre => ∃ k, pre = (bwd L).attach.take k) len w := fun l J Jx W hW _ _ hY h0 => by
  have hc' := (hW.cell (p := ⟨Bs, 0, none⟩) hBs).trans hc
  exact backward1_in F n hf hro hn l Bs g off len cap A L hsm J Jx hY W hc' (hI.below hW (Nat.le_refl _)) h0
set_option maxHeartbeats 400000 in
theorem Backward_any (A : Option Addr) (n c : Nat) (w : World) :
    Calls Try.prog 95 #[.slice A n c] w fun e w' => e = .returned (.func (.func 113) #[] #[.pointer (some ⟨w.heap.size, 0, none⟩)]) ∧ w' = w.alloc (.cells #[.slice A n c] 84) := by
  go_enter Try.func95, Try.ntmps95
  go_wp2
  go_ret
  exact ⟨rfl, rfl⟩

theorem bk_row {α : Type} {E : Enc α} {W w' : World} {g B n c : Nat} {t e : TypeId} {cs : Array Value} {A : Option Addr} {l : List α} (h : Bk W g t cs) (ho : Own E W B e A n c l) (hte : t ≠ e) (hg : W.grownBy w' (Value.slice A n c).ownBlock) : Bk w' g t cs := by
  refine (hg.block g h.in_ (fun e' => ?_)).trans h
  rcases ho.2.2 with ⟨hv, _⟩ | ⟨g', cap, cur, hv, hb, hg', _⟩
  · simp at hv
    obtain ⟨rfl, _⟩ := hv
    simp [Value.ownBlock] at e'
  · simp at hv
    obtain ⟨rfl, _⟩ := hv
    simp [Value.ownBlock] at e'
    subst e'
    rw [show W.heap[g]? = _ from h] at hg'
    cases hg'
    exact hte rfl
/-- What is chosen, one after another: the numbers, and the beginning. -/
def chF (a : List Int × Int) (s : Nm) : List Int × Int := if s.2.1 ≤ a.2 then (a.1 ++ [s.2.2.2], s.1) else a
def chs (l : List Nm) : List Int × Int := l.foldl chF ([], 1000)
theorem chs_snoc (l : List Nm) (s : Nm) : chs (l ++ [s]) = chF (chs l) s := by simp [chs]
theorem chs_len' : ∀ (n : Nat) (l : List Nm), l.length = n → (chs l).1.length ≤ n
  | 0, l, hn => by
    obtain rfl := List.eq_nil_of_length_eq_zero hn
    simp [chs]
  | n + 1, l, hn => by
    have hne : l ≠ [] := by intro e; subst e; simp at hn
    obtain ⟨l, s, rfl⟩ : ∃ ini c, l = ini ++ [c] := ⟨l.dropLast, l.getLast hne, (List.dropLast_concat_getLast hne).symm⟩
    have ih := chs_len' n l (by simpa using hn)
    rw [chs_snoc]
    unfold chF
    split
    · simp; omega
    · omega
theorem chs_len (l : List Nm) : (chs l).1.length ≤ l.length := chs_len' _ l rfl
/-- A row of integers of its own, new, as is said. -/
def SetPost (p : List Int → Prop) (w : World) (e : Ending) (w' : World) : Prop :=
  ∃ (A : Option Addr) (n c : Nat) (I : List Int), e = .returned (.slice A n c) ∧ p I ∧ Own E1 w' w.heap.size 3 A n c I ∧ Below w.heap.size w w'

set_option maxRecDepth 100000 in
set_option maxHeartbeats 2000000 in
theorem chosen_any (A : Option Addr) (n c : Nat) (L : List Nm) (w : World) (h : R E4 w A n c L) (hn12 : n ≤ 12) :
    Calls Try.prog 76 #[.slice A n c] w (SetPost (fun I => I.Perm (chs L.reverse).1 ∧ I.Pairwise (· ≤ ·)) w) := by
  obtain ⟨g, off, hr, hg0, hg1, hg2⟩ : ∃ g off, RAt E4 w A n c L g off ∧ g ≠ w.heap.size ∧ g ≠ w.heap.size + 1 ∧ g < w.heap.size + 3 := by
    obtain ⟨g, off, hr⟩ := h
    by_cases h0 : n = 0
    · subst h0
      exact ⟨w.heap.size + 2, 0, ⟨hr.len, hr.cap, hr.max, fun h => by omega, fun h => by omega, fun k hk => by omega⟩, by omega, by omega, by omega⟩
    · have := hr.lt (by omega)
      exact ⟨g, off, hr, by omega, by omega, by omega⟩
  have HL := hide hr.len
  refine (callsIn_wide (n := 3)).1 ?_
  refine callsIn_of_wp_marks Try.func76 rfl trivial ?_ rfl
  simp only [Try.ntmps76, List.size_toArray, List.length_cons, List.length_nil, Nat.reduceAdd, Nat.reduceSub, Array.replicate_succ, Array.replicate_zero, List.push_toArray, List.append_toArray, List.nil_append, List.cons_append]
  gi_wp2_with (first
    | (refine ⟨trivial, ?_⟩; gi_at_call 95; refine (callsIn_wide.2 (Backward_any _ _ _ _)).mono ?_; rintro e w2 ⟨rfl, rfl⟩))
  have hB0 : Below w.heap.size w (((w.alloc (.cells #[.slice none 0 0] 30)).alloc (.cells #[.int .i64 1000] 3)).alloc (.cells #[.slice A n c] 84)) := (((Below.refl _ w).alloc (Nat.le_refl _) _).alloc (by simp) _).alloc (by simp; omega) _
  have bP := ((Boxed.new w 30 (.slice none 0 0)).alloc (.cells #[.int .i64 1000] 3)).alloc (.cells #[.slice A n c] 84)
  have bT := (Boxed.new (w.alloc (.cells #[.slice none 0 0] 30)) 3 (.int .i64 1000)).alloc (.cells #[.slice A n c] 84)
  have bS := Boxed.new ((w.alloc (.cells #[.slice none 0 0] 30)).alloc (.cells #[.int .i64 1000] 3)) 84 (.slice A n c)
  simp only [World.size_alloc] at bT bS
  have hsz : (((w.alloc (.cells #[.slice none 0 0] 30)).alloc (.cells #[.int .i64 1000] 3)).alloc (.cells #[.slice A n c] 84)).heap.size = w.heap.size + 3 := by simp
  obtain ⟨w2, hw2⟩ : ∃ w2, ((w.alloc (.cells #[.slice none 0 0] 30)).alloc (.cells #[.int .i64 1000] 3)).alloc (.cells #[.slice A n c] 84) = w2 := ⟨_, rfl⟩
  rw [hw2] at hB0 bP bT bS hsz ⊢
  clear hw2
  have hr2 : RAt E4 w2 A n c L g off := hr.below hB0 (Nat.le_refl _)
  have HSZ := hide hsz
  have hs2 : w.heap.size + 3 ≤ w2.heap.size := by omega
  have hs3 : w2.heap.size ≤ w.heap.size + 3 := by omega
  clear hsz hr
  refine wpIn_rangeFunc_ownH rfl (by omega) (gf := 113) (lb := #[.pointer (some ⟨w.heap.size + 1 + 1, 0, none⟩)]) rfl trivial (enters_of Try.func113 (by kernel_rfl) rfl)
    (backward_stops Fence.wide 2 trivial rfl (by omega) (w.heap.size + 1 + 1) g off n c A L (by omega) w2 (by omega) bS.cell hr2) KB2.trans (fun W l o o' hl h1 h2 h3 => ⟨KB.putObj (B := w2.heap.size) (by omega) W l o o' hl h1 h2 h3, KB.putObj (B := w2.heap.size) (by omega) W l o o' hl h1 h2 h3⟩) (Below.refl _ _) (fun _ => rfl)
    (fun pre W => (∃ (Ao : Option Addr) (no co : Nat), Boxed W w.heap.size 30 (.slice Ao no co) ∧ Own E1 W w2.heap.size 3 Ao no co (chs (pre.map (·.1.1))).1) ∧ (Boxed W (w.heap.size + 1) 3 (.int .i64 (chs (pre.map (·.1.1))).2) ∧ (Below w.heap.size w W ∧ w2.heap.size ≤ W.heap.size)))
    (fun _ _ _ => False)
    (OwnFrom.and (fun pre X Y row hs hg hr => by obtain ⟨Ao, no, co, h1, h2⟩ := hs; exact ⟨Ao, no, co, boxed_own w.heap.size 30 (fun (_ : Unit) => Value.slice Ao no co) () X Y row h1 hg (fun r e => (hr r e).2), ownRow_own E1 w2.heap.size 3 (fun (_ : Unit) => Ao) (fun _ => no) (fun _ => co) (fun _ => (chs (pre.map (·.1.1))).1) () X Y row h2 hg (fun r e => (hr r e).2)⟩) (OwnFrom.and (Go.Own.from (boxed_own _ _ _) _) (OwnFrom.and (ownFrom_below (Nat.le_refl _) (by omega)) (fun _ _ _ _ hs hg _ => Nat.le_trans hs hg.size))))
    (fun _ _ _ _ _ hs _ _ => hs)
    ⟨⟨none, 0, 0, bP, Own.nil E1 _ _ _⟩, bT, hB0, Nat.le_refl _⟩
    (fun x a' W => ∃ Bx, w2.heap.size ≤ Bx ∧ Bk W Bx 75 #[.int .i64 x.1.1.1, .int .i64 x.1.1.2.1, .int .i64 x.1.1.2.2.1, .int .i64 x.1.1.2.2.2] ∧ a' = { tmps := #[.slice A n c, undef, .slice none 0 0, .pointer (some ⟨w.heap.size, 0, none⟩), .pointer (some ⟨w.heap.size + 1, 0, none⟩), undef, .pointer (some ⟨Bx, 0, none⟩), .slice A n c, .func (.func 113) #[] #[.pointer (some ⟨w.heap.size + 1 + 1, 0, none⟩)], .int .i64 x.1.2, nmV x.1.1.1 x.1.1.2.1 x.1.1.2.2.1 x.1.1.2.2.2, undef, undef, undef, undef, undef, undef, undef, undef, undef, undef, undef, undef, undef, undef, undef, undef], defers := [] })
    (fun x a' _ X Y row hs hg hr => by obtain ⟨Bx, h1, h2, h3⟩ := hs; exact ⟨Bx, h1, bk_own Bx 75 (fun (_ : Unit) => #[.int .i64 x.1.1.1, .int .i64 x.1.1.2.1, .int .i64 x.1.1.2.2.1, .int .i64 x.1.1.2.2.2]) () X Y row h2 hg (fun r e => (hr r e).2), h3⟩)
    ?assign ?body ?done ?stop
  case assign =>
    rintro l pre x W K ⟨⟨Ao, no, co, bP1, hO1⟩, bT1, hB1, hs1⟩ hK
    dsimp only [bwE]
    gi_wp2
    exact hK _ _ ((KeepsOthers.alloc _ _).from _) ⟨(KB.refl g W).alloc (by omega) _, (KB.refl _ W).alloc (by omega) _⟩ ⟨⟨Ao, no, co, bP1.alloc _, hO1.alloc _⟩, bT1.alloc _, hB1.alloc hB1.size _, by simp; omega⟩ ⟨W.heap.size, hs1, Bk.born W _ _, rfl⟩
  case body =>
    rintro l pre x a' W hl ⟨r, hr⟩ ⟨⟨Ao, no, co, bP1, hO1⟩, bT1, hB1, hs1⟩ ⟨Bx, hBx, bX, rfl⟩ hlt
    clear hr
    have hcl := chs_len (pre.map (·.1.1))
    rw [List.length_map] at hcl
    have hno : no ≤ 12 := by have := hO1.len; omega
    have HSN := hide (show chs ((pre ++ [x]).map (·.1.1)) = _ by rw [List.map_append, List.map_cons, List.map_nil, chs_snoc])
    generalize chs (pre.map (·.1.1)) = ch at *
    obtain ⟨ci, cb⟩ := ch
    obtain ⟨⟨⟨x1, x2, x3, x4⟩, xi⟩, hxm⟩ := x
    dsimp only [chF] at *
    have cP := bP1.cell
    have fP := bP1.frozen
    have cT := bT1.cell
    have fT := bT1.frozen
    obtain ⟨k1, k2, k3, k4, _⟩ := bk4 bX
    have HP := hide bP1
    have HT := hide bT1
    have HO := hide hO1
    have HB1 := hide hB1
    have HX := hide bX
    clear bP1 bT1 hO1 hB1 bX hcl
    by_cases hc : x2 ≤ cb
    · have HS1 := hide (HSN.out.trans (if_pos hc))
      clear HSN
      gi_wp2_with (gi_at_builtin; refine wpListIn_app1 (E := E1) _ (.int .i64 0) 8 rfl (.tmp 16) (.tmp 19) 30 3 rfl Try.underlying30 info_int rfl (by decide) (by omega) _ _ _ _ _ (x4) _ rfl rfl rfl HO.out (by omega) hs1 ?_; intro A5 c5 w5 o5 b5 g5; have hP5 : Boxed w5 w.heap.size 30 (.slice Ao no co) := (b5.block _ (by omega)).trans HP.out; have cP5 := hP5.cell; have fP5 := hP5.frozen; have hT5 : Boxed w5 (w.heap.size + 1) 3 (.int .i64 cb) := (b5.block _ (by omega)).trans HT.out; have cT5 := hT5.cell; have fT5 := hT5.frozen; have HP5 := hide hP5; have HT5 := hide hT5; have HO5 := hide o5; have HB5 := hide b5; have hs5 := b5.size; have HKO := hide (own_keeps HO.out g5); have hX5 := bk_row HX.out HO.out (by decide) g5; obtain ⟨j1, j2, j3, j4, _⟩ := bk4 hX5; clear hP5 hT5 o5 b5 g5 hX5)
      have hg3 : g < w2.heap.size := by omega
      refine ⟨((HKO.out.trans (KeepsOthers.setCell _ _ _)).trans (KeepsOthers.setCell _ _ _)).from _, ⟨((KB.of_below HB5.out hg3).setCell (p := ⟨w.heap.size, 0, none⟩) hg0 _).setCell (p := ⟨w.heap.size + 1, 0, none⟩) hg1 _, ((KB.of_below HB5.out (by omega)).setCell (p := ⟨w.heap.size, 0, none⟩) (by simp <;> omega) _).setCell (p := ⟨w.heap.size + 1, 0, none⟩) (by simp <;> omega) _⟩, ⟨A5, no + 1, c5, (HP5.out.set _).other (by omega) _, ?_⟩, ?_, ?_, ?_⟩
      · rw [HS1.out]; exact own_other (own_other HO5.out (by omega) _ _) (by omega) _ _
      · rw [HS1.out]; exact (HT5.out.other (by omega) _).set _
      · exact ((HB1.out.trans (HB5.out.mono (by omega))).setCell (p := ⟨w.heap.size, 0, none⟩) (Nat.le_refl _) _).setCell (p := ⟨w.heap.size + 1, 0, none⟩) (by simp) _
      · simp; omega
    · have HS1 := hide (HSN.out.trans (if_neg hc))
      clear HSN
      gi_wp2
      refine ⟨KeepsFrom.refl _ _, ⟨KB.refl _ _, KB.refl _ _⟩, ⟨Ao, no, co, HP.out, ?_⟩, ?_, HB1.out, hs1⟩
      · rw [HS1.out]; exact HO.out
      · rw [HS1.out]; exact HT.out
  case done =>
    rintro D ys W hD rfl ⟨⟨Ao, no, co, bP1, hO1⟩, bT1, hB1, hs1⟩ hK
    have e1 : ((bwd L).attach.map (·.1.1)) = L.reverse := by
      have : ((bwd L).attach.map (·.1.1)) = ((bwd L).attach.map Subtype.val).map (·.1) := by rw [List.map_map]; rfl
      rw [this, List.attach_map_subtype_val, bwd_fst]
    rw [e1] at hO1
    have hno : no ≤ 12 := by have h1 := hO1.len; have h2 := chs_len L.reverse; rw [List.length_reverse, HL.out] at h2; omega
    have cP := bP1.cell
    have HO := hide hO1
    have HB1 := hide hB1
    have HP := hide bP1
    have HK := hide hK
    clear bP1 hO1 hB1 bT1 e1 hK
    gi_wp2_with (refine ⟨trivial, ?_⟩; gi_at_call 70; refine (callsIn_wide.2 (SortI_any Ao no co _ _ _ HO.out hno)).mono ?_; rintro e w6 ⟨I, rfl, o6, hp6, hu6, g6⟩; have hP6 : Boxed w6 w.heap.size 30 (.slice Ao no co) := bk_row HP.out HO.out (by decide) g6; have cP6 := hP6.cell; have HO6 := hide o6; have HP6 := hide hp6; have HU6 := hide hu6; have HG6 := hide g6; have hs6 := g6.size; clear hP6 o6 hp6 hu6 g6)
    have hK6 : w6.heap[D]? = some (.deferred (some [])) := (own_keeps HO.out HG6.out).same D _ HK.out rfl
    have hB6 : Below w2.heap.size W w6 := by
      rcases HO.out.form with ⟨e1, e2, e3, _⟩ | ⟨go, e1, hgo, _⟩
      · subst e1 e2 e3; exact (Below.refl _ W).grown HG6.out hs1 (fun k e => by simp [Value.ownBlock] at e)
      · subst e1; exact (Below.refl _ W).grown HG6.out hs1 (fun k e => by simp [Value.ownBlock] at e; omega)
    have hb0 := belowK_b (w := w) (Nat.le_refl _) w6 D (.deferred (some [])) (.deferred none) (by omega) hK6 rfl rfl
    refine ⟨by simp, .inl ⟨_, _, rfl, run_takeDeferred hK6, ?_⟩⟩
    refine ⟨.slice Ao no co, by simp [results, Try.f76, go_sem], Ao, no, co, I, rfl, ⟨HP6.out, uptoi_sorted (by rw [HO6.out.len]; exact HU6.out)⟩, ?_, (HB1.out.trans (hB6.mono (by omega))).trans hb0⟩
    have := ownRow_own E1 w2.heap.size 3 (fun (_ : Unit) => Ao) (fun _ => no) (fun _ => co) (fun _ => I) () w6 _ (some D) HO6.out (grownBy_putObj' w6 D (.deferred none)) (fun r e => by cases e; exact ⟨_, hK6, rfl⟩)
    exact this.more (by omega)
  case stop =>
    rintro D c' pre W _ _ h _
    exact h.elim
end Go.Proofs.Ytpkjgnllkaafkaa
