/- The rests: what the shifts, in the order of their ends, leave of their pay. -/
import Derived.Test.YtpkjgnllkaafkaaWalkH
import Derived.Test.YtpkjgnllkaafkaaMA
namespace Go.Proofs.Ytpkjgnllkaafkaa
open Go.RowKit Go.Shelf
attribute [local go_sem] Oper.semAt_some

theorem shift_ok {l : Ls} (he : errV l = 0) {L : Ns} {key : Nm → Int} (h : Ord key l L) {x : Nm} (hx : x ∈ L) : okN x := num_ok (errV_ok.1 he).2 (h.perm.mem_iff.1 hx)

/-- A row of numbered shifts of its own, new. -/
def NumsPost (v : List Nm → Prop) (w : World) (e : Ending) (w' : World) : Prop :=
  ∃ (A : Option Addr) (n c : Nat) (l : List Nm), e = .returned (.slice A n c) ∧ v l ∧ Own E4 w' w.heap.size 75 A n c l ∧ Below w.heap.size w w'
/-- The rests of the shifts in the order of their ends. -/
def RestsOf (xs : Ls) (l : List Nm) : Prop := ∃ L, Ord kt xs L ∧ l = (rsts L).map restNm

section
variable {W X Y : World} {row : Option Nat} {B : Nat}
theorem gb_refl (W : World) (row : Option Nat) : W.grownBy W row := ⟨rfl, rfl, rfl, Nat.le_refl _, fun _ _ _ => rfl⟩
theorem gb_trans (h : W.grownBy X row) (k : X.grownBy Y row) : W.grownBy Y row :=
  ⟨k.os.trans h.os, k.tape.trans h.tape, k.output.trans h.output, Nat.le_trans h.size k.size, fun i hi hn => (k.block i (Nat.lt_of_lt_of_le hi h.size) hn).trans (h.block i hi hn)⟩
theorem gb_below (h : W.grownBy X row) (k : Below X.heap.size X Y) : W.grownBy Y row := gb_trans h (grown_of_below k (Nat.le_refl _) row)
theorem gb_alloc (h : W.grownBy X row) (o : Obj) : W.grownBy (X.alloc o) row := gb_below h ((Below.refl _ X).alloc (Nat.le_refl _) o)
theorem gb_set (h : W.grownBy X (some B)) (i : Nat) (v : Value) : W.grownBy (X.setCell ⟨B, i, none⟩ v) (some B) :=
  gb_trans h ⟨rfl, rfl, rfl, by simp, fun k hk hn => Below.heap_setCell X ⟨B, i, none⟩ v k (fun e => hn (by rw [e]))⟩
theorem below_gb (h : W.grownBy X (some B)) {b : Nat} (hb : b ≤ B) (hs : b ≤ W.heap.size) : Below b W X := (Below.refl b W).grown h hs (fun k e => by cases e; exact hb)
theorem gb_bk (h : W.grownBy X (some B)) {g : Nat} {t : TypeId} {cs : Array Value} (hb : Bk W g t cs) (hg : g ≠ B) : Bk X g t cs := (h.block g hb.in_ (fun e => hg (by cases e; rfl))).trans hb
end
section
variable {α : Type} {E : Enc α} {P : Program} (w : World) {ops : Array Oper} {rest : List Oper} {o : Oper} {a : Act} {Q : Exit → Act → World → Prop}
/-- out = append(out, x): x lies in a new block of its own; inside a fence. -/
theorem wpListIn_app1 {F : Fence} {N : Nat} (z : Value) (bytes : Nat) (hgd : o.guard = none) (s x : Operand) (t e : TypeId) (ho : o.op = .call { callee := .builtin .append, args := #[s, x], argTypes := #[t, t] })
    (hu : P.underlying t = some (.slice e)) (hinfo : (P.info? e).map (fun i => (i.zero, i.size, i.bytes)) = some (some z, E.size, bytes)) (hz : z.cells.size = E.size) (hE : 0 < E.size) (hby : bytes ≤ 64)
    (B n c : Nat) (A : Option Addr) (l : List α) (y : α) (cs : Array Value) (hcs : cs = (E.enc y).toArray) (hs : a.eval s = .slice A n c) (hx : a.eval x = .slice (some ⟨w.heap.size, 0, none⟩) 1 1)
    (hown : Own E w B e A n c l) (hn : n ≤ 1000000) (hB : B ≤ w.heap.size)
    (h : ∀ A' c' w', Own E w' B e A' (n + 1) c' (l ++ [y]) → Below B w w' → w.grownBy w' (Value.slice A n c).ownBlock → wpListIn F N P ops Q rest (a.put o.dst (.slice A' (n + 1) c')) w') :
    wpListIn F N P ops Q (o :: rest) a (w.alloc (.cells cs e)) := by
  subst hcs
  obtain ⟨i0, hi, hz0, hz1, hz2⟩ := info_parts hinfo
  have hlen := E.len y
  refine wpListIn_append_own (P := P) _ hgd s x t ho B e i0 z E.size bytes hu hi hz0 hz1 hz2 hz hE _ n (E.cells l) hs (World.ownsRow.alloc hown.2 _)
    ⟨w.heap.size, 0, none⟩ 1 1 (E.enc y) hx (by omega) ?_ (E.one y) (by unfold maxLen; omega) ?_ (by simp; omega) ?_
  · intro j u hu
    have hcell : (w.alloc (.cells (E.enc y).toArray e)).cell? ⟨w.heap.size, j, none⟩ = (E.enc y).toArray[j]? := cell_of_row _ _ j _ e (0, 0) (heap_alloc_new w _)
    have hadd : (⟨w.heap.size, 0, none⟩ : Addr).add j = ⟨w.heap.size, j, none⟩ := by unfold Addr.add; split <;> simp_all
    rw [hadd, hcell]
    simpa using hu
  · have : (n + 1) * bytes ≤ (n + 1) * 64 := Nat.mul_le_mul_left _ hby
    omega
  · intro v' w' hown' hg _
    have hown2 : w'.ownsRow B e E.size v' (n + 1) (E.cells (l ++ [y])) := by
      rw [E.cells_app]
      have e1 : E.cells [y] = E.enc y := by simp [Enc.cells]
      rw [e1]
      exact hown'
    have hg2 : w.grownBy w' (Value.slice A n c).ownBlock :=
      ⟨hg.os, hg.tape, hg.output, Nat.le_trans (by simp) hg.size, fun k hk hne => (hg.block k (by simp; omega) hne).trans (Below.heap_alloc w _ k hk)⟩
    have hv : ∃ A' c', v' = .slice A' (n + 1) c' := by
      rcases hown2.2 with ⟨_, hn0⟩ | ⟨g, cap, cur, hv, _⟩
      · omega
      · exact ⟨_, _, hv⟩
    obtain ⟨A', c', rfl⟩ := hv
    have hl := hown.len
    refine h A' c' w' ⟨by simp [hl], hown2⟩ ((Below.refl B w).grown hg2 hB fun k hk => ?_) hg2
    rcases hown.form with ⟨rfl, _⟩ | ⟨g, rfl, hbg, _⟩
    · simp [Value.ownBlock] at hk
    · simp [Value.ownBlock] at hk; omega
end
section
variable {α : Type} {E : Enc α} {w w' : World} {B n c : Nat} {e : TypeId} {A : Option Addr} {l : List α}
theorem own_keeps (h : Own E w B e A n c l) (hg : w.grownBy w' (Value.slice A n c).ownBlock) : KeepsOthers w w' := by
  refine KeepsOthers.of_grownBy hg fun j o hj ho => ?_
  rcases h.2.2 with ⟨hv, _⟩ | ⟨g, cap, cur, hv, hb, hg', _⟩
  · simp at hv
    obtain ⟨rfl, _⟩ := hv
    simp [Value.ownBlock] at hj
  · simp at hv
    obtain ⟨rfl, _⟩ := hv
    simp [Value.ownBlock] at hj
    subst hj
    rw [hg'] at ho
    cases ho
    rfl
theorem own_other (h : Own E w B e A n c l) {p : Nat} (hp : p < B) (i : Nat) (v : Value) : Own E (w.setCell ⟨p, i, none⟩ v) B e A n c l := by
  refine h.kept (row := some p) ⟨rfl, rfl, rfl, by simp, fun k hk hn => Below.heap_setCell w ⟨p, i, none⟩ v k (fun e => hn (by rw [e]))⟩ ?_
  rcases h.form with ⟨rfl, _⟩ | ⟨g, rfl, hb, _⟩
  · left; simp [Value.ownBlock]
  · right
    simp [Value.ownBlock]
    omega
theorem bk_keeps {g : Nat} {t : TypeId} {cs : Array Value} (h : Bk w g t cs) (hg : w.grownBy w' (some g)) : KeepsOthers w w' :=
  KeepsOthers.of_grownBy hg fun j o hj ho => by cases hj; rw [show w.heap[g]? = _ from h] at ho; cases ho; rfl
end
theorem bk4_put2 {W : World} {g : Nat} {t : TypeId} {a b c d v : Value} (h : Bk W g t #[a, b, c, d]) : Bk (W.setCell ⟨g, 2, none⟩ v) g t #[a, b, v, d] := h.put 2 v
theorem bk4 {W : World} {g : Nat} {t : TypeId} {a b c d : Value} (h : Bk W g t #[a, b, c, d]) : W.cell? ⟨g, 0, none⟩ = some a ∧ W.cell? ⟨g, 1, none⟩ = some b ∧ W.cell? ⟨g, 2, none⟩ = some c ∧ W.cell? ⟨g, 3, none⟩ = some d ∧ W.frozen? ⟨g, 2, none⟩ = false :=
  ⟨h.at_ 0, h.at_ 1, h.at_ 2, h.at_ 3, h.fr 2⟩
set_option maxRecDepth 100000 in
set_option maxHeartbeats 2000000 in
theorem rests_any (A : Option Addr) (n c : Nat) (xs : Ls) (w : World) (h : R E3 w A n c xs) (he : errV xs = 0) :
    Calls Try.prog 77 #[.slice A n c] w (NumsPost (RestsOf xs) w) := by
  have hn12 : n ≤ 12 := by have := errV_le he; have := h.length; omega
  have HE := hide he
  clear he
  refine (callsIn_wide (n := 3)).1 ?_
  refine callsIn_of_wp_marks Try.func77 rfl trivial ?_ rfl
  simp only [Try.ntmps77, List.size_toArray, List.length_cons, List.length_nil, Nat.reduceAdd, Nat.reduceSub, Array.replicate_succ, Array.replicate_zero, List.push_toArray, List.append_toArray, List.nil_append, List.cons_append]
  gi_wp2_with (first
    | (refine ⟨trivial, ?_⟩; gi_at_call 66; refine (callsIn_wide.2 (inOrderTo_any _ _ _ xs _ (h.below ((Below.refl _ _).alloc (Nat.le_refl _) _) (Nat.le_refl _)) hn12)).mono ?_; rintro e w2 ⟨g, Bs, c2, L, rfl, o2, hBs, lB, lB2, lg, hord, b2⟩))
  have hRA := o2.rowAt
  have bP : Boxed w2 w.heap.size 84 (.slice none 0 0) := (b2.block w.heap.size (by simp)).trans (Boxed.new w 84 (.slice none 0 0))
  have hB2 : Below w.heap.size w w2 := ((Below.refl _ w).alloc (Nat.le_refl _) _).trans (b2.mono (by simp))
  have hgz : g < w2.heap.size := by omega
  have hp1 : w.heap.size < g := by
    rcases o2.form with ⟨hh, _⟩ | ⟨g', h1, h2, _⟩
    · cases hh
    · injection h1 with h1
      injection h1 with h1
      simp at h2
      omega
  have hlB : w.heap.size < w2.heap.size := by omega
  have HO := hide hord
  have HOK := hide (fun (pre : List (El L)) => rsts_bd (L := pre.map (·.1)) fun s hs => by
    obtain ⟨y, _, rfl⟩ := List.mem_map.1 hs
    exact shift_ok HE.out hord y.2)
  have HOX := hide (fun (x : El L) => shift_ok HE.out hord x.2)
  clear hord b2 lB2 o2
  refine wpIn_rangeFunc_ownH rfl (by omega) (gf := 100) (lb := #[.pointer (some ⟨Bs, 0, none⟩)]) rfl trivial (enters_of Try.func100 (by kernel_rfl) rfl)
    (values_stops Fence.wide 2 trivial rfl (by omega) Bs g n c2 L (by omega) w2 lB hBs hRA) KB.trans (KB.putObj hgz) (Below.refl _ _) (fun _ => rfl)
    (fun pre W => (∃ (Ao : Option Addr) (no co : Nat), Boxed W w.heap.size 84 (.slice Ao no co) ∧ Own E4 W w2.heap.size 75 Ao no co ((rsts (pre.map (·.1))).map restNm)) ∧ (Below w.heap.size w W ∧ w2.heap.size ≤ W.heap.size))
    (fun _ _ _ => False)
    (OwnFrom.and (fun pre X Y row hs hg hr => by obtain ⟨Ao, no, co, h1, h2⟩ := hs; exact ⟨Ao, no, co, boxed_own w.heap.size 84 (fun (_ : Unit) => Value.slice Ao no co) () X Y row h1 hg (fun r e => (hr r e).2), ownRow_own E4 w2.heap.size 75 (fun (_ : Unit) => Ao) (fun _ => no) (fun _ => co) (fun _ => (rsts (pre.map (·.1))).map restNm) () X Y row h2 hg (fun r e => (hr r e).2)⟩) (OwnFrom.and (ownFrom_below (Nat.le_refl _) (by omega)) (fun _ _ _ _ hs hg _ => Nat.le_trans hs hg.size)))
    (fun _ _ _ _ _ hs _ _ => hs)
    ⟨⟨none, 0, 0, bP, Own.nil E4 _ _ _⟩, hB2, Nat.le_refl _⟩
    (fun x a' W => ∃ Bx, w2.heap.size ≤ Bx ∧ Bk W Bx 75 #[.int .i64 x.1.1, .int .i64 x.1.2.1, .int .i64 x.1.2.2.1, .int .i64 x.1.2.2.2] ∧ (∃ (Ao : Option Addr) (no co : Nat), Boxed W w.heap.size 84 (.slice Ao no co) ∧ (Value.slice Ao no co).ownBlock ≠ some Bx) ∧ a' = { tmps := #[.slice A n c, undef, .slice none 0 0, .pointer (some ⟨w.heap.size, 0, none⟩), .pointer (some ⟨Bx, 0, none⟩), undef, undef, .slice A n c, .func (.func 100) #[] #[.pointer (some ⟨Bs, 0, none⟩)], nmV x.1.1 x.1.2.1 x.1.2.2.1 x.1.2.2.2, undef, undef, undef, undef, undef, undef, undef, undef, undef, undef, undef, undef, undef, undef, undef, undef, undef, undef, undef, undef, undef, undef, undef, undef, undef, undef, undef, undef, undef, undef], defers := [] })
    (fun x a' _ X Y row hs hg hr => by obtain ⟨Bx, h1, h2, ⟨Ao, no, co, h4, h5⟩, h3⟩ := hs; exact ⟨Bx, h1, bk_own Bx 75 (fun (_ : Unit) => #[.int .i64 x.1.1, .int .i64 x.1.2.1, .int .i64 x.1.2.2.1, .int .i64 x.1.2.2.2]) () X Y row h2 hg (fun r e => (hr r e).2), ⟨Ao, no, co, boxed_own w.heap.size 84 (fun (_ : Unit) => Value.slice Ao no co) () X Y row h4 hg (fun r e => (hr r e).2), h5⟩, h3⟩)
    ?assign ?body ?done ?stop
  case assign =>
    rintro l pre x W K ⟨⟨Ao, no, co, bP1, hO1⟩, hB1, hs1⟩ hK
    dsimp only [nmE]
    gi_wp2
    refine hK _ _ ((KeepsOthers.alloc _ _).from _) ((KB.refl g W).alloc (by omega) _) ⟨⟨Ao, no, co, bP1.alloc _, hO1.alloc _⟩, hB1.alloc hB1.size _, by simp; omega⟩ ⟨W.heap.size, hs1, Bk.born W _ _, ⟨Ao, no, co, bP1.alloc _, ?_⟩, rfl⟩
    rcases hO1.form with ⟨rfl, rfl, rfl, _⟩ | ⟨go, rfl, _, hlt, _⟩
    · simp [Value.ownBlock]
    · simp [Value.ownBlock]; omega
  case body =>
    rintro l pre x a' W hl ⟨r, hr⟩ ⟨⟨Ao, no, co, bP1, hO1⟩, hB1, hs1⟩ ⟨Bx, hBx, bX, ⟨Ao', no', co', bP2, hne⟩, rfl⟩ hlt
    obtain ⟨rfl, rfl, rfl⟩ : Ao' = Ao ∧ no' = no ∧ co' = co := by
      have e := bP1.symm.trans bP2
      simp at e
      exact ⟨e.1.symm, e.2.1.symm, e.2.2.symm⟩
    clear bP2 hr
    have cP := bP1.cell
    have fP := bP1.frozen
    have HP := hide bP1
    have HOW := hide hO1
    have HB1 := hide hB1
    obtain ⟨hbd, hrl⟩ := HOK.out pre
    have hxok := HOX.out x
    have hrl2 : (rsts (pre.map (·.1))).length ≤ 12 := by rw [List.length_map] at hrl; omega
    have hno : (rsts (pre.map (·.1))).length = no' := by have := hO1.len; rw [List.length_map] at this; exact this
    have HNO := hide hno
    have hno2 : no' ≤ 11 := by rw [List.length_map] at hrl; omega
    have HBD := hide (fun b hb => And.intro (hbd b hb).1 (hbd b hb).2.1)
    have HYE := hide (fun v => rests_yes (L := pre.map (·.1)) (s := x.1) (v := v))
    have HNE := hide (fun v => rests_no (L := pre.map (·.1)) (s := x.1) (v := v))
    have HTB := hide (fun k => ovTo_bd HBD.out x.1 k hrl2)
    have HSY := hide (fun k => @ovTo_yes (rsts (pre.map (·.1))) x.1 k)
    have HSN := hide (fun k => @ovTo_no (rsts (pre.map (·.1))) x.1 k)
    have HAL := hide (ovTo_all (rsts (pre.map (·.1))) x.1 (k := no') (by omega))
    have HZ := hide (ovTo_zero (rsts (pre.map (·.1))) x.1)
    have HMP := hide (show (pre ++ [x]).map (·.1) = pre.map (·.1) ++ [x.1] by simp)
    clear bP1 hO1 hB1 hbd hrl hrl2 hno HBD
    have hx1 : 0 ≤ x.1.2.2.1 ∧ x.1.2.2.1 ≤ 99 := by unfold okN at hxok; omega
    clear hxok
    generalize rsts (pre.map (·.1)) = Rr at *
    obtain ⟨⟨x1, x2, x3, x4⟩, hxm⟩ := x
    dsimp only at *
    have HX := hide bX
    clear bX
    have hnb := hne
    gi_wp2
    gi_loopw [12] (fun i wr => ∃ k : Nat, k ≤ no' ∧ i = .int .i64 k ∧ Hid (Bk wr Bx 75 #[.int .i64 x1, .int .i64 x2, .int .i64 (x3 - ovTo Rr (x1, x2, x3, x4) k), .int .i64 x4]) ∧ Hid (W.grownBy wr (some Bx))) (fun i _ => no' - (intOf i).toNat)
    case atStart => exact ⟨0, Nat.zero_le _, rfl, hide (by rw [HZ.out, Int.sub_zero]; exact HX.out), hide (gb_refl W _)⟩
    case round =>
      obtain ⟨k, hk, rfl, HK, HG⟩ := hrel
      by_cases hlk : k < no'
      · obtain ⟨go, rfl, hgo1, hgo2, hgo3, hgo4⟩ := HOW.out.addr (by omega)
        have hOr := HOW.out.kept HG.out (.inr hnb)
        obtain ⟨a1, a2, a3, a4⟩ := own4 hOr hlk
        have hgs := HG.out.size
        obtain ⟨k1, k2, k4, k6, _⟩ := bk4 HK.out
        have hBxr := HK.out.in_
        have hgor : go < wr.heap.size := by omega
        have hgomax : co' ≤ 9223372036854775807 := hgo4
        clear hgo4 hOr
        have HS1 := hide (HSY.out k (by rw [HNO.out]; exact hlk))
        have HS2 := hide (HSN.out k (by rw [HNO.out]; exact hlk))
        have hT1 := HTB.out k
        have hT2 := HTB.out (k + 1)
        have hyy : ∃ y, gt (Rr.map restNm) k = y := ⟨_, rfl⟩
        obtain ⟨y, hyy⟩ := hyy
        rw [hyy] at a1 a2 a3 a4
        have HYY := hide hyy
        clear hyy
        obtain ⟨y1, y2, y3, y4⟩ := y
        dsimp only [shOf] at *
        generalize ovTo Rr (x1, x2, x3, x4) k = T at *
        have hT' : ∃ T', ovTo Rr (x1, x2, x3, x4) (k + 1) = T' := ⟨_, rfl⟩
        obtain ⟨T', hT'⟩ := hT'
        rw [hT'] at hT2 HS1 HS2
        have HT' := hide hT'
        clear hT'
        have hovd : ∀ P : Int, ovB (y1, y2, y3) (x1, x2, P) = ovB (y1, y2, y3) (x1, x2, x3) := fun _ => rfl
        have HOV := hide (hovd (x3 - T))
        clear hovd
        cases hov : ovB (y1, y2, y3) (x1, x2, x3) with
        | true =>
          have hTT := HS1.out _ _ _ _ HYY.out hov
          rw [hov] at HOV
          clear hov
          have hy3 : -1188 ≤ y3 ∧ y3 ≤ 1188 := by omega
          have hsum : -3000 ≤ x3 - T - y3 ∧ x3 - T - y3 ≤ 3000 := by omega
          have HTT := hide hTT
          clear hTT HS1 HS2
          gi_wp2_with (refine ⟨trivial, ?_⟩; gi_at_call 59; refine (CallsIn.inRound l (callsIn_wide.2 (overlap_any _ _ _ _ _ _ _))).mono ?_; rintro e w3 ⟨rfl, b3⟩; rw [HOV.out]; have hs3 : wr.heap.size < w3.heap.size := (by (have := b3.size; simp at this; omega)); have HG3 := hide (gb_below (gb_alloc HG.out (.cells #[.int .i64 y1, .int .i64 y2, .int .i64 y3, .int .i64 y4] 75)) b3); have HK3 := hide ((HK.out.more (.cells #[.int .i64 y1, .int .i64 y2, .int .i64 y3, .int .i64 y4] 75)).keep b3 (by simp; omega)); obtain ⟨_, _, k3, _, k5⟩ := bk4 HK3.out; obtain ⟨_, _, j3, _, _⟩ := bk4 ((Bk.born wr 75 #[.int .i64 y1, .int .i64 y2, .int .i64 y3, .int .i64 y4]).keep b3 (by simp)); clear b3 a1 a2 a3 a4 k1 k2 k4 k6)
          go_roundw
          case rel => exact ⟨k + 1, by omega, by go_num, hide (by rw [HT'.out, show x3 - T' = x3 - T - y3 by have := HTT.out; omega]; exact bk4_put2 HK3.out), hide (gb_set HG3.out _ _)⟩
          case measure => simp [intOf]; omega
        | false =>
          have hTT := HS2.out _ _ _ _ HYY.out hov
          rw [hov] at HOV
          clear hov
          have HTT := hide hTT
          clear hTT HS1 HS2
          gi_wp2_with (refine ⟨trivial, ?_⟩; gi_at_call 59; refine (CallsIn.inRound l (callsIn_wide.2 (overlap_any _ _ _ _ _ _ _))).mono ?_; rintro e w3 ⟨rfl, b3⟩; rw [HOV.out]; have hs3 : wr.heap.size < w3.heap.size := (by (have := b3.size; simp at this; omega)); have HG3 := hide (gb_below (gb_alloc HG.out (.cells #[.int .i64 y1, .int .i64 y2, .int .i64 y3, .int .i64 y4] 75)) b3); have HK3 := hide ((HK.out.more (.cells #[.int .i64 y1, .int .i64 y2, .int .i64 y3, .int .i64 y4] 75)).keep b3 (by simp; omega)); obtain ⟨_, _, k3, _, k5⟩ := bk4 HK3.out; obtain ⟨_, _, j3, _, _⟩ := bk4 ((Bk.born wr 75 #[.int .i64 y1, .int .i64 y2, .int .i64 y3, .int .i64 y4]).keep b3 (by simp)); clear b3 a1 a2 a3 a4 k1 k2 k4 k6)
          go_roundw
          case rel => exact ⟨k + 1, by omega, by go_num, hide (by rw [HT'.out, show x3 - T' = x3 - T by have := HTT.out; omega]; exact HK3.out), HG3⟩
          case measure => simp [intOf]; omega
      · obtain rfl : k = no' := by omega
        have hT1 := HTB.out k
        rw [HAL.out] at HK hT1
        generalize hov : overSum Rr (x1, x2, x3, x4) = T at *
        clear hov HSY HSN HTB HAL HZ
        obtain ⟨k1, k2, k4, k6, _⟩ := bk4 HK.out
        have hBW : Below w2.heap.size W wr := below_gb HG.out hBx hs1
        have hPr : Boxed wr w.heap.size 84 (.slice Ao' k co') := (hBW.block _ hlB).trans HP.out
        have cPr := hPr.cell
        have fPr := hPr.frozen
        have HOr := hide (HOW.out.kept HG.out (.inr hnb))
        have HPr := hide hPr
        have HBW := hide hBW
        have hszr := HG.out.size
        have hszr2 : w2.heap.size ≤ wr.heap.size := by omega
        have HKG := hide (bk_keeps HX.out HG.out)
        clear hPr hBW cP fP
        by_cases hv : 0 < x3 - T
        · have HR1 := hide (HYE.out _ rfl hv)
          gi_wp2_with (gi_at_builtin; refine wpListIn_app1 (E := E4) _ (.agg #[.int .i64 0, .int .i64 0, .int .i64 0, .int .i64 0]) 32 rfl (.tmp 35) (.tmp 37) 84 75 rfl Try.underlying84 info_num rfl (by decide) (by omega) _ _ _ _ _ ((x1, x2, x3 - T, x4)) _ rfl rfl rfl HOr.out (by omega) hszr2 ?_; intro A5 c5 w5 o5 b5 g5; have hP5 : Boxed w5 w.heap.size 84 (.slice Ao' k co') := (b5.block _ hlB).trans HPr.out; have cP5 := hP5.cell; have fP5 := hP5.frozen; have HP5 := hide hP5; have HO5 := hide o5; have HB5 := hide b5; have HKO := hide (own_keeps HOr.out g5); clear hP5 o5 b5 g5)
          refine ⟨((HKG.out.trans HKO.out).trans (KeepsOthers.setCell _ _ _)).from _, ((KB.of_below HBW.out hgz).trans (KB.of_below HB5.out hgz)).setCell (by simp; omega) _, ⟨A5, k + 1, c5, HP5.out.set _, ?_⟩, ?_, ?_⟩
          · rw [HMP.out, HR1.out]; exact own_other HO5.out hlB _ _
          · exact (HB1.out.trans ((HBW.out.trans HB5.out).mono (by omega))).setCell (p := ⟨w.heap.size, 0, none⟩) (Nat.le_refl _) _
          · have := HB5.out.size; simp; omega
        · have HR1 := hide (HNE.out _ rfl (by omega))
          gi_wp2
          refine ⟨HKG.out.from _, KB.of_below HBW.out hgz, ⟨Ao', k, co', HPr.out, ?_⟩, ?_, ?_⟩
          · rw [HMP.out, HR1.out]; exact HOr.out
          · exact HB1.out.trans (HBW.out.mono (by omega))
          · omega
  case done =>
    rintro D ys W hD rfl ⟨⟨Ao, no, co, bP1, hO1⟩, hB1, hs1⟩ hK
    have cP := bP1.cell
    have HB1 := hide hB1
    have HO1 := hide (show Own E4 W w2.heap.size 75 Ao no co ((rsts L).map restNm) by rw [List.attach_map_subtype_val] at hO1; exact hO1)
    clear bP1 hB1 hO1
    gi_wp2
    have hb0 := belowK_b (w := w) (Nat.le_refl _) W D (.deferred (some [])) (.deferred none) (by omega) hK rfl rfl
    refine ⟨by simp, .inl ⟨_, _, rfl, run_takeDeferred hK, ?_⟩⟩
    refine ⟨.slice Ao no co, by simp [results, Try.f77, go_sem], Ao, no, co, _, rfl, ⟨L, HO.out, rfl⟩, ?_, HB1.out.trans hb0⟩
    have := ownRow_own E4 w2.heap.size 75 (fun (_ : Unit) => Ao) (fun _ => no) (fun _ => co) (fun _ => (rsts L).map restNm) () W _ (some D) HO1.out (grownBy_putObj' W D (.deferred none)) (fun r e => by cases e; exact ⟨_, hK, rfl⟩)
    exact this.more (by omega)
  case stop =>
    rintro D c' pre W _ _ h _
    exact h.elim
end Go.Proofs.Ytpkjgnllkaafkaa
