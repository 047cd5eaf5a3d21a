/- The spells of the program: by the beginnings. -/
import Derived.Test.YtpkjgnllkaafkaaRnd
namespace Go.Proofs.Ytpkjgnllkaafkaa
open Go.RowKit Go.Shelf
attribute [local go_sem] Oper.semAt_some

def SpsPost (xs : Ls) (w : World) (e : Ending) (w' : World) : Prop :=
  ∃ (A : Option Addr) (n c : Nat) (P : Ls), e = .returned (.slice A n c) ∧ SpellsOf xs P ∧ Own E3 w' w.heap.size 57 A n c P ∧ Below w.heap.size w w'
theorem Own.capped {w : World} {B n c g : Nat} {e : TypeId} {Q : Ls} {t : Sh} {v : Int} (h : Own E3 w B e (some ⟨g, 0, none⟩) n c (Q ++ [t])) :
    Own E3 (w.setCell ⟨g, Q.length * 3 + 1, none⟩ (.int .i64 v)) B e (some ⟨g, 0, none⟩) n c (Q ++ [(t.1, v, t.2.2)]) := by
  have hl := h.len
  rw [List.length_append] at hl
  have h1 := h.stored (k := Q.length) (j := 1) (by simp at hl; omega) (by decide) (.int .i64 v) (t.1, v, t.2.2) (by
    have e : (Q ++ [t]).getD Q.length E3.d = t := get_last
    rw [e]; rfl)
  rw [set_last] at h1
  exact h1
theorem below_undrewN {B k : Nat} {W W' : World} (h : Below B (W.drewN k) W') : Below B W W' := ⟨h.os, h.tape, h.output, h.size, h.block⟩
section
variable {α : Type} {E : Enc α} {W W0 : World} {B n c go : Nat} {e : TypeId} {l : List α}
theorem st_keeps (h : Own E W B e (some ⟨go, 0, none⟩) n c l) (k i : Nat) (v : Value) : KeepsOthers W ((W.drewN k).setCell ⟨go, i, none⟩ v) := own_keeps h (gb_set (gb_drewN (gb_refl W (some go)) k) i v)
theorem st_kb {g : Nat} (hg : g ≠ go) (k i : Nat) (v : Value) : KB g W ((W.drewN k).setCell ⟨go, i, none⟩ v) := (show KB g W (W.drewN k) from KB.refl g W).setCell hg _
theorem st_boxed {p : Nat} {t : TypeId} {x : Value} (h : Boxed W p t x) (hp : p ≠ go) (k i : Nat) (v : Value) : Boxed ((W.drewN k).setCell ⟨go, i, none⟩ v) p t x := (Below.heap_setCell (W.drewN k) ⟨go, i, none⟩ v p hp).trans h
theorem st_below {b : Nat} (h : Below b W0 W) (hb : b ≤ go) (k i : Nat) (v : Value) : Below b W0 ((W.drewN k).setCell ⟨go, i, none⟩ v) := (below_drewN h k).setCell (p := ⟨go, i, none⟩) hb _
theorem st_size {b : Nat} (h : b ≤ W.heap.size) (k i : Nat) (v : Value) : b ≤ ((W.drewN k).setCell ⟨go, i, none⟩ v).heap.size := by simp; omega
end
theorem sp_first (L : Ns) (s : Nm) (h : spR L = []) : (spR (L ++ [s])).reverse = [] ++ [(s.1, s.2.1, 0)] := by rw [spR_snoc, h]; rfl
theorem sp_more {L : Ns} {s : Nm} {t : Sh} {R : Ls} (h : spR L = t :: R) (hc : ¬ s.1 ≤ t.2.1) : (spR (L ++ [s])).reverse = (R.reverse ++ [t]) ++ [(s.1, s.2.1, 0)] := by
  rw [spR_snoc, h]
  have e : spF (t :: R) s = (s.1, s.2.1, 0) :: t :: R := if_neg hc
  rw [e, List.reverse_cons, List.reverse_cons]
theorem sp_cap {L : Ns} {s : Nm} {t : Sh} {R : Ls} (h : spR L = t :: R) (hc : s.1 ≤ t.2.1) : (spR (L ++ [s])).reverse = R.reverse ++ [(t.1, max t.2.1 s.2.1, t.2.2)] := by
  rw [spR_snoc, h]
  have e : spF (t :: R) s = (t.1, max t.2.1 s.2.1, t.2.2) :: R := if_pos hc
  rw [e, List.reverse_cons]
theorem spR_len : ∀ (L : Ns), (spR L).length ≤ L.length := by
  have key : ∀ (L : Ns) (R : Ls), (L.foldl spF R).length ≤ L.length + R.length := by
    intro L
    induction L with
    | nil => intro R; simp
    | cons s L ih =>
      intro R
      have h1 := ih (spF R s)
      have h2 : (spF R s).length ≤ R.length + 1 := by
        cases R with
        | nil => simp [spF]
        | cons t R =>
          by_cases hc : s.1 ≤ t.2.1
          · have e : spF (t :: R) s = (t.1, max t.2.1 s.2.1, t.2.2) :: R := if_pos hc
            rw [e]; simp
          · have e : spF (t :: R) s = (s.1, s.2.1, 0) :: t :: R := if_neg hc
            rw [e]; simp
      simp only [List.foldl_cons, List.length_cons] at h1 ⊢
      omega
  intro L
  have := key L []
  simpa [spR] using this

set_option maxRecDepth 100000 in
set_option maxHeartbeats 1000000 in
theorem spells_any (A : Option Addr) (n c : Nat) (xs : Ls) (w : World) (h : R E3 w A n c xs) (he : errV xs = 0) :
    Calls Try.prog 85 #[.slice A n c] w (SpsPost xs w) := by
  have hn12 : n ≤ 12 := by have := errV_le he; have := h.length; omega
  have HE := hide he
  clear he
  refine (callsIn_wide (n := 3)).1 ?_
  refine callsIn_of_wp_marks Try.func85 rfl trivial ?_ rfl
  simp only [Try.ntmps85, List.size_toArray, List.length_cons, List.length_nil, Nat.reduceAdd, Nat.reduceSub, Array.replicate_succ, Array.replicate_zero, List.push_toArray, List.append_toArray, List.nil_append, List.cons_append]
  gi_wp2_with (first
    | (refine ⟨trivial, ?_⟩; gi_at_call 66; refine (callsIn_wide.2 (inOrderFrom_any _ _ _ xs _ (h.below ((Below.refl _ _).alloc (Nat.le_refl _) _) (Nat.le_refl _)) hn12)).mono ?_; rintro e w2 ⟨g, Bs, c2, L, rfl, o2, hBs, lB, lB2, lg, hord, b2⟩))
  have hRA := o2.rowAt
  have bP : Boxed w2 w.heap.size 22 (.slice none 0 0) := (b2.block w.heap.size (by simp)).trans (Boxed.new w 22 (.slice none 0 0))
  have hB2 : Below w.heap.size w w2 := ((Below.refl _ w).alloc (Nat.le_refl _) _).trans (b2.mono (by simp))
  have hgz : g < w2.heap.size := by omega
  have hp1 : w.heap.size < g := by
    rcases o2.form with ⟨hh, _⟩ | ⟨g', h1, h2, _⟩
    · cases hh
    · injection h1 with h1
      injection h1 with h1
      simp at h2
      omega
  have hlB : w.heap.size < w2.heap.size := by omega
  have HO := hide hord
  have HOX := hide (fun (x : El L) => shift_ok HE.out hord x.2)
  have HLN := hide (show L.length ≤ 12 by have h1 := hord.len; have h2 := errV_le HE.out; omega)
  clear hord b2 lB2 o2
  refine wpIn_rangeFunc_ownH rfl (by omega) (gf := 100) (lb := #[.pointer (some ⟨Bs, 0, none⟩)]) rfl trivial (enters_of Try.func100 (by kernel_rfl) rfl)
    (values_stops Fence.wide 2 trivial rfl (by omega) Bs g n c2 L (by omega) w2 lB hBs hRA) KB.trans (KB.putObj hgz) (Below.refl _ _) (fun _ => rfl)
    (fun pre W => (∃ (Ao : Option Addr) (no co : Nat), Boxed W w.heap.size 22 (.slice Ao no co) ∧ Own E3 W w2.heap.size 57 Ao no co (spR (pre.map (·.1))).reverse) ∧ (Below w.heap.size w W ∧ w2.heap.size ≤ W.heap.size))
    (fun _ _ _ => False)
    (OwnFrom.and (fun pre X Y row hs hg hr => by obtain ⟨Ao, no, co, h1, h2⟩ := hs; exact ⟨Ao, no, co, boxed_own w.heap.size 22 (fun (_ : Unit) => Value.slice Ao no co) () X Y row h1 hg (fun r e => (hr r e).2), ownRow_own E3 w2.heap.size 57 (fun (_ : Unit) => Ao) (fun _ => no) (fun _ => co) (fun _ => (spR (pre.map (·.1))).reverse) () X Y row h2 hg (fun r e => (hr r e).2)⟩) (OwnFrom.and (ownFrom_below (Nat.le_refl _) (by omega)) (fun _ _ _ _ hs hg _ => Nat.le_trans hs hg.size)))
    (fun _ _ _ _ _ hs _ _ => hs)
    ⟨⟨none, 0, 0, bP, Own.nil E3 _ _ _⟩, hB2, Nat.le_refl _⟩
    (fun x a' W => ∃ Bx, w2.heap.size ≤ Bx ∧ Bk W Bx 75 #[.int .i64 x.1.1, .int .i64 x.1.2.1, .int .i64 x.1.2.2.1, .int .i64 x.1.2.2.2] ∧ a' = { tmps := #[.slice A n c, undef, .slice none 0 0, .pointer (some ⟨w.heap.size, 0, none⟩), .pointer (some ⟨Bx, 0, none⟩), undef, .slice A n c, .func (.func 100) #[] #[.pointer (some ⟨Bs, 0, none⟩)], nmV x.1.1 x.1.2.1 x.1.2.2.1 x.1.2.2.2, undef, undef, undef, undef, undef, undef, undef, undef, undef, undef, undef, undef, undef, undef, undef, undef, undef, undef, undef, undef, undef, undef, undef, undef, undef, undef, undef, undef, undef, undef, undef, undef, undef, undef, undef, undef, undef, undef, undef, undef], defers := [] })
    (fun x a' _ X Y row hs hg hr => by obtain ⟨Bx, h1, h2, h3⟩ := hs; exact ⟨Bx, h1, bk_own Bx 75 (fun (_ : Unit) => #[.int .i64 x.1.1, .int .i64 x.1.2.1, .int .i64 x.1.2.2.1, .int .i64 x.1.2.2.2]) () X Y row h2 hg (fun r e => (hr r e).2), h3⟩)
    ?assign ?body ?done ?stop
  case assign =>
    rintro l pre x W K ⟨⟨Ao, no, co, bP1, hO1⟩, hB1, hs1⟩ hK
    dsimp only [nmE]
    gi_wp2
    exact hK _ _ ((KeepsOthers.alloc _ _).from _) ((KB.refl g W).alloc (by omega) _) ⟨⟨Ao, no, co, bP1.alloc _, hO1.alloc _⟩, hB1.alloc hB1.size _, by simp; omega⟩ ⟨W.heap.size, hs1, Bk.born W _ _, rfl⟩
  case body =>
    rintro l pre x a' W hl ⟨r, hr⟩ ⟨⟨Ao, no, co, bP1, hO1⟩, hB1, hs1⟩ ⟨Bx, hBx, bX, rfl⟩ hlt
    clear hr
    have cP := bP1.cell
    have fP := bP1.frozen
    have HP := hide bP1
    have HOW := hide hO1
    have HB1 := hide hB1
    have hxok := HOX.out x
    have hno : no ≤ 12 := by
      have h1 := hO1.len
      have h2 := spR_len (pre.map (·.1))
      rw [List.length_reverse] at h1
      rw [List.length_map] at h2
      omega
    have HMP := hide (show (pre ++ [x]).map (·.1) = pre.map (·.1) ++ [x.1] by simp)
    obtain ⟨k1, k2, k3, k4, _⟩ := bk4 bX
    have HX := hide bX
    clear bP1 hO1 hB1 bX
    have hxb : 0 ≤ x.1.1 ∧ x.1.1 ≤ 1000 := by unfold okN at hxok; omega
    have hxb2 : 0 ≤ x.1.2.1 ∧ x.1.2.1 ≤ 1000 := by unfold okN at hxok; omega
    have HF := hide (fun hh => sp_first (pre.map (·.1)) x.1 hh)
    have HM := hide (fun (t : Sh) (R : Ls) hh hc => @sp_more (pre.map (·.1)) x.1 t R hh hc)
    have HC := hide (fun (t : Sh) (R : Ls) hh hc => @sp_cap (pre.map (·.1)) x.1 t R hh hc)
    clear hxok
    have hpw : w.heap.size < W.heap.size := by omega
    have hsW : w2.heap.size ≤ (W.drewN 0).heap.size := hs1
    generalize hR : spR (pre.map (·.1)) = R0 at *
    generalize pre.map (·.1) = pre' at *
    clear hR
    obtain ⟨⟨x1, x2, x3, x4⟩, hxm⟩ := x
    dsimp only at *
    have hBxW : Bx < W.heap.size := HX.out.in_
    cases R0 with
    | nil =>
      have HR1 := hide (HF.out rfl)
      have hn0 : no = 0 := by have := HOW.out.len; simpa using this.symm
      subst hn0
      clear HF HM HC
      gi_wp2
      refine region_quiet_round (by kernel_rfl) (by kernel_rfl) (by kernel_rfl) ?_
      (refine qw_step (fun K hK => ?_); go_simp; refine hK _ ?_; clear hK K)
      (refine qw_step (fun K hK => ?_); go_simp; refine hK _ ?_; clear hK K)
      (refine qw_step (fun K hK => ?_); go_simp; refine hK _ ?_; clear hK K)
      refine qw_skip (by kernel_rfl) ?_
      refine qw_skip (by kernel_rfl) ?_
      refine qw_skip (by kernel_rfl) ?_
      refine qw_skip (by kernel_rfl) ?_
      refine qw_skip (by kernel_rfl) ?_
      refine qw_skip (by kernel_rfl) ?_
      refine qw_skip (by kernel_rfl) ?_
      refine qw_skip (by kernel_rfl) ?_
      refine qw_skip (by kernel_rfl) ?_
      (refine qw_step (fun K hK => ?_); go_simp; refine hK _ ?_; clear hK K)
      refine qw_nil ?_
      intro _ hw'
      obtain ⟨nq, hw''⟩ := hw'
      subst hw''
      gi_wp2_with (gi_at_builtin; refine wpListIn_app1 (E := E3) _ (.agg #[.int .i64 0, .int .i64 0, .int .i64 0]) 24 rfl (.tmp 38) (.tmp 46) 22 57 rfl Try.underlying22 info_shift rfl (by decide) (by omega) w2.heap.size _ _ _ _ ((x1, x2, 0) : Sh) _ rfl rfl rfl (HOW.out.drewN nq) (by omega) hsW ?_; intro A5 c5 w5 o5 b5 g5; have hP5 : Boxed w5 w.heap.size 22 (.slice Ao 0 co) := (b5.block _ hlB).trans HP.out; have cP5 := hP5.cell; have fP5 := hP5.frozen; have HP5 := hide hP5; have HO5 := hide o5; have HB5 := hide (below_undrewN b5); have HKO := hide (own_keeps (w' := w5) HOW.out ⟨g5.os, g5.tape, g5.output, g5.size, g5.block⟩); clear hP5 o5 b5 g5)
      refine ⟨(HKO.out.trans (KeepsOthers.setCell _ _ _)).from _, (KB.of_below HB5.out hgz).setCell (by simp; omega) _, ⟨A5, 1, c5, HP5.out.set _, ?_⟩, ?_, ?_⟩
      · rw [HMP.out, HR1.out]; exact own_other HO5.out hlB _ _
      · exact (HB1.out.trans (HB5.out.mono (by omega))).setCell (p := ⟨w.heap.size, 0, none⟩) (Nat.le_refl _) _
      · have := HB5.out.size; simp at this ⊢; omega
    | cons t R =>
      have hlen := HOW.out.len
      rw [List.reverse_cons, List.length_append, List.length_reverse] at hlen
      simp only [List.length_cons, List.length_nil] at hlen
      obtain ⟨u, hu⟩ : ∃ u, u = R.reverse.length := ⟨_, rfl⟩
      have hu' : u = R.length := by rw [hu, List.length_reverse]
      have hnu : no = u + 1 := by omega
      subst hnu
      have HCA := hide (fun (V : World) (hh : Own E3 V w2.heap.size 57 Ao (u + 1) co (R.reverse ++ [t])) => hh)
      rw [List.reverse_cons] at HOW
      obtain ⟨go, rfl, hgo1, hgo2, hgo3, hgo4⟩ := HOW.out.addr (by omega)
      have hgo4' : co ≤ 9223372036854775807 := hgo4
      obtain ⟨d1, d2, d3⟩ := own3 HOW.out (k := u) (by omega)
      have hgt : (R.reverse ++ [t]).getD u sh0 = t := by rw [hu]; exact get_last
      rw [hgt] at d1 d2 d3
      have f3 := HOW.out.frozen (u * 3 + 1)
      have HEN := hide (fun V (hh : Own E3 V w2.heap.size 57 (some ⟨go, 0, none⟩) (u + 1) co (R.reverse ++ [t])) (v : Int) => hh.capped (v := v))
      rw [← hu] at HEN
      clear hlen hu hu' hgt hgo4 HCA
      have hw1 : ((u + 1 : Nat) : Int) - 1 = (u : Int) := by omega
      have hu0 : (0 : Int) ≤ (u : Int) := by omega
      have hu1 : (u : Int) < (u : Int) + 1 := by omega
      by_cases hc : x1 ≤ t.2.1
      · have HR1 := hide (HC.out t R rfl hc)
        clear HF HM HC
        obtain ⟨t1, t2, t3⟩ := t
        dsimp only at *
        gi_wp2
        refine region_quiet_round (by kernel_rfl) (by kernel_rfl) (by kernel_rfl) ?_
        (refine qw_step (fun K hK => ?_); go_simp; refine hK _ ?_; clear hK K)
        (refine qw_step (fun K hK => ?_); go_simp; refine hK _ ?_; clear hK K)
        (refine qw_step (fun K hK => ?_); go_simp; refine hK _ ?_; clear hK K)
        (refine qw_take (by kernel_rfl) (fun K hK => ?_); go_simp; refine hK _ ?_; clear hK K)
        (refine qw_take (by kernel_rfl) (fun K hK => ?_); go_simp; refine hK _ ?_; clear hK K)
        (refine qw_take (by kernel_rfl) (fun K hK => ?_); go_simp; refine hK _ ?_; clear hK K)
        (refine qw_take (by kernel_rfl) (fun K hK => ?_); go_simp; refine hK _ ?_; clear hK K)
        (refine qw_take (by kernel_rfl) (fun K hK => ?_); go_simp; refine hK _ ?_; clear hK K)
        (refine qw_take (by kernel_rfl) (fun K hK => ?_); go_simp; refine hK _ ?_; clear hK K)
        (refine qw_take (by kernel_rfl) (fun K hK => ?_); go_simp; refine hK _ ?_; clear hK K)
        (refine qw_take (by kernel_rfl) (fun K hK => ?_); go_simp; refine hK _ ?_; clear hK K)
        (refine qw_take (by kernel_rfl) (fun K hK => ?_); go_simp; refine hK _ ?_; clear hK K)
        (refine qw_step (fun K hK => ?_); go_simp; refine hK _ ?_; clear hK K)
        refine qw_nil ?_
        intro _ hw'
        obtain ⟨nq, hw''⟩ := hw'
        subst hw''
        gi_wp2
        by_cases hm : t2 < x2
        · have HV := hide (show max t2 x2 = x2 by omega)
          refine region_tail_round 13 (by kernel_rfl) (by kernel_rfl) (by kernel_rfl) ?_
          simp only [List.take_succ_cons, List.take_zero, List.drop_succ_cons, List.drop_zero]
          repeat still_step
          try refine wpStill_nil ?_
          go_wp2
          refine ⟨rfl, ?_⟩
          gi_wp2
          exact ⟨(st_keeps HOW.out (nq + 1) (u * 3 + 1) (.int .i64 x2)).from _, st_kb (by omega) (nq + 1) (u * 3 + 1) (.int .i64 x2), ⟨some ⟨go, 0, none⟩, u + 1, co, st_boxed HP.out (by omega) (nq + 1) (u * 3 + 1) (.int .i64 x2), by rw [HMP.out, HR1.out, HV.out]; exact HEN.out _ (HOW.out.drewN (nq + 1)) x2⟩, st_below HB1.out (by omega) (nq + 1) (u * 3 + 1) (.int .i64 x2), st_size hs1 (nq + 1) (u * 3 + 1) (.int .i64 x2)⟩
        · have HV := hide (show max t2 x2 = t2 by omega)
          refine region_tail_round 13 (by kernel_rfl) (by kernel_rfl) (by kernel_rfl) ?_
          simp only [List.take_succ_cons, List.take_zero, List.drop_succ_cons, List.drop_zero]
          repeat still_step
          try refine wpStill_nil ?_
          go_wp2
          refine ⟨rfl, ?_⟩
          gi_wp2
          exact ⟨(st_keeps HOW.out (nq + 1) (u * 3 + 1) (.int .i64 t2)).from _, st_kb (by omega) (nq + 1) (u * 3 + 1) (.int .i64 t2), ⟨some ⟨go, 0, none⟩, u + 1, co, st_boxed HP.out (by omega) (nq + 1) (u * 3 + 1) (.int .i64 t2), by rw [HMP.out, HR1.out, HV.out]; exact HEN.out _ (HOW.out.drewN (nq + 1)) t2⟩, st_below HB1.out (by omega) (nq + 1) (u * 3 + 1) (.int .i64 t2), st_size hs1 (nq + 1) (u * 3 + 1) (.int .i64 t2)⟩
      · have HR1 := hide (HM.out t R rfl hc)
        clear HF HM HC
        obtain ⟨t1, t2, t3⟩ := t
        dsimp only at *
        gi_wp2
        refine region_quiet_round (by kernel_rfl) (by kernel_rfl) (by kernel_rfl) ?_
        (refine qw_step (fun K hK => ?_); go_simp; refine hK _ ?_; clear hK K)
        (refine qw_step (fun K hK => ?_); go_simp; refine hK _ ?_; clear hK K)
        (refine qw_step (fun K hK => ?_); go_simp; refine hK _ ?_; clear hK K)
        (refine qw_take (by kernel_rfl) (fun K hK => ?_); go_simp; refine hK _ ?_; clear hK K)
        (refine qw_take (by kernel_rfl) (fun K hK => ?_); go_simp; refine hK _ ?_; clear hK K)
        (refine qw_take (by kernel_rfl) (fun K hK => ?_); go_simp; refine hK _ ?_; clear hK K)
        (refine qw_take (by kernel_rfl) (fun K hK => ?_); go_simp; refine hK _ ?_; clear hK K)
        (refine qw_take (by kernel_rfl) (fun K hK => ?_); go_simp; refine hK _ ?_; clear hK K)
        (refine qw_take (by kernel_rfl) (fun K hK => ?_); go_simp; refine hK _ ?_; clear hK K)
        (refine qw_take (by kernel_rfl) (fun K hK => ?_); go_simp; refine hK _ ?_; clear hK K)
        (refine qw_take (by kernel_rfl) (fun K hK => ?_); go_simp; refine hK _ ?_; clear hK K)
        (refine qw_take (by kernel_rfl) (fun K hK => ?_); go_simp; refine hK _ ?_; clear hK K)
        (refine qw_step (fun K hK => ?_); go_simp; refine hK _ ?_; clear hK K)
        refine qw_nil ?_
        intro _ hw'
        obtain ⟨nq, hw''⟩ := hw'
        subst hw''
        gi_wp2_with (gi_at_builtin; refine wpListIn_app1 (E := E3) _ (.agg #[.int .i64 0, .int .i64 0, .int .i64 0]) 24 rfl (.tmp 38) (.tmp 46) 22 57 rfl Try.underlying22 info_shift rfl (by decide) (by omega) w2.heap.size _ _ _ _ ((x1, x2, 0) : Sh) _ rfl rfl rfl (HOW.out.drewN nq) (by omega) hsW ?_; intro A5 c5 w5 o5 b5 g5; have hP5 : Boxed w5 w.heap.size 22 (.slice (some ⟨go, 0, none⟩) (u + 1) co) := (b5.block _ hlB).trans HP.out; have cP5 := hP5.cell; have fP5 := hP5.frozen; have HP5 := hide hP5; have HO5 := hide o5; have HB5 := hide (below_undrewN b5); have HKO := hide (own_keeps (w' := w5) HOW.out ⟨g5.os, g5.tape, g5.output, g5.size, g5.block⟩); clear hP5 o5 b5 g5)
        refine ⟨(HKO.out.trans (KeepsOthers.setCell _ _ _)).from _, (KB.of_below HB5.out hgz).setCell (by simp; omega) _, ⟨A5, u + 1 + 1, c5, HP5.out.set _, ?_⟩, ?_, ?_⟩
        · rw [HMP.out, HR1.out]; exact own_other HO5.out hlB _ _
        · exact (HB1.out.trans (HB5.out.mono (by omega))).setCell (p := ⟨w.heap.size, 0, none⟩) (Nat.le_refl _) _
        · have := HB5.out.size; simp at this ⊢; omega
  case done =>
    rintro D ys W hD rfl ⟨⟨Ao, no, co, bP1, hO1⟩, hB1, hs1⟩ hK
    have cP := bP1.cell
    have HB1 := hide hB1
    have HO1 := hide (show Own E3 W w2.heap.size 57 Ao no co (spR L).reverse by rw [List.attach_map_subtype_val] at hO1; exact hO1)
    clear bP1 hB1 hO1
    gi_wp2
    have hb0 := belowK_b (w := w) (Nat.le_refl _) W D (.deferred (some [])) (.deferred none) (by omega) hK rfl rfl
    refine ⟨by simp, .inl ⟨_, _, rfl, run_takeDeferred hK, ?_⟩⟩
    refine ⟨.slice Ao no co, by simp [results, Try.f85, go_sem], Ao, no, co, _, rfl, spells_of (errV_ok.1 HE.out).2 HO.out, ?_, HB1.out.trans hb0⟩
    have := ownRow_own E3 w2.heap.size 57 (fun (_ : Unit) => Ao) (fun _ => no) (fun _ => co) (fun _ => (spR L).reverse) () W _ (some D) HO1.out (grownBy_putObj' W D (.deferred none)) (fun r e => by cases e; exact ⟨_, hK, rfl⟩)
    exact this.more (by omega)
  case stop =>
    rintro D c' pre W _ _ h _
    exact h.elim
end Go.Proofs.Ytpkjgnllkaafkaa
