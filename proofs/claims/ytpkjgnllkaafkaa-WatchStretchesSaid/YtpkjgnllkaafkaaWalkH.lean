/- The peak: the program's, by the beginnings in order. -/
import Derived.Test.YtpkjgnllkaafkaaWalkG
namespace Go.Proofs.Ytpkjgnllkaafkaa
open Go.RowKit Go.Shelf
attribute [local go_sem] Oper.semAt_some

theorem bk_own {β : Type} (B : Nat) (t : TypeId) (f : β → Array Value) : Go.Own (fun s W => Bk W B t (f s)) := fun s X Y row hs hg hrow => by
  have h' : X.heap[B]? = some (.cells (f s) t (0, 0)) := hs
  refine (hg.block B hs.in_ (fun e => ?_)).trans h'
  obtain ⟨o, ho, hc⟩ := hrow B e.symm
  rw [h'] at ho
  cases ho
  cases hc
theorem ownRow_own {α β : Type} (E : Enc α) (b : Nat) (e : TypeId) (A : β → Option Addr) (n c : β → Nat) (l : β → List α) : Go.Own (fun s W => Own E W b e (A s) (n s) (c s) (l s)) := fun s X Y row hs hg hrow => by
  refine hs.kept hg ?_
  rcases hs.2.2 with ⟨hv, _⟩ | ⟨g, cap, cur, hv, hb, hg', _⟩
  · left
    simp at hv
    obtain ⟨h1, _⟩ := hv
    rw [h1]
    rfl
  · right
    simp at hv
    obtain ⟨h1, _⟩ := hv
    rw [h1]
    intro e'
    obtain ⟨o, ho, hc⟩ := hrow g e'.symm
    rw [hg'] at ho
    cases ho
    cases hc

set_option maxRecDepth 100000 in
set_option maxHeartbeats 2000000 in
theorem Peak_any (A : Option Addr) (n c : Nat) (xs : Ls) (w : World) (h : R E3 w A n c xs) (hn : n ≤ 1000) :
    Calls Try.prog 27 #[.slice A n c] w fun e w' => e = .returned (.tuple #[.int .i64 (peak xs).1, .int .i64 (peak xs).2, .int .i64 (errV xs)]) ∧ Below w.heap.size w w' := by
  by_cases he : errV xs = 0
  · have hn12 : n ≤ 12 := by have := errV_le he; have := h.length; omega
    have HX := hide (show peak xs = scan (cnt xs) (moms 1001) by unfold peak; rw [if_pos he])
    have HE := hide he
    clear he
    refine (callsIn_wide (n := 3)).1 ?_
    refine callsIn_of_wp_marks Try.func27 rfl trivial ?_ rfl
    simp only [Try.ntmps27, List.size_toArray, List.length_cons, List.length_nil, Nat.reduceAdd, Nat.reduceSub, Array.replicate_succ, Array.replicate_zero, List.push_toArray, List.append_toArray, List.nil_append, List.cons_append]
    gi_wp2_with (first
      | (refine ⟨trivial, ?_⟩; gi_at_call 23; refine (callsIn_wide.2 (Validate_any _ _ _ xs _ (h.below ((Below.refl _ _).alloc (Nat.le_refl _) _) (Nat.le_refl _)) hn)).mono ?_; rintro e w1 ⟨rfl, b1⟩; rw [HE.out]; have hcb := b1.cell (p := ⟨w.heap.size, 0, none⟩) (by simp); have HR1 := hide ((h.below ((Below.refl _ _).alloc (Nat.le_refl _) (.cells #[.slice A n c] 22)) (Nat.le_refl _)).below b1 (Nat.le_refl _)); rw [(Boxed.new w 22 (.slice A n c)).cell] at hcb; have hz1 : w.heap.size < w1.heap.size := by (have := b1.size; simp at this; omega))
      | (refine ⟨trivial, ?_⟩; gi_at_call 66; refine (callsIn_wide.2 (inOrderFrom_any _ _ _ xs _ (HR1.out.below (((Below.refl _ _).alloc (Nat.le_refl _) _).alloc (by simp) _) (Nat.le_refl _)) hn12)).mono ?_; rintro e w2 ⟨g, Bs, c2, L, rfl, o2, hBs, lB, lB2, lg, hord, b2⟩))
    have hRA := o2.rowAt
    have hb01 : Below w.heap.size w w1 := ((Below.refl _ w).alloc (Nat.le_refl _) _).trans (b1.mono (by simp))
    have bM : Boxed w2 w1.heap.size 3 (.int .i64 0) := (b2.block w1.heap.size (by simp <;> omega)).trans ((Boxed.new w1 3 (.int .i64 0)).alloc (.cells #[.int .i64 0] 3))
    have bT : Boxed w2 (w1.heap.size + 1) 3 (.int .i64 0) := (b2.block (w1.heap.size + 1) (by simp <;> omega)).trans (by have := Boxed.new (w1.alloc (.cells #[.int .i64 0] 3)) 3 (.int .i64 0); rwa [World.size_alloc] at this)
    have hB2 : Below w1.heap.size w1 w2 := (((Below.refl _ w1).alloc (Nat.le_refl _) _).alloc (by simp) _).trans (b2.mono (by simp; omega))
    have hz2 := hB2.size
    have hgz : g < w2.heap.size := by omega
    have hp1 : w1.heap.size + 1 < g := by
      rcases o2.form with ⟨hh, _⟩ | ⟨g', h1, h2, _⟩
      · cases hh
      · injection h1 with h1
        injection h1 with h1
        simp at h2
        omega
    have hlB : w1.heap.size + 1 < w2.heap.size := by omega
    have HO := hide hord
    have HC := hide hcb
    have HB01 := hide hb01
    clear hord b2 lB2 o2 b1 hcb hb01
    refine wpIn_rangeFunc_ownH rfl (by omega) (gf := 100) (lb := #[.pointer (some ⟨Bs, 0, none⟩)]) rfl trivial (enters_of Try.func100 (by kernel_rfl) rfl)
      (values_stops Fence.wide 2 trivial rfl (by omega) Bs g n c2 L hn w2 lB hBs hRA) KB.trans (KB.putObj hgz) (Below.refl _ _) (fun _ => rfl)
      (fun pre W => (Boxed W w1.heap.size 3 (.int .i64 (scan (cnt xs) (pre.map fun y => kf y.1)).1) ∧ Boxed W (w1.heap.size + 1) 3 (.int .i64 ((scan (cnt xs) (pre.map fun y => kf y.1)).2 : Nat))) ∧ (Below w1.heap.size w1 W ∧ w2.heap.size ≤ W.heap.size))
      (fun _ _ _ => False)
      (OwnFrom.and (OwnFrom.and (Go.Own.from (boxed_own _ _ _) _) (Go.Own.from (boxed_own _ _ _) _)) (OwnFrom.and (ownFrom_below (Nat.le_refl _) hz2) (fun _ _ _ _ hs hg _ => Nat.le_trans hs hg.size)))
      (fun _ _ _ _ _ hs _ _ => hs)
      ⟨⟨bM, bT⟩, hB2, Nat.le_refl _⟩
      (fun x a' W => ∃ Bx, w1.heap.size + 1 < Bx ∧ Bk W Bx 75 #[.int .i64 x.1.1, .int .i64 x.1.2.1, .int .i64 x.1.2.2.1, .int .i64 x.1.2.2.2] ∧ a' = { tmps := #[.slice A n c, .pointer (some ⟨w.heap.size, 0, none⟩), .int .i64 0, .int .i64 0, .int .i64 0, .int .i64 0, .pointer (some ⟨w1.heap.size, 0, none⟩), .pointer (some ⟨w1.heap.size + 1, 0, none⟩), .pointer (some ⟨Bx, 0, none⟩), undef, .slice A n c, .int .i64 0, .int .i64 0, .bool false, undef, .slice A n c, .func (.func 100) #[] #[.pointer (some ⟨Bs, 0, none⟩)], nmV x.1.1 x.1.2.1 x.1.2.2.1 x.1.2.2.2, undef, undef, undef, undef, undef, undef, undef, undef, undef, undef, undef, undef, undef, undef, undef], defers := [] })
      (fun x a' _ X Y row hs hg hr => by obtain ⟨Bx, h1, h2, h3⟩ := hs; exact ⟨Bx, h1, bk_own Bx 75 (fun (_ : Unit) => #[.int .i64 x.1.1, .int .i64 x.1.2.1, .int .i64 x.1.2.2.1, .int .i64 x.1.2.2.2]) () X Y row h2 hg (fun r e => (hr r e).2), h3⟩)
      ?assign ?body ?done ?stop
    case assign =>
      rintro l pre x W K ⟨⟨bM1, bT1⟩, hB1, hs1⟩ hK
      dsimp only [nmE]
      gi_wp2
      exact hK _ _ ((KeepsOthers.alloc _ _).from _) ((KB.refl g W).alloc (by omega) _) ⟨⟨bM1.alloc _, bT1.alloc _⟩, hB1.alloc hB1.size _, by simp; omega⟩ ⟨W.heap.size, by omega, Bk.born W _ _, rfl⟩
    case body =>
      rintro l pre x a' W hl ⟨r, hr⟩ ⟨⟨bM1, bT1⟩, hB1, hs1⟩ ⟨Bx, hBx, bX, rfl⟩ hlt
      have cP := hB1.cell (p := ⟨w.heap.size, 0, none⟩) hz1
      rw [HC.out] at cP
      have cX : W.cell? ⟨Bx, 0, none⟩ = some (.int .i64 x.1.1) := bX.at_ 0
      have cT := bT1.cell
      have HM := hide bM1
      have HT := hide bT1
      have HB1 := hide hB1
      have HSN := hide (show scan (cnt xs) ((pre ++ [x]).map fun y => kf y.1) = _ by rw [List.map_append, List.map_cons, List.map_nil, scan_snoc])
      have HCN := hide (runIx_len xs x.1.1)
      have HRW := hide (HR1.out.below hB1 (Nat.le_refl _))
      have HBX := hide bX
      clear hB1 bM1 bT1 bX hr
      have hk1 : kf x.1 = x.1.1 := rfl
      rw [hk1] at HSN
      clear hk1
      generalize scan (cnt xs) (pre.map fun y => kf y.1) = sc at *
      obtain ⟨s1, s2⟩ := sc
      obtain ⟨⟨x1, x2, x3, x4⟩, hxm⟩ := x
      dsimp only at *
      have hlW : w1.heap.size + 1 < W.heap.size := by omega
      have hgW : g < W.heap.size := by omega
      by_cases hc : s2 < cnt xs x1
      · have HS1 := hide (HSN.out.trans (if_pos hc))
        clear HSN
        gi_wp2_with (refine ⟨trivial, ?_⟩; gi_at_call 63; refine (CallsIn.inRound l (callsIn_wide.2 (running_any _ _ _ xs _ _ HRW.out hn))).mono ?_; rintro e w3 ⟨A3, n3, c3, rfl, o3, b3⟩; have hl3 := o3.len; rw [HCN.out] at hl3; subst hl3; have hM3 : Boxed w3 w1.heap.size 3 (.int .i64 s1) := (b3.block _ (by omega)).trans HM.out; have hT3 : Boxed w3 (w1.heap.size + 1) 3 (.int .i64 (s2 : Nat)) := (b3.block _ (by omega)).trans HT.out; have cT3 := hT3.cell; have cX3 : w3.cell? ⟨Bx, 0, none⟩ = some (.int .i64 x1) := (b3.cell (p := ⟨Bx, 0, none⟩) HBX.out.in_).trans cX; have cM3 := hM3.cell; have fM := hM3.frozen; have fT := hT3.frozen; have HM3 := hide hM3; have HT3 := hide hT3; have HB3 := hide b3; have hs3 := b3.size; clear hM3 hT3 b3 o3)
        exact ⟨((KeepsOthers.of_grownBy (grown_of_below HB3.out (Nat.le_refl _) none) (by intro j o e; cases e)).trans ((KeepsOthers.setCell _ _ _).trans (KeepsOthers.setCell _ _ _))).from _, ((KB.of_below HB3.out hgW).setCell (by simp; omega) _).setCell (by simp; omega) _,
          ⟨⟨by rw [HS1.out]; exact (HM3.out.set _).other (by omega) _, by rw [HS1.out]; exact (HT3.out.other (by omega) _).set _⟩, ((HB1.out.trans (HB3.out.mono (by omega))).setCell (p := ⟨w1.heap.size, 0, none⟩) (Nat.le_refl _) _).setCell (p := ⟨w1.heap.size + 1, 0, none⟩) (by simp) _, by simp; omega⟩⟩
      · have HS1 := hide (HSN.out.trans (if_neg hc))
        clear HSN
        gi_wp2_with (refine ⟨trivial, ?_⟩; gi_at_call 63; refine (CallsIn.inRound l (callsIn_wide.2 (running_any _ _ _ xs _ _ HRW.out hn))).mono ?_; rintro e w3 ⟨A3, n3, c3, rfl, o3, b3⟩; have hl3 := o3.len; rw [HCN.out] at hl3; subst hl3; have hM3 : Boxed w3 w1.heap.size 3 (.int .i64 s1) := (b3.block _ (by omega)).trans HM.out; have hT3 : Boxed w3 (w1.heap.size + 1) 3 (.int .i64 (s2 : Nat)) := (b3.block _ (by omega)).trans HT.out; have cT3 := hT3.cell; have cX3 : w3.cell? ⟨Bx, 0, none⟩ = some (.int .i64 x1) := (b3.cell (p := ⟨Bx, 0, none⟩) HBX.out.in_).trans cX; have cM3 := hM3.cell; have fM := hM3.frozen; have fT := hT3.frozen; have HM3 := hide hM3; have HT3 := hide hT3; have HB3 := hide b3; have hs3 := b3.size; clear hM3 hT3 b3 o3)
        exact ⟨(KeepsOthers.of_grownBy (grown_of_below HB3.out (Nat.le_refl _) none) (by intro j o e; cases e)).from _, KB.of_below HB3.out hgW,
          ⟨⟨by rw [HS1.out]; exact HM3.out, by rw [HS1.out]; exact HT3.out⟩, HB1.out.trans (HB3.out.mono (by omega)), by omega⟩⟩
    case done =>
      rintro D ys W hD rfl ⟨⟨bM1, bT1⟩, hB1, hs1⟩ hK
      have hat : (L.attach.map fun y => kf y.1) = L.map kf := by simp
      rw [hat, peak_ord (errV_ok.1 HE.out).2 HO.out, ← HX.out] at bM1 bT1
      have cM := bM1.cell
      have cT := bT1.cell
      have HB1 := hide hB1
      clear hat bM1 bT1 hB1
      gi_wp2
      gi_region
      all_goals
        gi_wp2
        have hKd : W.drew.heap[D]? = some (.deferred (some [])) := hK
        refine ⟨by simp, .inl ⟨_, _, rfl, run_takeDeferred hKd, ?_⟩⟩
        exact ⟨.tuple #[.int .i64 (peak xs).1, .int .i64 ((peak xs).2 : Nat), .int .i64 0], by simp [results, Try.f27, go_sem], by rw [HE.out], (HB01.out.trans (HB1.out.mono HB01.out.size)).drew.trans (belowK_b (w := w) (Nat.le_refl _) W.drew D _ _ (by omega) hKd rfl rfl)⟩
    case stop =>
      rintro D c' pre W _ _ h _
      exact h.elim
  · have HX := hide (show peak xs = (0, 0) by unfold peak; rw [if_neg he])
    have hne : (errV xs != 0) = true := by simpa using he
    clear he
    go_enter Try.func27, Try.ntmps27
    go_wp2_with (first | (go_at_call 23; refine (Validate_any _ _ _ xs _ (h.below ((Below.refl _ _).alloc (Nat.le_refl _) _) (Nat.le_refl _)) hn).mono ?_; rintro e w1 ⟨rfl, b1⟩; have hcb := b1.cell (p := ⟨w.heap.size, 0, none⟩) (by simp)))
    go_ret3
    exact ⟨by rw [HX.out]; rfl, ((Below.refl _ _).alloc (Nat.le_refl _) _).trans (b1.mono (by simp))⟩
end Go.Proofs.Ytpkjgnllkaafkaa
