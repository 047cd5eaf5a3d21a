/- Group 8: texts WalkNd, WalkLn, MathF, WalkSc. -/
import Derived.Test.YtlndjjdggedljaaG7
/- WalkNd -/
namespace Go.Proofs.Ytlndjjdggedljaa
open Go.RowKit

/-- The task with more, or less, of one need. -/
def needF (K h : Int) (cs ds : List Int) (ix b : Int) : Four :=
  if OkT K h cs ds then (if 0 ≤ ix ∧ ix < ds.length then (if -50 ≤ b ∧ b ≤ 50 then toldF K h cs (ds.set ix.toNat (ds.getD ix.toNat 0 + b)) else Four.none_ 1) else Four.none_ 4) else Four.none_ 1
section
variable {K h : Int} {cs ds : List Int} {ix b : Int}
theorem needF_task (o : ¬ OkT K h cs ds) : needF K h cs ds ix b = Four.none_ 1 := by unfold needF; rw [if_neg o]
theorem needF_hour (o : OkT K h cs ds) (e : ¬ (0 ≤ ix ∧ ix < ds.length)) : needF K h cs ds ix b = Four.none_ 4 := by unfold needF; rw [if_pos o, if_neg e]
theorem needF_by (o : OkT K h cs ds) (e : 0 ≤ ix ∧ ix < ds.length) (f : ¬ (-50 ≤ b ∧ b ≤ 50)) : needF K h cs ds ix b = Four.none_ 1 := by unfold needF; rw [if_pos o, if_pos e, if_neg f]
theorem needF_ok (o : OkT K h cs ds) (e : 0 ≤ ix ∧ ix < ds.length) (f : -50 ≤ b ∧ b ≤ 50) : needF K h cs ds ix b = toldF K h cs (ds.set ix.toNat (ds.getD ix.toNat 0 + b)) := by
  unfold needF; rw [if_pos o, if_pos e, if_pos f]
end

set_option maxHeartbeats 4000000 in
theorem Need_any (K h : Int) (A : Option Addr) (n c : Nat) (cs : List Int) (A' : Option Addr) (n' c' : Nat) (ds : List Int) (ix b : Int) (w : World) (hT : Tin w A n c cs A' n' c' ds) :
    Calls Try.prog 51 #[.agg #[.int .i64 K, .int .i64 h, .slice A n c, .slice A' n' c'], .int .i64 ix, .int .i64 b] w (FourPost (needF K h cs ds ix b) w) := by
  have HT := hide hT
  have L1 := hT.1.length
  have L2 := hT.2.length
  have B0 := hide ((Below.refl w.heap.size w).alloc (Nat.le_refl _) (.cells #[.int .i64 K, .int .i64 h, .slice A n c, .slice A' n' c'] 24))
  have K0 := hide (Bk.born w 24 #[.int .i64 K, .int .i64 h, .slice A n c, .slice A' n' c'])
  have R0 := hide (Bk.bornAt (w := w.alloc (.cells #[.int .i64 K, .int .i64 h, .slice A n c, .slice A' n' c'] 24)) (g := w.heap.size + 1) (t := 24) (cs := #[.int .i64 0, .int .i64 0, .slice none 0 0, .slice none 0 0]) (by simp))
  replace K0 := hide (K0.out.more (.cells #[.int .i64 0, .int .i64 0, .slice none 0 0, .slice none 0 0] 24))
  replace B0 := hide (B0.out.alloc (by simp) (.cells #[.int .i64 0, .int .i64 0, .slice none 0 0, .slice none 0 0] 24))
  clear hT
  by_cases he : errT K h cs ds = 0
  case neg =>
    have HV := hide (needF_task (ix := ix) (b := b) (not_okT he))
    have HE := hide (errT_ne he)
    clear he
    go_enter Try.func51, Try.ntmps51
    go_wp2_with fail
    refine (Validate_any K h _ n c cs _ n' c' ds _ (HT.out.below B0.out (Nat.le_refl _))).mono ?_
    rw [HE.out]
    rintro e w1 ⟨rfl, b1⟩
    have B1 := hide (B0.out.trans (b1.mono B0.out.size))
    have R1 := hide (R0.out.keep b1 R0.out.in_)
    clear b1
    obtain ⟨r0, r1, r2, r3, _⟩ := R1.out.four
    have f0 := R1.out.fr 0
    have f1 := R1.out.fr 1
    have f2 := R1.out.fr 2
    have f3 := R1.out.fr 3
    obtain ⟨z0, z1, z2, z3, _⟩ := (R1.out.set4 (.int .i64 0) (.int .i64 0) (.slice none 0 0) (.slice none 0 0)).four
    go_wp2_with fail
    refine bodyPost_ret (v := .tuple #[.agg #[.int .i64 0, .int .i64 0, .slice none 0 0, .slice none 0 0], .int .i64 1]) ?_ rfl (by rw [HV.out]; exact ⟨_, _, _, _, _, _, rfl, Own.nil _ _, Own.nil _ _, below_set4 B1.out (by omega) _ _ _ _⟩)
    simp [results, Try.results51, go_sem, z0, z1, z2, z3]
  have o := errT_zero he
  have hn1 : 1 ≤ n' := by have := o.n1; omega
  have hn2 : n' ≤ 12 := by have := o.n2; omega
  obtain rfl : n = n' := by have := o.c.1; omega
  have OT := hide o
  have LN := hide L2
  have HE := hide he
  clear o he
  by_cases e1 : 0 ≤ ix ∧ ix < ds.length
  case neg =>
    have HV := hide (needF_hour (b := b) OT.out e1)
    rw [L2] at e1
    by_cases e2 : ix < 0
    · clear e1 L1 L2
      go_enter Try.func51, Try.ntmps51
      go_wp2_with fail
      refine (Validate_any K h _ n c cs _ n c' ds _ (HT.out.below B0.out (Nat.le_refl _))).mono ?_
      rw [HE.out]
      rintro e w1 ⟨rfl, b1⟩
      have B1 := hide (B0.out.trans (b1.mono B0.out.size))
      have K1 := hide (K0.out.keep b1 K0.out.in_)
      have R1 := hide (R0.out.keep b1 R0.out.in_)
      clear b1
      obtain ⟨k0, k1, k2, k3, _⟩ := K1.out.four
      obtain ⟨r0, r1, r2, r3, _⟩ := R1.out.four
      have f0 := R1.out.fr 0
      have f1 := R1.out.fr 1
      have f2 := R1.out.fr 2
      have f3 := R1.out.fr 3
      obtain ⟨z0, z1, z2, z3, _⟩ := (R1.out.set4 (.int .i64 0) (.int .i64 0) (.slice none 0 0) (.slice none 0 0)).four
      go_wp2_with fail
      refine bodyPost_ret (v := .tuple #[.agg #[.int .i64 0, .int .i64 0, .slice none 0 0, .slice none 0 0], .int .i64 4]) ?_ rfl (by rw [HV.out]; exact ⟨_, _, _, _, _, _, rfl, Own.nil _ _, Own.nil _ _, below_set4 B1.out (by omega) _ _ _ _⟩)
      simp [results, Try.results51, go_sem, z0, z1, z2, z3]
    · have e3 : (n : Int) ≤ ix := by omega
      clear e1 L1 L2
      go_enter Try.func51, Try.ntmps51
      go_wp2_with fail
      refine (Validate_any K h _ n c cs _ n c' ds _ (HT.out.below B0.out (Nat.le_refl _))).mono ?_
      rw [HE.out]
      rintro e w1 ⟨rfl, b1⟩
      have B1 := hide (B0.out.trans (b1.mono B0.out.size))
      have K1 := hide (K0.out.keep b1 K0.out.in_)
      have R1 := hide (R0.out.keep b1 R0.out.in_)
      clear b1
      obtain ⟨k0, k1, k2, k3, _⟩ := K1.out.four
      obtain ⟨r0, r1, r2, r3, _⟩ := R1.out.four
      have f0 := R1.out.fr 0
      have f1 := R1.out.fr 1
      have f2 := R1.out.fr 2
      have f3 := R1.out.fr 3
      obtain ⟨z0, z1, z2, z3, _⟩ := (R1.out.set4 (.int .i64 0) (.int .i64 0) (.slice none 0 0) (.slice none 0 0)).four
      go_wp2_with fail
      refine bodyPost_ret (v := .tuple #[.agg #[.int .i64 0, .int .i64 0, .slice none 0 0, .slice none 0 0], .int .i64 4]) ?_ rfl (by rw [HV.out]; exact ⟨_, _, _, _, _, _, rfl, Own.nil _ _, Own.nil _ _, below_set4 B1.out (by omega) _ _ _ _⟩)
      simp [results, Try.results51, go_sem, z0, z1, z2, z3]
  by_cases e2 : -50 ≤ b ∧ b ≤ 50
  case neg =>
    have HV := hide (needF_by OT.out e1 e2)
    rw [L2] at e1
    by_cases e3 : b < -50
    · clear e2 L1 L2
      go_enter Try.func51, Try.ntmps51
      go_wp2_with fail
      refine (Validate_any K h _ n c cs _ n c' ds _ (HT.out.below B0.out (Nat.le_refl _))).mono ?_
      rw [HE.out]
      rintro e w1 ⟨rfl, b1⟩
      have B1 := hide (B0.out.trans (b1.mono B0.out.size))
      have K1 := hide (K0.out.keep b1 K0.out.in_)
      have R1 := hide (R0.out.keep b1 R0.out.in_)
      clear b1
      obtain ⟨k0, k1, k2, k3, _⟩ := K1.out.four
      obtain ⟨r0, r1, r2, r3, _⟩ := R1.out.four
      have f0 := R1.out.fr 0
      have f1 := R1.out.fr 1
      have f2 := R1.out.fr 2
      have f3 := R1.out.fr 3
      obtain ⟨z0, z1, z2, z3, _⟩ := (R1.out.set4 (.int .i64 0) (.int .i64 0) (.slice none 0 0) (.slice none 0 0)).four
      go_wp2_with fail
      refine bodyPost_ret (v := .tuple #[.agg #[.int .i64 0, .int .i64 0, .slice none 0 0, .slice none 0 0], .int .i64 1]) ?_ rfl (by rw [HV.out]; exact ⟨_, _, _, _, _, _, rfl, Own.nil _ _, Own.nil _ _, below_set4 B1.out (by omega) _ _ _ _⟩)
      simp [results, Try.results51, go_sem, z0, z1, z2, z3]
    · have e4 : 50 < b := by omega
      clear e2 L1 L2
      go_enter Try.func51, Try.ntmps51
      go_wp2_with fail
      refine (Validate_any K h _ n c cs _ n c' ds _ (HT.out.below B0.out (Nat.le_refl _))).mono ?_
      rw [HE.out]
      rintro e w1 ⟨rfl, b1⟩
      have B1 := hide (B0.out.trans (b1.mono B0.out.size))
      have K1 := hide (K0.out.keep b1 K0.out.in_)
      have R1 := hide (R0.out.keep b1 R0.out.in_)
      clear b1
      obtain ⟨k0, k1, k2, k3, _⟩ := K1.out.four
      obtain ⟨r0, r1, r2, r3, _⟩ := R1.out.four
      have f0 := R1.out.fr 0
      have f1 := R1.out.fr 1
      have f2 := R1.out.fr 2
      have f3 := R1.out.fr 3
      obtain ⟨z0, z1, z2, z3, _⟩ := (R1.out.set4 (.int .i64 0) (.int .i64 0) (.slice none 0 0) (.slice none 0 0)).four
      go_wp2_with fail
      refine bodyPost_ret (v := .tuple #[.agg #[.int .i64 0, .int .i64 0, .slice none 0 0, .slice none 0 0], .int .i64 1]) ?_ rfl (by rw [HV.out]; exact ⟨_, _, _, _, _, _, rfl, Own.nil _ _, Own.nil _ _, below_set4 B1.out (by omega) _ _ _ _⟩)
      simp [results, Try.results51, go_sem, z0, z1, z2, z3]
  obtain ⟨i, rfl⟩ : ∃ i : Nat, ix = (i : Int) := ⟨ix.toNat, by omega⟩
  have hin : i < n := by omega
  have HNF := hide (needF_ok OT.out e1 e2)
  have x0 := (OT.out.d.2 i (by omega)).1
  have x1 := (OT.out.d.2 i (by omega)).2
  clear e1
  go_enter Try.func51, Try.ntmps51
  go_wp2_with fail
  refine (Validate_any K h _ n c cs _ n c' ds _ (HT.out.below B0.out (Nat.le_refl _))).mono ?_
  rw [HE.out]
  rintro e w1 ⟨rfl, b1⟩
  have B1 := hide (B0.out.trans (b1.mono B0.out.size))
  have K1 := hide (K0.out.keep b1 K0.out.in_)
  have R1 := hide (R0.out.keep b1 R0.out.in_)
  clear b1
  obtain ⟨k0, k1, k2, k3, _⟩ := K1.out.four
  go_wp2_with fail
  refine (copied_any K h _ n c cs _ n c' ds _ (HT.out.below B1.out (Nat.le_refl _)) (by omega) (by omega) (by omega) (by omega)).mono ?_
  rintro e w2 ⟨A2, n2, c2, A3, n3, c3, rfl, o2, o3, b2, dj⟩
  obtain rfl : n2 = n := by have := o2.len; omega
  obtain rfl : n3 = n2 := by have := o3.len; omega
  have B2 := hide (B1.out.trans (b2.mono B1.out.size))
  have K2 := hide (K1.out.keep b2 K1.out.in_)
  have R2 := hide (R1.out.keep b2 R1.out.in_)
  have P2 := hide (o2.more (B' := w.heap.size + 2) R1.out.in_)
  have Q2 := hide (o3.more (B' := w.heap.size + 2) R1.out.in_)
  have DJ := hide dj
  clear b2 o2 o3 k0 k1 k2 k3 dj
  obtain ⟨g3, rfl, hg3⟩ : ∃ g3, A3 = some ⟨g3, 0, none⟩ ∧ w.heap.size + 2 ≤ g3 := by
    rcases Q2.out.form with ⟨_, h0, _⟩ | ⟨g, e, hg, _⟩
    · omega
    · exact ⟨g, e, hg⟩
  have hap : (Value.slice A2 n3 c2).ownBlock ≠ some g3 := by
    rcases P2.out.form with ⟨_, h0, _⟩ | ⟨g, e, hg, _⟩
    · omega
    · subst e
      have := DJ.out g rfl
      simp [Value.ownBlock]
      intro hh
      subst hh
      exact this rfl
  have Q2' := hide (Q2.out.set4 (g := w.heap.size) (by omega) (.int .i64 K) (.int .i64 h) (.slice A2 n3 c2) (.slice (some ⟨g3, 0, none⟩) n3 c3))
  have cx := Q2'.out.cell hin
  have fz := Q2'.out.frozen i
  have HX := hide (show ds.getD (i : Int).toNat 0 = ds.getD i 0 by rw [Int.toNat_natCast])
  have HI := hide (Int.toNat_natCast i)
  rw [HX.out, HI.out] at HNF
  generalize ds.getD i 0 = x at *
  have wx : IntKind.i64.wrap (x + b) = x + b := IntWalk.i64_in _ (by omega)
  have l5 : (i : Int) < n3 := by omega
  have K3 := hide ((K2.out.set4 (.int .i64 K) (.int .i64 h) (.slice A2 n3 c2) (.slice (some ⟨g3, 0, none⟩) n3 c3)).apart (p := ⟨g3, i, none⟩) (by simp; omega) (.int .i64 (x + b)))
  have P3 := hide (Own.apart (p := ⟨g3, i, none⟩) (P2.out.set4 (g := w.heap.size) (by omega) (.int .i64 K) (.int .i64 h) (.slice A2 n3 c2) (.slice (some ⟨g3, 0, none⟩) n3 c3)) hap (.int .i64 (x + b)))
  have Q3 := hide (Q2'.out.stored i (x + b))
  have R3 := hide ((R2.out.apart4 (b := w.heap.size) (by omega) (.int .i64 K) (.int .i64 h) (.slice A2 n3 c2) (.slice (some ⟨g3, 0, none⟩) n3 c3)).apart (p := ⟨g3, i, none⟩) (by simp; omega) (.int .i64 (x + b)))
  have B3 := hide ((below_set4 (g := w.heap.size) B2.out (Nat.le_refl _) (.int .i64 K) (.int .i64 h) (.slice A2 n3 c2) (.slice (some ⟨g3, 0, none⟩) n3 c3)).setCell (p := ⟨g3, i, none⟩) (by simp; omega) (.int .i64 (x + b)))
  obtain ⟨k0, k1, k2, k3, _⟩ := K2.out.four
  have f0 := K2.out.fr 0
  have f1 := K2.out.fr 1
  have f2 := K2.out.fr 2
  have f3 := K2.out.fr 3
  obtain ⟨y0, y1, y2, y3, _⟩ := (K2.out.set4 (.int .i64 K) (.int .i64 h) (.slice A2 n3 c2) (.slice (some ⟨g3, 0, none⟩) n3 c3)).four
  obtain ⟨z0, z1, z2, z3, _⟩ := K3.out.four
  go_wp2_with fail
  refine (checked_any K h _ n3 c2 cs _ n3 c3 (ds.set i (x + b)) _ ⟨P3.out.row, Q3.out.row⟩).mono ?_
  clear f0 f1 f2 f3 k0 k1 k2 k3 y0 y1 y2 y3 z0 z1 z2 z3 cx fz wx Q2'
  generalize ((((w2.setCell ⟨w.heap.size, 0, none⟩ (.int .i64 K)).setCell ⟨w.heap.size, 1, none⟩ (.int .i64 h)).setCell ⟨w.heap.size, 2, none⟩ (.slice A2 n3 c2)).setCell ⟨w.heap.size, 3, none⟩ (.slice (some ⟨g3, 0, none⟩) n3 c3)).setCell ⟨g3, i, none⟩ (.int .i64 (x + b)) = W3 at *
  rintro e w4 ⟨rfl, b4⟩
  have B4 := hide (B3.out.trans (b4.mono B3.out.size))
  have R4 := hide (R3.out.keep b4 R3.out.in_)
  have P4 := hide (P3.out.below b4 (Nat.le_refl _))
  have Q4 := hide (Q3.out.below b4 (Nat.le_refl _))
  clear b4
  by_cases o2 : OkT K h cs (ds.set i (x + b))
  · have HV := hide (HNF.out.trans (toldF_ok o2))
    rw [toldV_ok (errT_ok o2)]
    clear o2
    obtain ⟨r0, r1, r2, r3, _⟩ := R4.out.four
    have f0 := R4.out.fr 0
    have f1 := R4.out.fr 1
    have f2 := R4.out.fr 2
    have f3 := R4.out.fr 3
    obtain ⟨z0, z1, z2, z3, _⟩ := (R4.out.set4 (.int .i64 K) (.int .i64 h) (.slice A2 n3 c2) (.slice (some ⟨g3, 0, none⟩) n3 c3)).four
    go_wp2_with fail
    refine bodyPost_ret (v := .tuple #[.agg #[.int .i64 K, .int .i64 h, .slice A2 n3 c2, .slice (some ⟨g3, 0, none⟩) n3 c3], .int .i64 0]) ?_ rfl (by rw [HV.out]; exact ⟨_, _, _, _, _, _, rfl, (P4.out.set4 (by omega) _ _ _ _).more (by omega), (Q4.out.set4 (by omega) _ _ _ _).more (by omega), below_set4 B4.out (by omega) _ _ _ _⟩)
    simp [results, Try.results51, go_sem, z0, z1, z2, z3]
  · have HV := hide (HNF.out.trans (toldF_no o2))
    have e2 := errT_no o2
    rw [toldV_no (by rw [e2]; decide), e2]
    clear o2 e2
    obtain ⟨r0, r1, r2, r3, _⟩ := R4.out.four
    have f0 := R4.out.fr 0
    have f1 := R4.out.fr 1
    have f2 := R4.out.fr 2
    have f3 := R4.out.fr 3
    obtain ⟨z0, z1, z2, z3, _⟩ := (R4.out.set4 (.int .i64 0) (.int .i64 0) (.slice none 0 0) (.slice none 0 0)).four
    go_wp2_with fail
    refine bodyPost_ret (v := .tuple #[.agg #[.int .i64 0, .int .i64 0, .slice none 0 0, .slice none 0 0], .int .i64 1]) ?_ rfl (by rw [HV.out]; exact ⟨_, _, _, _, _, _, rfl, Own.nil _ _, Own.nil _ _, below_set4 B4.out (by omega) _ _ _ _⟩)
    simp [results, Try.results51, go_sem, z0, z1, z2, z3]

set_option maxHeartbeats 4000000 in
theorem rNeed_any (K h : Int) (A : Option Addr) (n c : Nat) (cs : List Int) (A' : Option Addr) (n' c' : Nat) (ds : List Int) (ix b : Int) (w : World) (hT : Tin w A n c cs A' n' c' ds) :
    Calls Try.prog 52 #[.agg #[.int .i64 K, .int .i64 h, .slice A n c, .slice A' n' c'], .int .i64 ix, .int .i64 b] w (FourPost (needF K h cs ds ix b) w) := by
  have HT := hide hT
  have L1 := hT.1.length
  have L2 := hT.2.length
  have B0 := hide ((Below.refl w.heap.size w).alloc (Nat.le_refl _) (.cells #[.int .i64 K, .int .i64 h, .slice A n c, .slice A' n' c'] 24))
  have K0 := hide (Bk.born w 24 #[.int .i64 K, .int .i64 h, .slice A n c, .slice A' n' c'])
  have R0 := hide (Bk.bornAt (w := w.alloc (.cells #[.int .i64 K, .int .i64 h, .slice A n c, .slice A' n' c'] 24)) (g := w.heap.size + 1) (t := 24) (cs := #[.int .i64 0, .int .i64 0, .slice none 0 0, .slice none 0 0]) (by simp))
  replace K0 := hide (K0.out.more (.cells #[.int .i64 0, .int .i64 0, .slice none 0 0, .slice none 0 0] 24))
  replace B0 := hide (B0.out.alloc (by simp) (.cells #[.int .i64 0, .int .i64 0, .slice none 0 0, .slice none 0 0] 24))
  clear hT
  by_cases he : errT K h cs ds = 0
  case neg =>
    have HV := hide (needF_task (ix := ix) (b := b) (not_okT he))
    have HE := hide (errT_ne he)
    clear he
    go_enter Try.func52, Try.ntmps52
    go_wp2_with fail
    refine (rValidate_any K h _ n c cs _ n' c' ds _ (HT.out.below B0.out (Nat.le_refl _))).mono ?_
    rw [HE.out]
    rintro e w1 ⟨rfl, b1⟩
    have B1 := hide (B0.out.trans (b1.mono B0.out.size))
    have R1 := hide (R0.out.keep b1 R0.out.in_)
    clear b1
    obtain ⟨r0, r1, r2, r3, _⟩ := R1.out.four
    have f0 := R1.out.fr 0
    have f1 := R1.out.fr 1
    have f2 := R1.out.fr 2
    have f3 := R1.out.fr 3
    obtain ⟨z0, z1, z2, z3, _⟩ := (R1.out.set4 (.int .i64 0) (.int .i64 0) (.slice none 0 0) (.slice none 0 0)).four
    go_wp2_with fail
    refine bodyPost_ret (v := .tuple #[.agg #[.int .i64 0, .int .i64 0, .slice none 0 0, .slice none 0 0], .int .i64 1]) ?_ rfl (by rw [HV.out]; exact ⟨_, _, _, _, _, _, rfl, Own.nil _ _, Own.nil _ _, below_set4 B1.out (by omega) _ _ _ _⟩)
    simp [results, Try.results52, go_sem, z0, z1, z2, z3]
  have o := errT_zero he
  have hn1 : 1 ≤ n' := by have := o.n1; omega
  have hn2 : n' ≤ 12 := by have := o.n2; omega
  obtain rfl : n = n' := by have := o.c.1; omega
  have OT := hide o
  have LN := hide L2
  have HE := hide he
  clear o he
  by_cases e1 : 0 ≤ ix ∧ ix < ds.length
  case neg =>
    have HV := hide (needF_hour (b := b) OT.out e1)
    rw [L2] at e1
    have g1 : withinB ix 0 ((n : Int) - 1) = false := withinB_no (by omega)
    have wn : IntKind.i64.wrap ((n : Int) - 1) = (n : Int) - 1 := IntWalk.i64_in _ (by omega)
    clear e1 L1 L2
    go_enter Try.func52, Try.ntmps52
    go_wp2_with fail
    refine (rValidate_any K h _ n c cs _ n c' ds _ (HT.out.below B0.out (Nat.le_refl _))).mono ?_
    rw [HE.out]
    rintro e w1 ⟨rfl, b1⟩
    have B1 := hide (B0.out.trans (b1.mono B0.out.size))
    have K1 := hide (K0.out.keep b1 K0.out.in_)
    have R1 := hide (R0.out.keep b1 R0.out.in_)
    clear b1
    obtain ⟨k0, k1, k2, k3, _⟩ := K1.out.four
    go_wp2_with fail
    refine (within_any _ _ _ _).mono ?_
    rw [g1]
    rintro e wq ⟨rfl, rfl⟩
    obtain ⟨r0, r1, r2, r3, _⟩ := R1.out.four
    have f0 := R1.out.fr 0
    have f1 := R1.out.fr 1
    have f2 := R1.out.fr 2
    have f3 := R1.out.fr 3
    obtain ⟨z0, z1, z2, z3, _⟩ := (R1.out.set4 (.int .i64 0) (.int .i64 0) (.slice none 0 0) (.slice none 0 0)).four
    go_wp2_with fail
    refine bodyPost_ret (v := .tuple #[.agg #[.int .i64 0, .int .i64 0, .slice none 0 0, .slice none 0 0], .int .i64 4]) ?_ rfl (by rw [HV.out]; exact ⟨_, _, _, _, _, _, rfl, Own.nil _ _, Own.nil _ _, below_set4 B1.out (by omega) _ _ _ _⟩)
    simp [results, Try.results52, go_sem, z0, z1, z2, z3]
  by_cases e2 : -50 ≤ b ∧ b ≤ 50
  case neg =>
    have HV := hide (needF_by OT.out e1 e2)
    rw [L2] at e1
    have g1 : withinB ix 0 ((n : Int) - 1) = true := withinB_true (by omega) (by omega)
    have g2 : withinB b (-50) 50 = false := withinB_no e2
    have wn : IntKind.i64.wrap ((n : Int) - 1) = (n : Int) - 1 := IntWalk.i64_in _ (by omega)
    clear e1 e2 L1 L2
    go_enter Try.func52, Try.ntmps52
    go_wp2_with fail
    refine (rValidate_any K h _ n c cs _ n c' ds _ (HT.out.below B0.out (Nat.le_refl _))).mono ?_
    rw [HE.out]
    rintro e w1 ⟨rfl, b1⟩
    have B1 := hide (B0.out.trans (b1.mono B0.out.size))
    have K1 := hide (K0.out.keep b1 K0.out.in_)
    have R1 := hide (R0.out.keep b1 R0.out.in_)
    clear b1
    obtain ⟨k0, k1, k2, k3, _⟩ := K1.out.four
    go_wp2_with fail
    refine (within_any _ _ _ _).mono ?_
    rw [g1]
    rintro e wq ⟨rfl, rfl⟩
    go_wp2_with fail
    refine (within_any _ _ _ _).mono ?_
    rw [g2]
    rintro e wq ⟨rfl, rfl⟩
    obtain ⟨r0, r1, r2, r3, _⟩ := R1.out.four
    have f0 := R1.out.fr 0
    have f1 := R1.out.fr 1
    have f2 := R1.out.fr 2
    have f3 := R1.out.fr 3
    obtain ⟨z0, z1, z2, z3, _⟩ := (R1.out.set4 (.int .i64 0) (.int .i64 0) (.slice none 0 0) (.slice none 0 0)).four
    go_wp2_with fail
    refine bodyPost_ret (v := .tuple #[.agg #[.int .i64 0, .int .i64 0, .slice none 0 0, .slice none 0 0], .int .i64 1]) ?_ rfl (by rw [HV.out]; exact ⟨_, _, _, _, _, _, rfl, Own.nil _ _, Own.nil _ _, below_set4 B1.out (by omega) _ _ _ _⟩)
    simp [results, Try.results52, go_sem, z0, z1, z2, z3]
  obtain ⟨i, rfl⟩ : ∃ i : Nat, ix = (i : Int) := ⟨ix.toNat, by omega⟩
  have hin : i < n := by omega
  have HNF := hide (needF_ok OT.out e1 e2)
  have x0 := (OT.out.d.2 i (by omega)).1
  have x1 := (OT.out.d.2 i (by omega)).2
  have g1 : withinB (i : Int) 0 ((n : Int) - 1) = true := withinB_true (by omega) (by omega)
  have g2 : withinB b (-50) 50 = true := withinB_true e2.1 e2.2
  have wn : IntKind.i64.wrap ((n : Int) - 1) = (n : Int) - 1 := IntWalk.i64_in _ (by omega)
  clear e1
  go_enter Try.func52, Try.ntmps52
  go_wp2_with fail
  refine (rValidate_any K h _ n c cs _ n c' ds _ (HT.out.below B0.out (Nat.le_refl _))).mono ?_
  rw [HE.out]
  rintro e w1 ⟨rfl, b1⟩
  have B1 := hide (B0.out.trans (b1.mono B0.out.size))
  have K1 := hide (K0.out.keep b1 K0.out.in_)
  have R1 := hide (R0.out.keep b1 R0.out.in_)
  clear b1
  obtain ⟨k0, k1, k2, k3, _⟩ := K1.out.four
  go_wp2_with fail
  refine (within_any _ _ _ _).mono ?_
  rw [g1]
  rintro e wq ⟨rfl, rfl⟩
  go_wp2_with fail
  refine (within_any _ _ _ _).mono ?_
  rw [g2]
  rintro e wq ⟨rfl, rfl⟩
  clear k0 k1 k2 k3 g1 g2 wn
  obtain ⟨k0, k1, k2, k3, _⟩ := K1.out.four
  go_wp2_with fail
  refine (rCopy_any K h _ n c cs _ n c' ds _ (HT.out.below B1.out (Nat.le_refl _)) (by omega) (by omega) (by omega) (by omega)).mono ?_
  rintro e w2 ⟨A2, n2, c2, A3, n3, c3, rfl, o2, o3, b2, dj⟩
  obtain rfl : n2 = n := by have := o2.len; omega
  obtain rfl : n3 = n2 := by have := o3.len; omega
  have B2 := hide (B1.out.trans (b2.mono B1.out.size))
  have K2 := hide (K1.out.keep b2 K1.out.in_)
  have R2 := hide (R1.out.keep b2 R1.out.in_)
  have P2 := hide (o2.more (B' := w.heap.size + 2) R1.out.in_)
  have Q2 := hide (o3.more (B' := w.heap.size + 2) R1.out.in_)
  have DJ := hide dj
  clear b2 o2 o3 k0 k1 k2 k3 dj
  obtain ⟨g3, rfl, hg3⟩ : ∃ g3, A3 = some ⟨g3, 0, none⟩ ∧ w.heap.size + 2 ≤ g3 := by
    rcases Q2.out.form with ⟨_, h0, _⟩ | ⟨g, e, hg, _⟩
    · omega
    · exact ⟨g, e, hg⟩
  have hap : (Value.slice A2 n3 c2).ownBlock ≠ some g3 := by
    rcases P2.out.form with ⟨_, h0, _⟩ | ⟨g, e, hg, _⟩
    · omega
    · subst e
      have := DJ.out g rfl
      simp [Value.ownBlock]
      intro hh
      subst hh
      exact this rfl
  have Q2' := hide (Q2.out.alloc (.cells #[.int .i64 K, .int .i64 h, .slice A2 n3 c2, .slice (some ⟨g3, 0, none⟩) n3 c3] 24))
  have hlt3 : g3 < w2.heap.size := by
    rcases Q2.out.form with ⟨_, h0, _⟩ | ⟨g, e, hg, hl, _⟩
    · omega
    · simp at e; omega
  have cx := Q2'.out.cell hin
  have fz := Q2'.out.frozen i
  have HX := hide (show ds.getD (i : Int).toNat 0 = ds.getD i 0 by rw [Int.toNat_natCast])
  have HI := hide (Int.toNat_natCast i)
  rw [HX.out, HI.out] at HNF
  generalize ds.getD i 0 = x at *
  have wx : IntKind.i64.wrap (x + b) = x + b := IntWalk.i64_in _ (by omega)
  have l5 : (i : Int) < n3 := by omega
  have sz2 := B2.out.size
  have P3 := hide ((Own.apart (p := ⟨g3, i, none⟩) P2.out hap (.int .i64 (x + b))).alloc (.cells #[.int .i64 K, .int .i64 h, .slice A2 n3 c2, .slice (some ⟨g3, 0, none⟩) n3 c3] 24))
  have Q3 := hide ((Q2.out.stored i (x + b)).alloc (.cells #[.int .i64 K, .int .i64 h, .slice A2 n3 c2, .slice (some ⟨g3, 0, none⟩) n3 c3] 24))
  have R3 := hide ((R2.out.apart (p := ⟨g3, i, none⟩) (by simp; omega) (.int .i64 (x + b))).more (.cells #[.int .i64 K, .int .i64 h, .slice A2 n3 c2, .slice (some ⟨g3, 0, none⟩) n3 c3] 24))
  have B3 := hide ((B2.out.setCell (p := ⟨g3, i, none⟩) (by simp; omega) (.int .i64 (x + b))).alloc (by simp; omega) (.cells #[.int .i64 K, .int .i64 h, .slice A2 n3 c2, .slice (some ⟨g3, 0, none⟩) n3 c3] 24))
  obtain ⟨y0, y1, y2, y3, _⟩ := (Bk.born w2 24 #[.int .i64 K, .int .i64 h, .slice A2 n3 c2, .slice (some ⟨g3, 0, none⟩) n3 c3]).four
  go_wp2_with fail
  refine (rtold_any K h _ n3 c2 cs _ n3 c3 (ds.set i (x + b)) _ ⟨P3.out.row, Q3.out.row⟩).mono ?_
  clear y0 y1 y2 y3 cx fz wx Q2' hlt3 sz2
  generalize (w2.setCell ⟨g3, i, none⟩ (.int .i64 (x + b))).alloc (.cells #[.int .i64 K, .int .i64 h, .slice A2 n3 c2, .slice (some ⟨g3, 0, none⟩) n3 c3] 24) = W3 at *
  rintro e w4 ⟨rfl, b4⟩
  have B4 := hide (B3.out.trans (b4.mono B3.out.size))
  have R4 := hide (R3.out.keep b4 R3.out.in_)
  have P4 := hide (P3.out.below b4 (Nat.le_refl _))
  have Q4 := hide (Q3.out.below b4 (Nat.le_refl _))
  clear b4
  by_cases o2 : OkT K h cs (ds.set i (x + b))
  · have HV := hide (HNF.out.trans (toldF_ok o2))
    rw [toldV_ok (errT_ok o2)]
    clear o2
    obtain ⟨r0, r1, r2, r3, _⟩ := R4.out.four
    have f0 := R4.out.fr 0
    have f1 := R4.out.fr 1
    have f2 := R4.out.fr 2
    have f3 := R4.out.fr 3
    obtain ⟨z0, z1, z2, z3, _⟩ := (R4.out.set4 (.int .i64 K) (.int .i64 h) (.slice A2 n3 c2) (.slice (some ⟨g3, 0, none⟩) n3 c3)).four
    go_wp2_with fail
    refine bodyPost_ret (v := .tuple #[.agg #[.int .i64 K, .int .i64 h, .slice A2 n3 c2, .slice (some ⟨g3, 0, none⟩) n3 c3], .int .i64 0]) ?_ rfl (by rw [HV.out]; exact ⟨_, _, _, _, _, _, rfl, (P4.out.set4 (by omega) _ _ _ _).more (by omega), (Q4.out.set4 (by omega) _ _ _ _).more (by omega), below_set4 B4.out (by omega) _ _ _ _⟩)
    simp [results, Try.results52, go_sem, z0, z1, z2, z3]
  · have HV := hide (HNF.out.trans (toldF_no o2))
    have e2 := errT_no o2
    rw [toldV_no (by rw [e2]; decide), e2]
    clear o2 e2
    obtain ⟨r0, r1, r2, r3, _⟩ := R4.out.four
    have f0 := R4.out.fr 0
    have f1 := R4.out.fr 1
    have f2 := R4.out.fr 2
    have f3 := R4.out.fr 3
    obtain ⟨z0, z1, z2, z3, _⟩ := (R4.out.set4 (.int .i64 0) (.int .i64 0) (.slice none 0 0) (.slice none 0 0)).four
    go_wp2_with fail
    refine bodyPost_ret (v := .tuple #[.agg #[.int .i64 0, .int .i64 0, .slice none 0 0, .slice none 0 0], .int .i64 1]) ?_ rfl (by rw [HV.out]; exact ⟨_, _, _, _, _, _, rfl, Own.nil _ _, Own.nil _ _, below_set4 B4.out (by omega) _ _ _ _⟩)
    simp [results, Try.results52, go_sem, z0, z1, z2, z3]

end Go.Proofs.Ytlndjjdggedljaa

/- WalkLn -/
namespace Go.Proofs.Ytlndjjdggedljaa
open Go.RowKit

theorem f_need {K h : Int} {cs ds ds' : List Int} (o : OkT K h cs ds) (hl : ds'.length = ds.length) (o' : OkT K h cs ds') (hd : ∀ i, i < ds.length → ds.getD i 0 ≤ ds'.getD i 0) :
    (tk K h cs ds).f ds.length ≤ (tk K h cs ds').f ds.length := by
  have ok := o.tk
  have ok' := o'.tk
  rw [hl] at ok'
  refine f_mono (n := ds.length) (fun l m _ hm => ?_) (Nat.le_refl _)
  have u : (tk K h cs ds).units l m ≤ (tk K h cs ds').units l m := sm_mono fun i _ hi => hd i (by omega)
  have s : (tk K h cs ds).save l m ≤ (tk K h cs ds').save l m := sm_mono fun i h1 hi => Int.mul_le_mul_of_nonneg_right (hd i (by omega)) (ok.way0 h1 (by omega))
  have u0 := ok.units0 l hm
  have t0 := ok'.tog0 l hm
  by_cases e : (tk K h cs ds).units l m = 0
  · have : (tk K h cs ds).tog l m = 0 := by unfold Tk.tog; rw [if_pos e]
    rw [this]
    exact t0
  · rw [Tk.tog_pos e, Tk.tog_pos (by omega)]
    show K + _ ≤ K + _
    omega
theorem needF_er {K h : Int} {cs ds : List Int} {ix b : Int} (e : (needF K h cs ds ix b).er = 0) :
    ∃ ds', OkT K h cs ds ∧ OkT K h cs ds' ∧ ds'.length = ds.length ∧ (0 ≤ b → ∀ i, i < ds.length → ds.getD i 0 ≤ ds'.getD i 0) ∧ (b ≤ 0 → ∀ i, i < ds.length → ds'.getD i 0 ≤ ds.getD i 0) ∧ needF K h cs ds ix b = ⟨K, h, cs, ds', 0⟩ := by
  by_cases o : OkT K h cs ds
  · by_cases e1 : 0 ≤ ix ∧ ix < ds.length
    · by_cases e2 : -50 ≤ b ∧ b ≤ 50
      · by_cases o2 : OkT K h cs (ds.set ix.toNat (ds.getD ix.toNat 0 + b))
        · refine ⟨_, o, o2, by simp, fun hb i hi => ?_, fun hb i hi => ?_, (needF_ok o e1 e2).trans (toldF_ok o2)⟩
          · by_cases ei : ix.toNat = i
            · subst ei; rw [getD_set_eq hi]; omega
            · rw [getD_set_ne ei]; exact Int.le_refl _
          · by_cases ei : ix.toNat = i
            · subst ei; rw [getD_set_eq hi]; omega
            · rw [getD_set_ne ei]; exact Int.le_refl _
        · rw [needF_ok o e1 e2, toldF_no o2] at e
          cases e
      · rw [needF_by o e1 e2] at e
        cases e
    · rw [needF_hour o e1] at e
      cases e
  · rw [needF_task o] at e
    cases e

set_option maxHeartbeats 4000000 in
theorem AirNeeds_walk (K h : Int) (A : Option Addr) (n c : Nat) (cs : List Int) (A' : Option Addr) (n' c' : Nat) (ds : List Int) (ix : Int) (by' : Int) (w : World)
    (hT : Tin w A n c cs A' n' c' ds) :
    Calls Try.prog 14 #[.agg #[.int .i64 K, .int .i64 h, .slice A n c, .slice A' n' c'], .int .i64 ix, .int .i64 by'] w fun e w' => e = .returned (.bool true) ∧ Below w.heap.size w w' := by
  have HT := hide hT
  have B0 := hide ((Below.refl w.heap.size w).alloc (Nat.le_refl _) (.cells #[.int .i64 K, .int .i64 h, .slice A n c, .slice A' n' c'] 24))
  have K0 := hide (Bk.born w 24 #[.int .i64 K, .int .i64 h, .slice A n c, .slice A' n' c'])
  clear hT
  by_cases hL : 100 < n ∨ 100 < n'
  case pos =>
    go_enter Try.func14, Try.ntmps14
    go_wp2_with fail
    refine (Long_any K h _ n c cs _ n' c' ds _ (HT.out.below B0.out (Nat.le_refl _))).mono ?_
    rw [decide_eq_true hL]
    rintro e w1 ⟨rfl, b1⟩
    have B1 := hide (B0.out.trans (b1.mono B0.out.size))
    have K1 := hide (K0.out.keep b1 K0.out.in_)
    clear b1
    go_wp2_with fail
    refine (known_any _).mono ?_
    rintro e wz ⟨rfl, bz⟩
    go_wp2_with fail
    go_ret
    exact ⟨rfl, B1.out.trans (bz.mono B1.out.size)⟩
  go_enter Try.func14, Try.ntmps14
  go_wp2_with fail
  refine (Long_any K h _ n c cs _ n' c' ds _ (HT.out.below B0.out (Nat.le_refl _))).mono ?_
  rw [decide_eq_false hL]
  rintro e w1 ⟨rfl, b1⟩
  have B1 := hide (B0.out.trans (b1.mono B0.out.size))
  have K1 := hide (K0.out.keep b1 K0.out.in_)
  clear b1
  obtain ⟨k0, k1, k2, k3, _⟩ := K1.out.four
  go_wp2_with fail
  refine (Need_any K h _ n c cs _ n' c' ds ix by' _ (HT.out.below B1.out (Nat.le_refl _))).mono ?_
  rintro e w2 ⟨Aa, na, ca, Ba, ma, da, rfl, oa, pa, b2⟩
  have B2 := hide (B1.out.trans (b2.mono B1.out.size))
  have K2 := hide (K1.out.keep b2 K1.out.in_)
  clear b2
  clear k0 k1 k2 k3
  have Ra := hide (oa.row)
  have Sa := hide (pa.row)
  have La := hide oa.len
  have Ma := hide pa.len
  clear oa pa
  have HFe := hide (fun e => needF_er (K := K) (h := h) (cs := cs) (ds := ds) (ix := ix) (b := by') e)
  generalize hF : needF K h cs ds ix by' = F at *
  have HFe0 := hide hF
  clear hF
  have B3 := hide (B2.out.alloc B2.out.size (.cells #[.int .i64 F.K, .int .i64 F.h, .slice Aa na ca, .slice Ba ma da] 24))
  have K3 := hide (K2.out.more (.cells #[.int .i64 F.K, .int .i64 F.h, .slice Aa na ca, .slice Ba ma da] 24))
  replace Ra := hide (Ra.out.alloc (.cells #[.int .i64 F.K, .int .i64 F.h, .slice Aa na ca, .slice Ba ma da] 24))
  replace Sa := hide (Sa.out.alloc (.cells #[.int .i64 F.K, .int .i64 F.h, .slice Aa na ca, .slice Ba ma da] 24))
  have Xa := hide (Bk.born w2 24 #[.int .i64 F.K, .int .i64 F.h, .slice Aa na ca, .slice Ba ma da])
  obtain ⟨k0, k1, k2, k3, _⟩ := K3.out.four
  go_wp2_with fail
  have RD := rNeed_any K h _ n c cs _ n' c' ds ix by' _ (HT.out.below B3.out (Nat.le_refl _))
  rw [HFe0.out] at RD
  refine RD.mono ?_
  rintro e w4 ⟨Ab, nb, cb, Bb, mb, db, rfl, ob, pb, b4⟩
  have B4 := hide (B3.out.trans (b4.mono B3.out.size))
  have K4 := hide (K3.out.keep b4 K3.out.in_)
  replace Ra := hide (Ra.out.below b4 (Nat.le_refl _))
  replace Sa := hide (Sa.out.below b4 (Nat.le_refl _))
  replace Xa := hide (Xa.out.keep b4 Xa.out.in_)
  clear b4
  clear k0 k1 k2 k3 RD
  obtain rfl : nb = na := by have := ob.len; have := La.out; omega
  obtain rfl : mb = ma := by have := pb.len; have := Ma.out; omega
  have Rb := hide (ob.row)
  have Sb := hide (pb.row)
  clear ob pb
  have B5 := hide (B4.out.alloc B4.out.size (.cells #[.int .i64 F.K, .int .i64 F.h, .slice Ab nb cb, .slice Bb mb db] 24))
  have K5 := hide (K4.out.more (.cells #[.int .i64 F.K, .int .i64 F.h, .slice Ab nb cb, .slice Bb mb db] 24))
  replace Ra := hide (Ra.out.alloc (.cells #[.int .i64 F.K, .int .i64 F.h, .slice Ab nb cb, .slice Bb mb db] 24))
  replace Sa := hide (Sa.out.alloc (.cells #[.int .i64 F.K, .int .i64 F.h, .slice Ab nb cb, .slice Bb mb db] 24))
  replace Rb := hide (Rb.out.alloc (.cells #[.int .i64 F.K, .int .i64 F.h, .slice Ab nb cb, .slice Bb mb db] 24))
  replace Sb := hide (Sb.out.alloc (.cells #[.int .i64 F.K, .int .i64 F.h, .slice Ab nb cb, .slice Bb mb db] 24))
  replace Xa := hide (Xa.out.more (.cells #[.int .i64 F.K, .int .i64 F.h, .slice Ab nb cb, .slice Bb mb db] 24))
  have Xb := hide (Bk.born w4 24 #[.int .i64 F.K, .int .i64 F.h, .slice Ab nb cb, .slice Bb mb db])
  obtain ⟨x0, x1, x2, x3, _⟩ := Xa.out.four
  obtain ⟨y0, y1, y2, y3, _⟩ := Xb.out.four
  go_wp2_with fail
  refine (Same_yes F.K F.h _ nb _ F.cs _ mb _ F.ds _ _ _ _ _ ⟨Ra.out, Sa.out⟩ ⟨Rb.out, Sb.out⟩).mono ?_
  rintro e w6 ⟨rfl, b6⟩
  have B6 := hide (B5.out.trans (b6.mono B5.out.size))
  have K6 := hide (K5.out.keep b6 K5.out.in_)
  replace Ra := hide (Ra.out.below b6 (Nat.le_refl _))
  replace Sa := hide (Sa.out.below b6 (Nat.le_refl _))
  replace Rb := hide (Rb.out.below b6 (Nat.le_refl _))
  replace Sb := hide (Sb.out.below b6 (Nat.le_refl _))
  replace Xa := hide (Xa.out.keep b6 Xa.out.in_)
  replace Xb := hide (Xb.out.keep b6 Xb.out.in_)
  clear b6
  clear x0 x1 x2 x3 y0 y1 y2 y3
  obtain ⟨k0, k1, k2, k3, _⟩ := K6.out.four
  go_wp2_with fail
  refine (Least_any K h _ n c cs _ n' c' ds _ (HT.out.below B6.out (Nat.le_refl _))).mono ?_
  rintro e w7 ⟨rfl, b7⟩
  have B7 := hide (B6.out.trans (b7.mono B6.out.size))
  have K7 := hide (K6.out.keep b7 K6.out.in_)
  replace Ra := hide (Ra.out.below b7 (Nat.le_refl _))
  replace Sa := hide (Sa.out.below b7 (Nat.le_refl _))
  replace Rb := hide (Rb.out.below b7 (Nat.le_refl _))
  replace Sb := hide (Sb.out.below b7 (Nat.le_refl _))
  replace Xa := hide (Xa.out.keep b7 Xa.out.in_)
  replace Xb := hide (Xb.out.keep b7 Xb.out.in_)
  clear b7
  clear k0 k1 k2 k3
  obtain ⟨x0, x1, x2, x3, _⟩ := Xa.out.four
  go_wp2_with fail
  refine (Least_any F.K F.h _ nb _ F.cs _ mb _ F.ds _ ⟨Ra.out, Sa.out⟩).mono ?_
  rintro e w8 ⟨rfl, b8⟩
  have B8 := hide (B7.out.trans (b8.mono B7.out.size))
  have K8 := hide (K7.out.keep b8 K7.out.in_)
  replace Ra := hide (Ra.out.below b8 (Nat.le_refl _))
  replace Sa := hide (Sa.out.below b8 (Nat.le_refl _))
  replace Rb := hide (Rb.out.below b8 (Nat.le_refl _))
  replace Sb := hide (Sb.out.below b8 (Nat.le_refl _))
  replace Xa := hide (Xa.out.keep b8 Xa.out.in_)
  replace Xb := hide (Xb.out.keep b8 Xb.out.in_)
  clear b8
  clear x0 x1 x2 x3
  obtain ⟨k0, k1, k2, k3, _⟩ := K8.out.four
  by_cases he : F.er = 0
  case neg =>
    have he' : (F.er != 0) = true := by simpa using he
    go_wp2_with fail
    refine (known_any _).mono ?_
    rintro e wz ⟨rfl, bz⟩
    go_wp2_with fail
    go_ret
    exact ⟨rfl, B8.out.trans (bz.mono B8.out.size)⟩
  obtain ⟨ds', o1, o2, hl, hup, hdn, e3⟩ := HFe.out he
  clear HFe HFe0
  subst e3
  simp only at *
  rw [errT_ok o1, errT_ok o2, okv_zero rfl, okv_zero rfl, hl]
  have H1 := hide (fun (q : 0 ≤ by') => f_need o1 hl o2 (hup q))
  have H2 := hide (fun (q : by' ≤ 0) => by have := f_need o2 hl.symm o1 (fun i hi => hdn q i (by omega)); rw [hl] at this; exact this)
  clear o1 o2 he hup hdn
  generalize (tk K h cs ds).f ds.length = f1 at *
  generalize (tk K h cs ds').f ds.length = f2 at *
  by_cases c1 : by' < 0
  · have g1 := H2.out (by omega)
    go_wp2_with fail
    refine (known_any _).mono ?_
    rintro e wz ⟨rfl, bz⟩
    go_wp2_with fail
    go_ret
    exact ⟨rfl, B8.out.trans (bz.mono B8.out.size)⟩
  · have g2 := H1.out (by omega)
    by_cases c2 : 0 < by'
    · skip
      go_wp2_with fail
      refine (known_any _).mono ?_
      rintro e wz ⟨rfl, bz⟩
      go_wp2_with fail
      go_ret
      exact ⟨rfl, B8.out.trans (bz.mono B8.out.size)⟩
    · have g1 := H2.out (by omega)
      go_wp2_with fail
      refine (known_any _).mono ?_
      rintro e wz ⟨rfl, bz⟩
      go_wp2_with fail
      go_ret
      exact ⟨rfl, B8.out.trans (bz.mono B8.out.size)⟩

end Go.Proofs.Ytlndjjdggedljaa

/- MathF -/
namespace Go.Proofs.Ytlndjjdggedljaa

/-- The needs, the first k of them multiplied. -/
def mulTo (ds : List Int) (s : Int) (k : Nat) : List Int := (List.range ds.length).map fun i => if i < k then ds.getD i 0 * s else ds.getD i 0
theorem mulTo_len (ds : List Int) (s : Int) (k : Nat) : (mulTo ds s k).length = ds.length := by simp [mulTo]
theorem mulTo_get {ds : List Int} {s : Int} {k i : Nat} (h : i < ds.length) : (mulTo ds s k).getD i 0 = if i < k then ds.getD i 0 * s else ds.getD i 0 := by
  simp [mulTo, List.getD_eq_getElem?_getD, h]
theorem mulTo_zero (ds : List Int) (s : Int) : mulTo ds s 0 = ds := by
  apply list_ext_getD (mulTo_len _ _ _)
  intro j hj
  rw [mulTo_len] at hj
  rw [mulTo_get hj, if_neg (by omega)]
theorem mulTo_next {ds : List Int} {s : Int} {k : Nat} {x : Int} (h : k < ds.length) (hx : ds.getD k 0 * s = x) : (mulTo ds s k).set k x = mulTo ds s (k + 1) := by
  apply list_ext_getD (by simp [mulTo])
  intro j hj
  have hj' : j < ds.length := by simpa [mulTo] using hj
  rw [mulTo_get hj']
  by_cases e : k = j
  · subst e
    rw [getD_set_eq (by simp [mulTo]; exact h), if_pos (by omega)]
    exact hx.symm
  · rw [getD_set_ne e, mulTo_get hj']
    by_cases g : j < k
    · rw [if_pos g, if_pos (by omega)]
    · rw [if_neg g, if_neg (by omega)]
/-- All needs multiplied. -/
def mulL (ds : List Int) (s : Int) : List Int := mulTo ds s ds.length
theorem mulL_len (ds : List Int) (s : Int) : (mulL ds s).length = ds.length := mulTo_len _ _ _
theorem mulL_get {ds : List Int} {s : Int} {i : Nat} (h : i < ds.length) : (mulL ds s).getD i 0 = ds.getD i 0 * s := by unfold mulL; rw [mulTo_get h, if_pos h]
/-- Nothing is needed, and a start costs nothing. -/
def Idle (K : Int) (ds : List Int) : Prop := K = 0 ∧ ∀ i, i < ds.length → ds.getD i 0 = 0
theorem idle_mul {K : Int} {ds : List Int} (i : Idle K ds) (s : Int) : K * s = K ∧ mulL ds s = ds := by
  refine ⟨by rw [i.1, Int.zero_mul], ?_⟩
  apply list_ext_getD (mulL_len _ _)
  intro j hj
  rw [mulL_len] at hj
  rw [mulL_get hj, i.2 j hj, Int.zero_mul]
theorem big_idle {K h s : Int} {cs ds : List Int} (o : OkT K h cs ds) (hs : s < 0 ∨ 999 < s) (o' : OkT (K * s) h cs (mulL ds s)) : Idle K ds := by
  refine ⟨?_, fun i hi => ?_⟩
  · have a := o'.K0
    have b := o'.K1
    have k0 := o.K0
    by_cases e : K = 0
    · exact e
    · exfalso
      rcases hs with hs | hs
      · have : K * s < 0 := Int.mul_neg_of_pos_of_neg (by omega) hs
        omega
      · have : 1 * s ≤ K * s := Int.mul_le_mul_of_nonneg_right (by omega) (by omega)
        omega
  · have d0 := (o.d.2 i hi).1
    have a := o'.d.2 i (by rw [mulL_len]; exact hi)
    rw [mulL_get hi] at a
    by_cases e : ds.getD i 0 = 0
    · exact e
    · exfalso
      rcases hs with hs | hs
      · have : ds.getD i 0 * s < 0 := Int.mul_neg_of_pos_of_neg (by omega) hs
        omega
      · have : 1 * s ≤ ds.getD i 0 * s := Int.mul_le_mul_of_nonneg_right (by omega) (by omega)
        omega
/-- The number that is used in place of another one, on both sides. -/
def clP (b : Int) : Int := if b < -1 then -1 else if 1000 < b then 1000 else b
def clR (b : Int) : Int := if b < -2000 then -2000 else if 2000 < b then 2000 else b
theorem clP_in (b : Int) : -1 ≤ clP b ∧ clP b ≤ 1000 := by
  unfold clP
  repeat' split
  all_goals omega
theorem clR_in (b : Int) : -2000 ≤ clR b ∧ clR b ≤ 2000 := by
  unfold clR
  repeat' split
  all_goals omega
theorem cl_same (b : Int) : (clP b = b ∧ clR b = b ∧ 0 ≤ b ∧ b ≤ 999) ∨ ((clP b < 0 ∨ 999 < clP b) ∧ (clR b < 0 ∨ 999 < clR b)) := by
  unfold clP clR
  repeat' split
  all_goals omega
theorem told_same {K h : Int} {cs ds : List Int} (o : OkT K h cs ds) (b : Int) : toldF (K * clP b) h cs (mulL ds (clP b)) = toldF (K * clR b) h cs (mulL ds (clR b)) := by
  rcases cl_same b with ⟨e1, e2, _⟩ | ⟨h1, h2⟩
  · rw [e1, e2]
  · by_cases i : Idle K ds
    · rw [(idle_mul i _).1, (idle_mul i _).2, (idle_mul i _).1, (idle_mul i _).2]
    · rw [toldF_no fun o' => i (big_idle o h1 o'), toldF_no fun o' => i (big_idle o h2 o')]
/-- The task with its start and all needs multiplied. -/
def scaleF (K h : Int) (cs ds : List Int) (b : Int) : Four := if OkT K h cs ds then toldF (K * clP b) h cs (mulL ds (clP b)) else Four.none_ 1
theorem scaleF_task {K h : Int} {cs ds : List Int} {b : Int} (o : ¬ OkT K h cs ds) : scaleF K h cs ds b = Four.none_ 1 := by unfold scaleF; rw [if_neg o]
theorem scaleF_ok {K h : Int} {cs ds : List Int} {b : Int} (o : OkT K h cs ds) : scaleF K h cs ds b = toldF (K * clP b) h cs (mulL ds (clP b)) := by unfold scaleF; rw [if_pos o]
theorem scaleF_okR {K h : Int} {cs ds : List Int} {b : Int} (o : OkT K h cs ds) : scaleF K h cs ds b = toldF (K * clR b) h cs (mulL ds (clR b)) := by rw [scaleF_ok o, told_same o]
theorem f_idle {K h : Int} {cs ds : List Int} (i : Idle K ds) (n : Nat) (hn : n ≤ ds.length) : (tk K h cs ds).f n = 0 := by
  have z : ∀ l m, m ≤ ds.length → (tk K h cs ds).units l m = 0 := fun l m hm => sm_none fun j _ hj => i.2 j (by omega)
  induction n using Nat.strongRecOn with
  | ind n ih =>
    by_cases h0 : n = 0
    · subst h0; exact Tk.f_zero _
    · obtain ⟨e1, e2, _⟩ := (tk K h cs ds).f_eq (n := n) (by omega)
      rw [e1, ih _ e2 (by omega)]
      unfold Tk.tog
      rw [if_pos (z _ _ hn)]
      rfl
theorem f_scale {K h s : Int} {cs ds : List Int} (o : OkT K h cs ds) (hs : 0 ≤ s) : ∀ {m : Nat}, m ≤ ds.length → (tk (K * s) h cs (mulL ds s)).f m = (tk K h cs ds).f m * s := by
  have ok := o.tk
  have tg : ∀ l m, m ≤ ds.length → (tk (K * s) h cs (mulL ds s)).tog l m = (tk K h cs ds).tog l m * s := by
    intro l m hm
    have u : (tk (K * s) h cs (mulL ds s)).units l m = s * (tk K h cs ds).units l m := by
      unfold Tk.units
      rw [← sm_mul]
      exact sm_congr fun i _ hi => (mulL_get (by omega)).trans (Int.mul_comm _ _)
    have v : (tk (K * s) h cs (mulL ds s)).save l m = s * (tk K h cs ds).save l m := by
      unfold Tk.save
      rw [← sm_mul]
      refine sm_congr fun i _ hi => ?_
      show (mulL ds s).getD i 0 * _ = s * (ds.getD i 0 * _)
      rw [mulL_get (by omega), Int.mul_comm (ds.getD i 0) s, Int.mul_assoc]
      rfl
    by_cases e : (tk K h cs ds).units l m = 0
    · have z : (tk (K * s) h cs (mulL ds s)).units l m = 0 := by rw [u, e, Int.mul_zero]
      unfold Tk.tog
      rw [if_pos z, if_pos e, Int.zero_mul]
    · by_cases s0 : s = 0
      · subst s0
        have z : (tk (K * 0) h cs (mulL ds 0)).units l m = 0 := by rw [u, Int.zero_mul]
        unfold Tk.tog
        rw [if_pos z, Int.mul_zero]
      · have z : ¬ (tk (K * s) h cs (mulL ds s)).units l m = 0 := by
          rw [u]
          intro hz
          rcases Int.mul_eq_zero.1 hz with q | q
          · exact s0 q
          · exact e q
        rw [Tk.tog_pos z, Tk.tog_pos e, v, Int.add_mul, Int.mul_comm s]
        rfl
  intro m
  induction m using Nat.strongRecOn with
  | ind m ih =>
    intro hm
    by_cases h0 : m = 0
    · subst h0; rw [Tk.f_zero, Tk.f_zero, Int.zero_mul]
    · obtain ⟨a1, a2, a3⟩ := (tk K h cs ds).f_eq (n := m) (by omega)
      obtain ⟨b1, b2, b3⟩ := (tk (K * s) h cs (mulL ds s)).f_eq (n := m) (by omega)
      have c1 := b3 _ a2
      have c2 := a3 _ b2
      rw [ih _ a2 (by omega), tg _ _ hm, ← Int.add_mul, ← a1] at c1
      rw [ih _ b2 (by omega), tg _ _ hm, ← Int.add_mul] at b1
      have c3 := Int.mul_le_mul_of_nonneg_right c2 hs
      omega
theorem scaleF_er {K h : Int} {cs ds : List Int} {b : Int} (e : (scaleF K h cs ds b).er = 0) :
    ∃ K' ds', OkT K h cs ds ∧ OkT K' h cs ds' ∧ ds'.length = ds.length ∧ scaleF K h cs ds b = ⟨K', h, cs, ds', 0⟩ ∧
      ((0 ≤ b ∧ b ≤ 2000 ∧ (tk K' h cs ds').f ds.length = (tk K h cs ds).f ds.length * b) ∨ ((tk K h cs ds).f ds.length = 0 ∧ (tk K' h cs ds').f ds.length = 0)) := by
  by_cases o : OkT K h cs ds
  · by_cases o2 : OkT (K * clP b) h cs (mulL ds (clP b))
    · refine ⟨_, _, o, o2, mulL_len _ _, (scaleF_ok o).trans (toldF_ok o2), ?_⟩
      rcases cl_same b with ⟨e1, _, h0, h1⟩ | ⟨h1, _⟩
      · left
        rw [e1]
        exact ⟨h0, by omega, f_scale o h0 (Nat.le_refl _)⟩
      · right
        have i := big_idle o h1 o2
        rw [(idle_mul i _).1, (idle_mul i _).2]
        exact ⟨f_idle i _ (Nat.le_refl _), f_idle i _ (Nat.le_refl _)⟩
    · rw [scaleF_ok o, toldF_no o2] at e
      cases e
  · rw [scaleF_task o] at e
    cases e

end Go.Proofs.Ytlndjjdggedljaa

/- WalkSc -/
namespace Go.Proofs.Ytlndjjdggedljaa
open Go.RowKit

theorem Bk.put0 {w : World} {g : Nat} {t : TypeId} {x y z u : Value} (h : Bk w g t #[x, y, z, u]) (x' : Value) : Bk (w.setCell ⟨g, 0, none⟩ x') g t #[x', y, z, u] := h.put 0 x'
set_option maxHeartbeats 4000000 in
theorem Scale_any (K h : Int) (A : Option Addr) (n c : Nat) (cs : List Int) (A' : Option Addr) (n' c' : Nat) (ds : List Int) (b : Int) (w : World) (hT : Tin w A n c cs A' n' c' ds) :
    Calls Try.prog 47 #[.agg #[.int .i64 K, .int .i64 h, .slice A n c, .slice A' n' c'], .int .i64 b] w (FourPost (scaleF K h cs ds b) w) := by
  have HT := hide hT
  have L1 := hT.1.length
  have L2 := hT.2.length
  have B0 := hide ((Below.refl w.heap.size w).alloc (Nat.le_refl _) (.cells #[.int .i64 K, .int .i64 h, .slice A n c, .slice A' n' c'] 24))
  have K0 := hide (Bk.born w 24 #[.int .i64 K, .int .i64 h, .slice A n c, .slice A' n' c'])
  have R0 := hide (Bk.bornAt (w := w.alloc (.cells #[.int .i64 K, .int .i64 h, .slice A n c, .slice A' n' c'] 24)) (g := w.heap.size + 1) (t := 24) (cs := #[.int .i64 0, .int .i64 0, .slice none 0 0, .slice none 0 0]) (by simp))
  replace K0 := hide (K0.out.more (.cells #[.int .i64 0, .int .i64 0, .slice none 0 0, .slice none 0 0] 24))
  replace B0 := hide (B0.out.alloc (by simp) (.cells #[.int .i64 0, .int .i64 0, .slice none 0 0, .slice none 0 0] 24))
  clear hT
  by_cases he : errT K h cs ds = 0
  case neg =>
    have HV := hide (scaleF_task (b := b) (not_okT he))
    have HE := hide (errT_ne he)
    clear he
    go_enter Try.func47, Try.ntmps47
    go_wp2_with fail
    refine (Validate_any K h _ n c cs _ n' c' ds _ (HT.out.below B0.out (Nat.le_refl _))).mono ?_
    rw [HE.out]
    rintro e w1 ⟨rfl, b1⟩
    have B1 := hide (B0.out.trans (b1.mono B0.out.size))
    have R1 := hide (R0.out.keep b1 R0.out.in_)
    clear b1
    obtain ⟨r0, r1, r2, r3, _⟩ := R1.out.four
    have f0 := R1.out.fr 0
    have f1 := R1.out.fr 1
    have f2 := R1.out.fr 2
    have f3 := R1.out.fr 3
    obtain ⟨z0, z1, z2, z3, _⟩ := (R1.out.set4 (.int .i64 0) (.int .i64 0) (.slice none 0 0) (.slice none 0 0)).four
    go_wp2_with fail
    refine bodyPost_ret (v := .tuple #[.agg #[.int .i64 0, .int .i64 0, .slice none 0 0, .slice none 0 0], .int .i64 1]) ?_ rfl (by rw [HV.out]; exact ⟨_, _, _, _, _, _, rfl, Own.nil _ _, Own.nil _ _, below_set4 B1.out (by omega) _ _ _ _⟩)
    simp [results, Try.results47, go_sem, z0, z1, z2, z3]
  have o := errT_zero he
  have hn1 : 1 ≤ n' := by have := o.n1; omega
  have hn2 : n' ≤ 12 := by have := o.n2; omega
  obtain rfl : n = n' := by have := o.c.1; omega
  have OT := hide o
  have LN := hide L2
  have HE := hide he
  clear o he
  have HSF := hide (scaleF_ok (b := b) OT.out)
  have kk0 := OT.out.K0
  have kk1 := OT.out.K1
  by_cases c0 : b ≤ -1
  case pos =>
    have hcl : clP b = (-1) := by unfold clP; (repeat' split) <;> omega
    rw [hcl, show K * (-1) = (-K) by omega] at HSF
    clear hcl
    go_enter Try.func47, Try.ntmps47
    go_wp2_with fail
    refine (Validate_any K h _ n c cs _ n c' ds _ (HT.out.below B0.out (Nat.le_refl _))).mono ?_
    rw [HE.out]
    rintro e w1 ⟨rfl, b1⟩
    have B1 := hide (B0.out.trans (b1.mono B0.out.size))
    have K1 := hide (K0.out.keep b1 K0.out.in_)
    have R1 := hide (R0.out.keep b1 R0.out.in_)
    clear b1
    obtain ⟨k0, k1, k2, k3, _⟩ := K1.out.four
    go_wp2_with fail
    refine (copied_any K h _ n c cs _ n c' ds _ (HT.out.below B1.out (Nat.le_refl _)) (by omega) (by omega) (by omega) (by omega)).mono ?_
    rintro e w2 ⟨A2, n2, c2, A3, n3, c3, rfl, o2, o3, b2, dj⟩
    obtain rfl : n2 = n := by have := o2.len; omega
    obtain rfl : n3 = n2 := by have := o3.len; omega
    have B2 := hide (B1.out.trans (b2.mono B1.out.size))
    have K2 := hide (K1.out.keep b2 K1.out.in_)
    have R2 := hide (R1.out.keep b2 R1.out.in_)
    have P2 := hide (o2.more (B' := w.heap.size + 2) R1.out.in_)
    have Q2 := hide (o3.more (B' := w.heap.size + 2) R1.out.in_)
    have DJ := hide dj
    clear b2 o2 o3 k0 k1 k2 k3 dj
    obtain ⟨g3, rfl, hg3⟩ : ∃ g3, A3 = some ⟨g3, 0, none⟩ ∧ w.heap.size + 2 ≤ g3 := by
      rcases Q2.out.form with ⟨_, h0, _⟩ | ⟨g, e, hg, _⟩
      · omega
      · exact ⟨g, e, hg⟩
    have hap : (Value.slice A2 n3 c2).ownBlock ≠ some g3 := by
      rcases P2.out.form with ⟨_, h0, _⟩ | ⟨g, e, hg, _⟩
      · omega
      · subst e
        have := DJ.out g rfl
        simp [Value.ownBlock]
        intro hh
        subst hh
        exact this rfl
    have wk : IntKind.i64.wrap (-K) = (-K) := IntWalk.i64_in _ (by omega)
    have K3 := hide (Bk.put0 (K2.out.set4 (.int .i64 K) (.int .i64 h) (.slice A2 n3 c2) (.slice (some ⟨g3, 0, none⟩) n3 c3)) (.int .i64 (-K)))
    have P3 := hide ((P2.out.set4 (g := w.heap.size) (by omega) (.int .i64 K) (.int .i64 h) (.slice A2 n3 c2) (.slice (some ⟨g3, 0, none⟩) n3 c3)).set_apart (g := w.heap.size) (by omega) 0 (.int .i64 (-K)))
    have Q3 := hide ((Q2.out.set4 (g := w.heap.size) (by omega) (.int .i64 K) (.int .i64 h) (.slice A2 n3 c2) (.slice (some ⟨g3, 0, none⟩) n3 c3)).set_apart (g := w.heap.size) (by omega) 0 (.int .i64 (-K)))
    have R3 := hide ((R2.out.apart4 (b := w.heap.size) (by omega) (.int .i64 K) (.int .i64 h) (.slice A2 n3 c2) (.slice (some ⟨g3, 0, none⟩) n3 c3)).apart (p := ⟨w.heap.size, 0, none⟩) (by simp) (.int .i64 (-K)))
    have B3 := hide ((below_set4 (g := w.heap.size) B2.out (Nat.le_refl _) (.int .i64 K) (.int .i64 h) (.slice A2 n3 c2) (.slice (some ⟨g3, 0, none⟩) n3 c3)).setCell (p := ⟨w.heap.size, 0, none⟩) (Nat.le_refl _) (.int .i64 (-K)))
    obtain ⟨k0, k1, k2, k3, _⟩ := K2.out.four
    have f0 := K2.out.fr 0
    have f1 := K2.out.fr 1
    have f2 := K2.out.fr 2
    have f3 := K2.out.fr 3
    obtain ⟨y0, y1, y2, y3, _⟩ := (K2.out.set4 (.int .i64 K) (.int .i64 h) (.slice A2 n3 c2) (.slice (some ⟨g3, 0, none⟩) n3 c3)).four
    obtain ⟨z0, z1, z2, z3, _⟩ := K3.out.four
    go_wp2_with fail
    clear f0 f1 f2 f3 k0 k1 k2 k3 y0 y1 y2 y3 z0 z1 z2 z3 wk
    go_loopw [27] (fun i wr => ∃ k : Nat, k ≤ n3 ∧ i = .int .i64 k ∧ Bk wr w.heap.size 24 #[.int .i64 (-K), .int .i64 h, .slice A2 n3 c2, .slice (some ⟨g3, 0, none⟩) n3 c3] ∧ Bk wr (w.heap.size + 1) 24 #[.int .i64 0, .int .i64 0, .slice none 0 0, .slice none 0 0] ∧ Own wr (w.heap.size + 2) A2 n3 c2 cs ∧ Own wr (w.heap.size + 2) (some ⟨g3, 0, none⟩) n3 c3 (mulTo ds (-1) k) ∧ Below w.heap.size w wr) (fun i _ => n3 - (intOf i).toNat)
    case atStart => exact ⟨0, by omega, rfl, K3.out, R3.out, P3.out, by rw [mulTo_zero]; exact Q3.out, B3.out⟩
    case round =>
      obtain ⟨k, hk, rfl, kb, rb, pb, qb, bb⟩ := hrel
      have KB := hide kb
      have RB := hide rb
      have PB := hide pb
      have QB := hide qb
      have BB := hide bb
      clear kb rb pb qb bb
      obtain ⟨k0, k1, k2, k3, _⟩ := KB.out.four
      by_cases hlt : k < n3
      · have cx := QB.out.cell hlt
        rw [mulTo_get (by rw [LN.out]; exact hlt), if_neg (Nat.lt_irrefl k)] at cx
        have fz := QB.out.frozen k
        have x0 := (OT.out.d.2 k (by rw [LN.out]; exact hlt)).1
        have x1 := (OT.out.d.2 k (by rw [LN.out]; exact hlt)).2
        have HS := hide (fun x hx => mulTo_next (ds := ds) (s := (-1)) (k := k) (x := x) (by rw [LN.out]; exact hlt) hx)
        generalize ds.getD k 0 = x at *
        have wx : IntKind.i64.wrap (-x) = (-x) := IntWalk.i64_in _ (by omega)
        have l5 : (k : Int) < n3 := by omega
        go_wp2_with fail
        go_roundw
        case rel => exact ⟨k + 1, by omega, by go_num, (KB.out.apart (p := ⟨g3, k, none⟩) (by simp; omega) _), (RB.out.apart (p := ⟨g3, k, none⟩) (by simp; omega) _), (Own.apart (p := ⟨g3, k, none⟩) PB.out hap _), by rw [← HS.out (-x) (by first | rfl | omega)]; exact (QB.out.stored k _), (BB.out.setCell (p := ⟨g3, k, none⟩) (by simp; omega) _)⟩
        case measure => simp [intOf]; omega
      · obtain rfl : k = n3 := by omega
        have Q9 := hide (by have := QB.out; rw [show mulTo ds (-1) k = mulL ds (-1) by unfold mulL; rw [LN.out]] at this; exact this)
        go_wp2_with fail
        refine (checked_any (-K) h _ k c2 cs _ k c3 (mulL ds (-1)) _ ⟨PB.out.row, Q9.out.row⟩).mono ?_
        rintro e w4 ⟨rfl, b4⟩
        have B4 := hide (BB.out.trans (b4.mono BB.out.size))
        have R4 := hide (RB.out.keep b4 RB.out.in_)
        have P4 := hide (PB.out.below b4 (Nat.le_refl _))
        have Q4 := hide (Q9.out.below b4 (Nat.le_refl _))
        clear b4
        by_cases o2 : OkT (-K) h cs (mulL ds (-1))
        · have HV := hide (HSF.out.trans (toldF_ok o2))
          rw [toldV_ok (errT_ok o2)]
          clear o2
          obtain ⟨r0, r1, r2, r3, _⟩ := R4.out.four
          have f0 := R4.out.fr 0
          have f1 := R4.out.fr 1
          have f2 := R4.out.fr 2
          have f3 := R4.out.fr 3
          obtain ⟨z0, z1, z2, z3, _⟩ := (R4.out.set4 (.int .i64 (-K)) (.int .i64 h) (.slice A2 k c2) (.slice (some ⟨g3, 0, none⟩) k c3)).four
          go_wp2_with fail
          refine bodyPost_ret (v := .tuple #[.agg #[.int .i64 (-K), .int .i64 h, .slice A2 k c2, .slice (some ⟨g3, 0, none⟩) k c3], .int .i64 0]) ?_ rfl (by rw [HV.out]; exact ⟨_, _, _, _, _, _, rfl, (P4.out.set4 (by omega) _ _ _ _).more (by omega), (Q4.out.set4 (by omega) _ _ _ _).more (by omega), below_set4 B4.out (by omega) _ _ _ _⟩)
          simp [results, Try.results47, go_sem, z0, z1, z2, z3]
        · have HV := hide (HSF.out.trans (toldF_no o2))
          have e2 := errT_no o2
          rw [toldV_no (by rw [e2]; decide), e2]
          clear o2 e2
          obtain ⟨r0, r1, r2, r3, _⟩ := R4.out.four
          have f0 := R4.out.fr 0
          have f1 := R4.out.fr 1
          have f2 := R4.out.fr 2
          have f3 := R4.out.fr 3
          obtain ⟨z0, z1, z2, z3, _⟩ := (R4.out.set4 (.int .i64 0) (.int .i64 0) (.slice none 0 0) (.slice none 0 0)).four
          go_wp2_with fail
          refine bodyPost_ret (v := .tuple #[.agg #[.int .i64 0, .int .i64 0, .slice none 0 0, .slice none 0 0], .int .i64 1]) ?_ rfl (by rw [HV.out]; exact ⟨_, _, _, _, _, _, rfl, Own.nil _ _, Own.nil _ _, below_set4 B4.out (by omega) _ _ _ _⟩)
          simp [results, Try.results47, go_sem, z0, z1, z2, z3]
  by_cases c1 : 1000 < b
  case pos =>
    have hcl : clP b = 1000 := by unfold clP; (repeat' split) <;> omega
    have d0 : -1 < b := by omega
    clear c0
    rw [hcl] at HSF
    clear hcl
    go_enter Try.func47, Try.ntmps47
    go_wp2_with fail
    refine (Validate_any K h _ n c cs _ n c' ds _ (HT.out.below B0.out (Nat.le_refl _))).mono ?_
    rw [HE.out]
    rintro e w1 ⟨rfl, b1⟩
    have B1 := hide (B0.out.trans (b1.mono B0.out.size))
    have K1 := hide (K0.out.keep b1 K0.out.in_)
    have R1 := hide (R0.out.keep b1 R0.out.in_)
    clear b1
    obtain ⟨k0, k1, k2, k3, _⟩ := K1.out.four
    go_wp2_with fail
    refine (copied_any K h _ n c cs _ n c' ds _ (HT.out.below B1.out (Nat.le_refl _)) (by omega) (by omega) (by omega) (by omega)).mono ?_
    rintro e w2 ⟨A2, n2, c2, A3, n3, c3, rfl, o2, o3, b2, dj⟩
    obtain rfl : n2 = n := by have := o2.len; omega
    obtain rfl : n3 = n2 := by have := o3.len; omega
    have B2 := hide (B1.out.trans (b2.mono B1.out.size))
    have K2 := hide (K1.out.keep b2 K1.out.in_)
    have R2 := hide (R1.out.keep b2 R1.out.in_)
    have P2 := hide (o2.more (B' := w.heap.size + 2) R1.out.in_)
    have Q2 := hide (o3.more (B' := w.heap.size + 2) R1.out.in_)
    have DJ := hide dj
    clear b2 o2 o3 k0 k1 k2 k3 dj
    obtain ⟨g3, rfl, hg3⟩ : ∃ g3, A3 = some ⟨g3, 0, none⟩ ∧ w.heap.size + 2 ≤ g3 := by
      rcases Q2.out.form with ⟨_, h0, _⟩ | ⟨g, e, hg, _⟩
      · omega
      · exact ⟨g, e, hg⟩
    have hap : (Value.slice A2 n3 c2).ownBlock ≠ some g3 := by
      rcases P2.out.form with ⟨_, h0, _⟩ | ⟨g, e, hg, _⟩
      · omega
      · subst e
        have := DJ.out g rfl
        simp [Value.ownBlock]
        intro hh
        subst hh
        exact this rfl
    have wk : IntKind.i64.wrap (K * 1000) = (K * 1000) := IntWalk.i64_in _ (by omega)
    have K3 := hide (Bk.put0 (K2.out.set4 (.int .i64 K) (.int .i64 h) (.slice A2 n3 c2) (.slice (some ⟨g3, 0, none⟩) n3 c3)) (.int .i64 (K * 1000)))
    have P3 := hide ((P2.out.set4 (g := w.heap.size) (by omega) (.int .i64 K) (.int .i64 h) (.slice A2 n3 c2) (.slice (some ⟨g3, 0, none⟩) n3 c3)).set_apart (g := w.heap.size) (by omega) 0 (.int .i64 (K * 1000)))
    have Q3 := hide ((Q2.out.set4 (g := w.heap.size) (by omega) (.int .i64 K) (.int .i64 h) (.slice A2 n3 c2) (.slice (some ⟨g3, 0, none⟩) n3 c3)).set_apart (g := w.heap.size) (by omega) 0 (.int .i64 (K * 1000)))
    have R3 := hide ((R2.out.apart4 (b := w.heap.size) (by omega) (.int .i64 K) (.int .i64 h) (.slice A2 n3 c2) (.slice (some ⟨g3, 0, none⟩) n3 c3)).apart (p := ⟨w.heap.size, 0, none⟩) (by simp) (.int .i64 (K * 1000)))
    have B3 := hide ((below_set4 (g := w.heap.size) B2.out (Nat.le_refl _) (.int .i64 K) (.int .i64 h) (.slice A2 n3 c2) (.slice (some ⟨g3, 0, none⟩) n3 c3)).setCell (p := ⟨w.heap.size, 0, none⟩) (Nat.le_refl _) (.int .i64 (K * 1000)))
    obtain ⟨k0, k1, k2, k3, _⟩ := K2.out.four
    have f0 := K2.out.fr 0
    have f1 := K2.out.fr 1
    have f2 := K2.out.fr 2
    have f3 := K2.out.fr 3
    obtain ⟨y0, y1, y2, y3, _⟩ := (K2.out.set4 (.int .i64 K) (.int .i64 h) (.slice A2 n3 c2) (.slice (some ⟨g3, 0, none⟩) n3 c3)).four
    obtain ⟨z0, z1, z2, z3, _⟩ := K3.out.four
    go_wp2_with fail
    clear f0 f1 f2 f3 k0 k1 k2 k3 y0 y1 y2 y3 z0 z1 z2 z3 wk
    go_loopw [27] (fun i wr => ∃ k : Nat, k ≤ n3 ∧ i = .int .i64 k ∧ Bk wr w.heap.size 24 #[.int .i64 (K * 1000), .int .i64 h, .slice A2 n3 c2, .slice (some ⟨g3, 0, none⟩) n3 c3] ∧ Bk wr (w.heap.size + 1) 24 #[.int .i64 0, .int .i64 0, .slice none 0 0, .slice none 0 0] ∧ Own wr (w.heap.size + 2) A2 n3 c2 cs ∧ Own wr (w.heap.size + 2) (some ⟨g3, 0, none⟩) n3 c3 (mulTo ds 1000 k) ∧ Below w.heap.size w wr) (fun i _ => n3 - (intOf i).toNat)
    case atStart => exact ⟨0, by omega, rfl, K3.out, R3.out, P3.out, by rw [mulTo_zero]; exact Q3.out, B3.out⟩
    case round =>
      obtain ⟨k, hk, rfl, kb, rb, pb, qb, bb⟩ := hrel
      have KB := hide kb
      have RB := hide rb
      have PB := hide pb
      have QB := hide qb
      have BB := hide bb
      clear kb rb pb qb bb
      obtain ⟨k0, k1, k2, k3, _⟩ := KB.out.four
      by_cases hlt : k < n3
      · have cx := QB.out.cell hlt
        rw [mulTo_get (by rw [LN.out]; exact hlt), if_neg (Nat.lt_irrefl k)] at cx
        have fz := QB.out.frozen k
        have x0 := (OT.out.d.2 k (by rw [LN.out]; exact hlt)).1
        have x1 := (OT.out.d.2 k (by rw [LN.out]; exact hlt)).2
        have HS := hide (fun x hx => mulTo_next (ds := ds) (s := 1000) (k := k) (x := x) (by rw [LN.out]; exact hlt) hx)
        generalize ds.getD k 0 = x at *
        have wx : IntKind.i64.wrap (x * 1000) = (x * 1000) := IntWalk.i64_in _ (by omega)
        have l5 : (k : Int) < n3 := by omega
        go_wp2_with fail
        go_roundw
        case rel => exact ⟨k + 1, by omega, by go_num, (KB.out.apart (p := ⟨g3, k, none⟩) (by simp; omega) _), (RB.out.apart (p := ⟨g3, k, none⟩) (by simp; omega) _), (Own.apart (p := ⟨g3, k, none⟩) PB.out hap _), by rw [← HS.out (x * 1000) (by first | rfl | omega)]; exact (QB.out.stored k _), (BB.out.setCell (p := ⟨g3, k, none⟩) (by simp; omega) _)⟩
        case measure => simp [intOf]; omega
      · obtain rfl : k = n3 := by omega
        have Q9 := hide (by have := QB.out; rw [show mulTo ds 1000 k = mulL ds 1000 by unfold mulL; rw [LN.out]] at this; exact this)
        go_wp2_with fail
        refine (checked_any (K * 1000) h _ k c2 cs _ k c3 (mulL ds 1000) _ ⟨PB.out.row, Q9.out.row⟩).mono ?_
        rintro e w4 ⟨rfl, b4⟩
        have B4 := hide (BB.out.trans (b4.mono BB.out.size))
        have R4 := hide (RB.out.keep b4 RB.out.in_)
        have P4 := hide (PB.out.below b4 (Nat.le_refl _))
        have Q4 := hide (Q9.out.below b4 (Nat.le_refl _))
        clear b4
        by_cases o2 : OkT (K * 1000) h cs (mulL ds 1000)
        · have HV := hide (HSF.out.trans (toldF_ok o2))
          rw [toldV_ok (errT_ok o2)]
          clear o2
          obtain ⟨r0, r1, r2, r3, _⟩ := R4.out.four
          have f0 := R4.out.fr 0
          have f1 := R4.out.fr 1
          have f2 := R4.out.fr 2
          have f3 := R4.out.fr 3
          obtain ⟨z0, z1, z2, z3, _⟩ := (R4.out.set4 (.int .i64 (K * 1000)) (.int .i64 h) (.slice A2 k c2) (.slice (some ⟨g3, 0, none⟩) k c3)).four
          go_wp2_with fail
          refine bodyPost_ret (v := .tuple #[.agg #[.int .i64 (K * 1000), .int .i64 h, .slice A2 k c2, .slice (some ⟨g3, 0, none⟩) k c3], .int .i64 0]) ?_ rfl (by rw [HV.out]; exact ⟨_, _, _, _, _, _, rfl, (P4.out.set4 (by omega) _ _ _ _).more (by omega), (Q4.out.set4 (by omega) _ _ _ _).more (by omega), below_set4 B4.out (by omega) _ _ _ _⟩)
          simp [results, Try.results47, go_sem, z0, z1, z2, z3]
        · have HV := hide (HSF.out.trans (toldF_no o2))
          have e2 := errT_no o2
          rw [toldV_no (by rw [e2]; decide), e2]
          clear o2 e2
          obtain ⟨r0, r1, r2, r3, _⟩ := R4.out.four
          have f0 := R4.out.fr 0
          have f1 := R4.out.fr 1
          have f2 := R4.out.fr 2
          have f3 := R4.out.fr 3
          obtain ⟨z0, z1, z2, z3, _⟩ := (R4.out.set4 (.int .i64 0) (.int .i64 0) (.slice none 0 0) (.slice none 0 0)).four
          go_wp2_with fail
          refine bodyPost_ret (v := .tuple #[.agg #[.int .i64 0, .int .i64 0, .slice none 0 0, .slice none 0 0], .int .i64 1]) ?_ rfl (by rw [HV.out]; exact ⟨_, _, _, _, _, _, rfl, Own.nil _ _, Own.nil _ _, below_set4 B4.out (by omega) _ _ _ _⟩)
          simp [results, Try.results47, go_sem, z0, z1, z2, z3]
  have hcl : clP b = b := by unfold clP; (repeat' split) <;> omega
  rw [hcl] at HSF
  have d0 : -1 < b := by omega
  have d1 : b ≤ 1000 := by omega
  clear hcl c0 c1
  go_enter Try.func47, Try.ntmps47
  go_wp2_with fail
  refine (Validate_any K h _ n c cs _ n c' ds _ (HT.out.below B0.out (Nat.le_refl _))).mono ?_
  rw [HE.out]
  rintro e w1 ⟨rfl, b1⟩
  have B1 := hide (B0.out.trans (b1.mono B0.out.size))
  have K1 := hide (K0.out.keep b1 K0.out.in_)
  have R1 := hide (R0.out.keep b1 R0.out.in_)
  clear b1
  obtain ⟨k0, k1, k2, k3, _⟩ := K1.out.four
  go_wp2_with fail
  refine (copied_any K h _ n c cs _ n c' ds _ (HT.out.below B1.out (Nat.le_refl _)) (by omega) (by omega) (by omega) (by omega)).mono ?_
  rintro e w2 ⟨A2, n2, c2, A3, n3, c3, rfl, o2, o3, b2, dj⟩
  obtain rfl : n2 = n := by have := o2.len; omega
  obtain rfl : n3 = n2 := by have := o3.len; omega
  have B2 := hide (B1.out.trans (b2.mono B1.out.size))
  have K2 := hide (K1.out.keep b2 K1.out.in_)
  have R2 := hide (R1.out.keep b2 R1.out.in_)
  have P2 := hide (o2.more (B' := w.heap.size + 2) R1.out.in_)
  have Q2 := hide (o3.more (B' := w.heap.size + 2) R1.out.in_)
  have DJ := hide dj
  clear b2 o2 o3 k0 k1 k2 k3 dj
  obtain ⟨g3, rfl, hg3⟩ : ∃ g3, A3 = some ⟨g3, 0, none⟩ ∧ w.heap.size + 2 ≤ g3 := by
    rcases Q2.out.form with ⟨_, h0, _⟩ | ⟨g, e, hg, _⟩
    · omega
    · exact ⟨g, e, hg⟩
  have hap : (Value.slice A2 n3 c2).ownBlock ≠ some g3 := by
    rcases P2.out.form with ⟨_, h0, _⟩ | ⟨g, e, hg, _⟩
    · omega
    · subst e
      have := DJ.out g rfl
      simp [Value.ownBlock]
      intro hh
      subst hh
      exact this rfl
  have wk : IntKind.i64.wrap (K * b) = (K * b) := IntWalk.i64_in _ ⟨by have := Int.mul_le_mul_of_nonneg_left (c := K) (show -1 ≤ b by omega) kk0; omega, by have := Int.mul_le_mul_of_nonneg_left (c := K) (show b ≤ 1000 by omega) kk0; omega⟩
  have K3 := hide (Bk.put0 (K2.out.set4 (.int .i64 K) (.int .i64 h) (.slice A2 n3 c2) (.slice (some ⟨g3, 0, none⟩) n3 c3)) (.int .i64 (K * b)))
  have P3 := hide ((P2.out.set4 (g := w.heap.size) (by omega) (.int .i64 K) (.int .i64 h) (.slice A2 n3 c2) (.slice (some ⟨g3, 0, none⟩) n3 c3)).set_apart (g := w.heap.size) (by omega) 0 (.int .i64 (K * b)))
  have Q3 := hide ((Q2.out.set4 (g := w.heap.size) (by omega) (.int .i64 K) (.int .i64 h) (.slice A2 n3 c2) (.slice (some ⟨g3, 0, none⟩) n3 c3)).set_apart (g := w.heap.size) (by omega) 0 (.int .i64 (K * b)))
  have R3 := hide ((R2.out.apart4 (b := w.heap.size) (by omega) (.int .i64 K) (.int .i64 h) (.slice A2 n3 c2) (.slice (some ⟨g3, 0, none⟩) n3 c3)).apart (p := ⟨w.heap.size, 0, none⟩) (by simp) (.int .i64 (K * b)))
  have B3 := hide ((below_set4 (g := w.heap.size) B2.out (Nat.le_refl _) (.int .i64 K) (.int .i64 h) (.slice A2 n3 c2) (.slice (some ⟨g3, 0, none⟩) n3 c3)).setCell (p := ⟨w.heap.size, 0, none⟩) (Nat.le_refl _) (.int .i64 (K * b)))
  obtain ⟨k0, k1, k2, k3, _⟩ := K2.out.four
  have f0 := K2.out.fr 0
  have f1 := K2.out.fr 1
  have f2 := K2.out.fr 2
  have f3 := K2.out.fr 3
  obtain ⟨y0, y1, y2, y3, _⟩ := (K2.out.set4 (.int .i64 K) (.int .i64 h) (.slice A2 n3 c2) (.slice (some ⟨g3, 0, none⟩) n3 c3)).four
  obtain ⟨z0, z1, z2, z3, _⟩ := K3.out.four
  go_wp2_with fail
  clear f0 f1 f2 f3 k0 k1 k2 k3 y0 y1 y2 y3 z0 z1 z2 z3 wk
  go_loopw [27] (fun i wr => ∃ k : Nat, k ≤ n3 ∧ i = .int .i64 k ∧ Bk wr w.heap.size 24 #[.int .i64 (K * b), .int .i64 h, .slice A2 n3 c2, .slice (some ⟨g3, 0, none⟩) n3 c3] ∧ Bk wr (w.heap.size + 1) 24 #[.int .i64 0, .int .i64 0, .slice none 0 0, .slice none 0 0] ∧ Own wr (w.heap.size + 2) A2 n3 c2 cs ∧ Own wr (w.heap.size + 2) (some ⟨g3, 0, none⟩) n3 c3 (mulTo ds b k) ∧ Below w.heap.size w wr) (fun i _ => n3 - (intOf i).toNat)
  case atStart => exact ⟨0, by omega, rfl, K3.out, R3.out, P3.out, by rw [mulTo_zero]; exact Q3.out, B3.out⟩
  case round =>
    obtain ⟨k, hk, rfl, kb, rb, pb, qb, bb⟩ := hrel
    have KB := hide kb
    have RB := hide rb
    have PB := hide pb
    have QB := hide qb
    have BB := hide bb
    clear kb rb pb qb bb
    obtain ⟨k0, k1, k2, k3, _⟩ := KB.out.four
    by_cases hlt : k < n3
    · have cx := QB.out.cell hlt
      rw [mulTo_get (by rw [LN.out]; exact hlt), if_neg (Nat.lt_irrefl k)] at cx
      have fz := QB.out.frozen k
      have x0 := (OT.out.d.2 k (by rw [LN.out]; exact hlt)).1
      have x1 := (OT.out.d.2 k (by rw [LN.out]; exact hlt)).2
      have HS := hide (fun x hx => mulTo_next (ds := ds) (s := b) (k := k) (x := x) (by rw [LN.out]; exact hlt) hx)
      generalize ds.getD k 0 = x at *
      have wx : IntKind.i64.wrap (x * b) = (x * b) := IntWalk.i64_in _ ⟨by have := Int.mul_le_mul_of_nonneg_left (c := x) (show -1 ≤ b by omega) x0; omega, by have := Int.mul_le_mul_of_nonneg_left (c := x) (show b ≤ 1000 by omega) x0; omega⟩
      have l5 : (k : Int) < n3 := by omega
      go_wp2_with fail
      go_roundw
      case rel => exact ⟨k + 1, by omega, by go_num, (KB.out.apart (p := ⟨g3, k, none⟩) (by simp; omega) _), (RB.out.apart (p := ⟨g3, k, none⟩) (by simp; omega) _), (Own.apart (p := ⟨g3, k, none⟩) PB.out hap _), by rw [← HS.out (x * b) (by first | rfl | omega)]; exact (QB.out.stored k _), (BB.out.setCell (p := ⟨g3, k, none⟩) (by simp; omega) _)⟩
      case measure => simp [intOf]; omega
    · obtain rfl : k = n3 := by omega
      have Q9 := hide (by have := QB.out; rw [show mulTo ds b k = mulL ds b by unfold mulL; rw [LN.out]] at this; exact this)
      go_wp2_with fail
      refine (checked_any (K * b) h _ k c2 cs _ k c3 (mulL ds b) _ ⟨PB.out.row, Q9.out.row⟩).mono ?_
      rintro e w4 ⟨rfl, b4⟩
      have B4 := hide (BB.out.trans (b4.mono BB.out.size))
      have R4 := hide (RB.out.keep b4 RB.out.in_)
      have P4 := hide (PB.out.below b4 (Nat.le_refl _))
      have Q4 := hide (Q9.out.below b4 (Nat.le_refl _))
      clear b4
      by_cases o2 : OkT (K * b) h cs (mulL ds b)
      · have HV := hide (HSF.out.trans (toldF_ok o2))
        rw [toldV_ok (errT_ok o2)]
        clear o2
        obtain ⟨r0, r1, r2, r3, _⟩ := R4.out.four
        have f0 := R4.out.fr 0
        have f1 := R4.out.fr 1
        have f2 := R4.out.fr 2
        have f3 := R4.out.fr 3
        obtain ⟨z0, z1, z2, z3, _⟩ := (R4.out.set4 (.int .i64 (K * b)) (.int .i64 h) (.slice A2 k c2) (.slice (some ⟨g3, 0, none⟩) k c3)).four
        go_wp2_with fail
        refine bodyPost_ret (v := .tuple #[.agg #[.int .i64 (K * b), .int .i64 h, .slice A2 k c2, .slice (some ⟨g3, 0, none⟩) k c3], .int .i64 0]) ?_ rfl (by rw [HV.out]; exact ⟨_, _, _, _, _, _, rfl, (P4.out.set4 (by omega) _ _ _ _).more (by omega), (Q4.out.set4 (by omega) _ _ _ _).more (by omega), below_set4 B4.out (by omega) _ _ _ _⟩)
        simp [results, Try.results47, go_sem, z0, z1, z2, z3]
      · have HV := hide (HSF.out.trans (toldF_no o2))
        have e2 := errT_no o2
        rw [toldV_no (by rw [e2]; decide), e2]
        clear o2 e2
        obtain ⟨r0, r1, r2, r3, _⟩ := R4.out.four
        have f0 := R4.out.fr 0
        have f1 := R4.out.fr 1
        have f2 := R4.out.fr 2
        have f3 := R4.out.fr 3
        obtain ⟨z0, z1, z2, z3, _⟩ := (R4.out.set4 (.int .i64 0) (.int .i64 0) (.slice none 0 0) (.slice none 0 0)).four
        go_wp2_with fail
        refine bodyPost_ret (v := .tuple #[.agg #[.int .i64 0, .int .i64 0, .slice none 0 0, .slice none 0 0], .int .i64 1]) ?_ rfl (by rw [HV.out]; exact ⟨_, _, _, _, _, _, rfl, Own.nil _ _, Own.nil _ _, below_set4 B4.out (by omega) _ _ _ _⟩)
        simp [results, Try.results47, go_sem, z0, z1, z2, z3]


end Go.Proofs.Ytlndjjdggedljaa
