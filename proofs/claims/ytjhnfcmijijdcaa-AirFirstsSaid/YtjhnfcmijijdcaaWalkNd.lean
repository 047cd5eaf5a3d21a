/- Walks of Need on both sides. -/
import Derived.Test.YtjhnfcmijijdcaaWalkLd
namespace Go.Proofs.Ytjhnfcmijijdcaa
open Go.RowKit

/-- The task with more, or less, of one need. -/
def needF (K h : Int) (cs ds : List Int) (ix b : Int) : Four :=
  if OkT K h cs ds then (if 0 ≤ ix ∧ ix < ds.length then (if -50 ≤ b ∧ b ≤ 50 then toldF K h cs (ds.set ix.toNat (ds.getD ix.toNat 0 + b)) else Four.none_ 1) else Four.none_ 4) else Four.none_ 1
section
variable {K h : Int} {cs ds : List Int} {ix b : Int}
theorem needF_task (o : ¬ OkT K h cs ds) : needF K h cs ds ix b = Four.none_ 1 := by unfold needF; rw [if_neg o]
theorem needF_hour (o : OkT K h cs ds) (e : ¬ (0 ≤ ix ∧ ix < ds.length)) : needF K h cs ds ix b = Four.none_ 4 := by unfold needF; rw [if_pos o, if_neg e]
theorem needF_by (o : OkT K h cs ds) (e : 0 ≤ ix ∧ ix < ds.length) (f : ¬ (-50 ≤ b ∧ b ≤ 50)) : needF K h cs ds ix b = Four.none_ 1 := by unfold needF; rw [if_pos o, if_pos e, if_neg f]
theorem needF_ok (o : OkT K h cs ds) (e : 0 ≤ ix ∧ ix < ds.length) (f : -50 ≤ b ∧ b ≤ 50) : needF K h cs ds ix b = toldF K h cs (ds.set ix.toNat (ds.getD ix.toNat 0 + b)) := by
  unfold needF; rw [if_pos o, if_pos e, if_pos f]
end

set_option maxHeartbeats 4000000 in
theorem Need_any (K h : Int) (A : Option Addr) (n c : Nat) (cs : List Int) (A' : Option Addr) (n' c' : Nat) (ds : List Int) (ix b : Int) (w : World) (hT : Tin w A n c cs A' n' c' ds) :
    Calls Try.prog 51 #[.agg #[.int .i64 K, .int .i64 h, .slice A n c, .slice A' n' c'], .int .i64 ix, .int .i64 b] w (FourPost (needF K h cs ds ix b) w) := by
  have HT := hide hT
  have L1 := hT.1.length
  have L2 := hT.2.length
  have B0 := hide ((Below.refl w.heap.size w).alloc (Nat.le_refl _) (.cells #[.int .i64 K, .int .i64 h, .slice A n c, .slice A' n' c'] 24))
  have K0 := hide (Bk.born w 24 #[.int .i64 K, .int .i64 h, .slice A n c, .slice A' n' c'])
  have R0 := hide (Bk.bornAt (w := w.alloc (.cells #[.int .i64 K, .int .i64 h, .slice A n c, .slice A' n' c'] 24)) (g := w.heap.size + 1) (t := 24) (cs := #[.int .i64 0, .int .i64 0, .slice none 0 0, .slice none 0 0]) (by simp))
  replace K0 := hide (K0.out.more (.cells #[.int .i64 0, .int .i64 0, .slice none 0 0, .slice none 0 0] 24))
  replace B0 := hide (B0.out.alloc (by simp) (.cells #[.int .i64 0, .int .i64 0, .slice none 0 0, .slice none 0 0] 24))
  clear hT
  by_cases he : errT K h cs ds = 0
  case neg =>
    have HV := hide (needF_task (ix := ix) (b := b) (not_okT he))
    have HE := hide (errT_ne he)
    clear he
    go_enter Try.func51, Try.ntmps51
    go_wp2_with fail
    refine (Validate_any K h _ n c cs _ n' c' ds _ (HT.out.below B0.out (Nat.le_refl _))).mono ?_
    rw [HE.out]
    rintro e w1 ⟨rfl, b1⟩
    have B1 := hide (B0.out.trans (b1.mono B0.out.size))
    have R1 := hide (R0.out.keep b1 R0.out.in_)
    clear b1
    obtain ⟨r0, r1, r2, r3, _⟩ := R1.out.four
    have f0 := R1.out.fr 0
    have f1 := R1.out.fr 1
    have f2 := R1.out.fr 2
    have f3 := R1.out.fr 3
    obtain ⟨z0, z1, z2, z3, _⟩ := (R1.out.set4 (.int .i64 0) (.int .i64 0) (.slice none 0 0) (.slice none 0 0)).four
    go_wp2_with fail
    refine bodyPost_ret (v := .tuple #[.agg #[.int .i64 0, .int .i64 0, .slice none 0 0, .slice none 0 0], .int .i64 1]) ?_ rfl (by rw [HV.out]; exact ⟨_, _, _, _, _, _, rfl, Own.nil _ _, Own.nil _ _, below_set4 B1.out (by omega) _ _ _ _⟩)
    simp [results, Try.results51, go_sem, z0, z1, z2, z3]
  have o := errT_zero he
  have hn1 : 1 ≤ n' := by have := o.n1; omega
  have hn2 : n' ≤ 12 := by have := o.n2; omega
  obtain rfl : n = n' := by have := o.c.1; omega
  have OT := hide o
  have LN := hide L2
  have HE := hide he
  clear o he
  by_cases e1 : 0 ≤ ix ∧ ix < ds.length
  case neg =>
    have HV := hide (needF_hour (b := b) OT.out e1)
    rw [L2] at e1
    by_cases e2 : ix < 0
    · clear e1 L1 L2
      go_enter Try.func51, Try.ntmps51
      go_wp2_with fail
      refine (Validate_any K h _ n c cs _ n c' ds _ (HT.out.below B0.out (Nat.le_refl _))).mono ?_
      rw [HE.out]
      rintro e w1 ⟨rfl, b1⟩
      have B1 := hide (B0.out.trans (b1.mono B0.out.size))
      have K1 := hide (K0.out.keep b1 K0.out.in_)
      have R1 := hide (R0.out.keep b1 R0.out.in_)
      clear b1
      obtain ⟨k0, k1, k2, k3, _⟩ := K1.out.four
      obtain ⟨r0, r1, r2, r3, _⟩ := R1.out.four
      have f0 := R1.out.fr 0
      have f1 := R1.out.fr 1
      have f2 := R1.out.fr 2
      have f3 := R1.out.fr 3
      obtain ⟨z0, z1, z2, z3, _⟩ := (R1.out.set4 (.int .i64 0) (.int .i64 0) (.slice none 0 0) (.slice none 0 0)).four
      go_wp2_with fail
      refine bodyPost_ret (v := .tuple #[.agg #[.int .i64 0, .int .i64 0, .slice none 0 0, .slice none 0 0], .int .i64 4]) ?_ rfl (by rw [HV.out]; exact ⟨_, _, _, _, _, _, rfl, Own.nil _ _, Own.nil _ _, below_set4 B1.out (by omega) _ _ _ _⟩)
      simp [results, Try.results51, go_sem, z0, z1, z2, z3]
    · have e3 : (n : Int) ≤ ix := by omega
      clear e1 L1 L2
      go_enter Try.func51, Try.ntmps51
      go_wp2_with fail
      refine (Validate_any K h _ n c cs _ n c' ds _ (HT.out.below B0.out (Nat.le_refl _))).mono ?_
      rw [HE.out]
      rintro e w1 ⟨rfl, b1⟩
      have B1 := hide (B0.out.trans (b1.mono B0.out.size))
      have K1 := hide (K0.out.keep b1 K0.out.in_)
      have R1 := hide (R0.out.keep b1 R0.out.in_)
      clear b1
      obtain ⟨k0, k1, k2, k3, _⟩ := K1.out.four
      obtain ⟨r0, r1, r2, r3, _⟩ := R1.out.four
      have f0 := R1.out.fr 0
      have f1 := R1.out.fr 1
      have f2 := R1.out.fr 2
      have f3 := R1.out.fr 3
      obtain ⟨z0, z1, z2, z3, _⟩ := (R1.out.set4 (.int .i64 0) (.int .i64 0) (.slice none 0 0) (.slice none 0 0)).four
      go_wp2_with fail
      refine bodyPost_ret (v := .tuple #[.agg #[.int .i64 0, .int .i64 0, .slice none 0 0, .slice none 0 0], .int .i64 4]) ?_ rfl (by rw [HV.out]; exact ⟨_, _, _, _, _, _, rfl, Own.nil _ _, Own.nil _ _, below_set4 B1.out (by omega) _ _ _ _⟩)
      simp [results, Try.results51, go_sem, z0, z1, z2, z3]
  by_cases e2 : -50 ≤ b ∧ b ≤ 50
  case neg =>
    have HV := hide (needF_by OT.out e1 e2)
    rw [L2] at e1
    by_cases e3 : b < -50
    · clear e2 L1 L2
      go_enter Try.func51, Try.ntmps51
      go_wp2_with fail
      refine (Validate_any K h _ n c cs _ n c' ds _ (HT.out.below B0.out (Nat.le_refl _))).mono ?_
      rw [HE.out]
      rintro e w1 ⟨rfl, b1⟩
      have B1 := hide (B0.out.trans (b1.mono B0.out.size))
      have K1 := hide (K0.out.keep b1 K0.out.in_)
      have R1 := hide (R0.out.keep b1 R0.out.in_)
      clear b1
      obtain ⟨k0, k1, k2, k3, _⟩ := K1.out.four
      obtain ⟨r0, r1, r2, r3, _⟩ := R1.out.four
      have f0 := R1.out.fr 0
      have f1 := R1.out.fr 1
      have f2 := R1.out.fr 2
      have f3 := R1.out.fr 3
      obtain ⟨z0, z1, z2, z3, _⟩ := (R1.out.set4 (.int .i64 0) (.int .i64 0) (.slice none 0 0) (.slice none 0 0)).four
      go_wp2_with fail
      refine bodyPost_ret (v := .tuple #[.agg #[.int .i64 0, .int .i64 0, .slice none 0 0, .slice none 0 0], .int .i64 1]) ?_ rfl (by rw [HV.out]; exact ⟨_, _, _, _, _, _, rfl, Own.nil _ _, Own.nil _ _, below_set4 B1.out (by omega) _ _ _ _⟩)
      simp [results, Try.results51, go_sem, z0, z1, z2, z3]
    · have e4 : 50 < b := by omega
      clear e2 L1 L2
      go_enter Try.func51, Try.ntmps51
      go_wp2_with fail
      refine (Validate_any K h _ n c cs _ n c' ds _ (HT.out.below B0.out (Nat.le_refl _))).mono ?_
      rw [HE.out]
      rintro e w1 ⟨rfl, b1⟩
      have B1 := hide (B0.out.trans (b1.mono B0.out.size))
      have K1 := hide (K0.out.keep b1 K0.out.in_)
      have R1 := hide (R0.out.keep b1 R0.out.in_)
      clear b1
      obtain ⟨k0, k1, k2, k3, _⟩ := K1.out.four
      obtain ⟨r0, r1, r2, r3, _⟩ := R1.out.four
      have f0 := R1.out.fr 0
      have f1 := R1.out.fr 1
      have f2 := R1.out.fr 2
      have f3 := R1.out.fr 3
      obtain ⟨z0, z1, z2, z3, _⟩ := (R1.out.set4 (.int .i64 0) (.int .i64 0) (.slice none 0 0) (.slice none 0 0)).four
      go_wp2_with fail
      refine bodyPost_ret (v := .tuple #[.agg #[.int .i64 0, .int .i64 0, .slice none 0 0, .slice none 0 0], .int .i64 1]) ?_ rfl (by rw [HV.out]; exact ⟨_, _, _, _, _, _, rfl, Own.nil _ _, Own.nil _ _, below_set4 B1.out (by omega) _ _ _ _⟩)
      simp [results, Try.results51, go_sem, z0, z1, z2, z3]
  obtain ⟨i, rfl⟩ : ∃ i : Nat, ix = (i : Int) := ⟨ix.toNat, by omega⟩
  have hin : i < n := by omega
  have HNF := hide (needF_ok OT.out e1 e2)
  have x0 := (OT.out.d.2 i (by omega)).1
  have x1 := (OT.out.d.2 i (by omega)).2
  clear e1
  go_enter Try.func51, Try.ntmps51
  go_wp2_with fail
  refine (Validate_any K h _ n c cs _ n c' ds _ (HT.out.below B0.out (Nat.le_refl _))).mono ?_
  rw [HE.out]
  rintro e w1 ⟨rfl, b1⟩
  have B1 := hide (B0.out.trans (b1.mono B0.out.size))
  have K1 := hide (K0.out.keep b1 K0.out.in_)
  have R1 := hide (R0.out.keep b1 R0.out.in_)
  clear b1
  obtain ⟨k0, k1, k2, k3, _⟩ := K1.out.four
  go_wp2_with fail
  refine (copied_any K h _ n c cs _ n c' ds _ (HT.out.below B1.out (Nat.le_refl _)) (by omega) (by omega) (by omega) (by omega)).mono ?_
  rintro e w2 ⟨A2, n2, c2, A3, n3, c3, rfl, o2, o3, b2, dj⟩
  obtain rfl : n2 = n := by have := o2.len; omega
  obtain rfl : n3 = n2 := by have := o3.len; omega
  have B2 := hide (B1.out.trans (b2.mono B1.out.size))
  have K2 := hide (K1.out.keep b2 K1.out.in_)
  have R2 := hide (R1.out.keep b2 R1.out.in_)
  have P2 := hide (o2.more (B' := w.heap.size + 2) R1.out.in_)
  have Q2 := hide (o3.more (B' := w.heap.size + 2) R1.out.in_)
  have DJ := hide dj
  clear b2 o2 o3 k0 k1 k2 k3 dj
  obtain ⟨g3, rfl, hg3⟩ : ∃ g3, A3 = some ⟨g3, 0, none⟩ ∧ w.heap.size + 2 ≤ g3 := by
    rcases Q2.out.form with ⟨_, h0, _⟩ | ⟨g, e, hg, _⟩
    · omega
    · exact ⟨g, e, hg⟩
  have hap : (Value.slice A2 n3 c2).ownBlock ≠ some g3 := by
    rcases P2.out.form with ⟨_, h0, _⟩ | ⟨g, e, hg, _⟩
    · omega
    · subst e
      have := DJ.out g rfl
      simp [Value.ownBlock]
      intro hh
      subst hh
      exact this rfl
  have Q2' := hide (Q2.out.set4 (g := w.heap.size) (by omega) (.int .i64 K) (.int .i64 h) (.slice A2 n3 c2) (.slice (some ⟨g3, 0, none⟩) n3 c3))
  have cx := Q2'.out.cell hin
  have fz := Q2'.out.frozen i
  have HX := hide (show ds.getD (i : Int).toNat 0 = ds.getD i 0 by rw [Int.toNat_natCast])
  have HI := hide (Int.toNat_natCast i)
  rw [HX.out, HI.out] at HNF
  generalize ds.getD i 0 = x at *
  have wx : IntKind.i64.wrap (x + b) = x + b := IntWalk.i64_in _ (by omega)
  have l5 : (i : Int) < n3 := by omega
  have K3 := hide ((K2.out.set4 (.int .i64 K) (.int .i64 h) (.slice A2 n3 c2) (.slice (some ⟨g3, 0, none⟩) n3 c3)).apart (p := ⟨g3, i, none⟩) (by simp; omega) (.int .i64 (x + b)))
  have P3 := hide (Own.apart (p := ⟨g3, i, none⟩) (P2.out.set4 (g := w.heap.size) (by omega) (.int .i64 K) (.int .i64 h) (.slice A2 n3 c2) (.slice (some ⟨g3, 0, none⟩) n3 c3)) hap (.int .i64 (x + b)))
  have Q3 := hide (Q2'.out.stored i (x + b))
  have R3 := hide ((R2.out.apart4 (b := w.heap.size) (by omega) (.int .i64 K) (.int .i64 h) (.slice A2 n3 c2) (.slice (some ⟨g3, 0, none⟩) n3 c3)).apart (p := ⟨g3, i, none⟩) (by simp; omega) (.int .i64 (x + b)))
  have B3 := hide ((below_set4 (g := w.heap.size) B2.out (Nat.le_refl _) (.int .i64 K) (.int .i64 h) (.slice A2 n3 c2) (.slice (some ⟨g3, 0, none⟩) n3 c3)).setCell (p := ⟨g3, i, none⟩) (by simp; omega) (.int .i64 (x + b)))
  obtain ⟨k0, k1, k2, k3, _⟩ := K2.out.four
  have f0 := K2.out.fr 0
  have f1 := K2.out.fr 1
  have f2 := K2.out.fr 2
  have f3 := K2.out.fr 3
  obtain ⟨y0, y1, y2, y3, _⟩ := (K2.out.set4 (.int .i64 K) (.int .i64 h) (.slice A2 n3 c2) (.slice (some ⟨g3, 0, none⟩) n3 c3)).four
  obtain ⟨z0, z1, z2, z3, _⟩ := K3.out.four
  go_wp2_with fail
  refine (checked_any K h _ n3 c2 cs _ n3 c3 (ds.set i (x + b)) _ ⟨P3.out.row, Q3.out.row⟩).mono ?_
  clear f0 f1 f2 f3 k0 k1 k2 k3 y0 y1 y2 y3 z0 z1 z2 z3 cx fz wx Q2'
  generalize ((((w2.setCell ⟨w.heap.size, 0, none⟩ (.int .i64 K)).setCell ⟨w.heap.size, 1, none⟩ (.int .i64 h)).setCell ⟨w.heap.size, 2, none⟩ (.slice A2 n3 c2)).setCell ⟨w.heap.size, 3, none⟩ (.slice (some ⟨g3, 0, none⟩) n3 c3)).setCell ⟨g3, i, none⟩ (.int .i64 (x + b)) = W3 at *
  rintro e w4 ⟨rfl, b4⟩
  have B4 := hide (B3.out.trans (b4.mono B3.out.size))
  have R4 := hide (R3.out.keep b4 R3.out.in_)
  have P4 := hide (P3.out.below b4 (Nat.le_refl _))
  have Q4 := hide (Q3.out.below b4 (Nat.le_refl _))
  clear b4
  by_cases o2 : OkT K h cs (ds.set i (x + b))
  · have HV := hide (HNF.out.trans (toldF_ok o2))
    rw [toldV_ok (errT_ok o2)]
    clear o2
    obtain ⟨r0, r1, r2, r3, _⟩ := R4.out.four
    have f0 := R4.out.fr 0
    have f1 := R4.out.fr 1
    have f2 := R4.out.fr 2
    have f3 := R4.out.fr 3
    obtain ⟨z0, z1, z2, z3, _⟩ := (R4.out.set4 (.int .i64 K) (.int .i64 h) (.slice A2 n3 c2) (.slice (some ⟨g3, 0, none⟩) n3 c3)).four
    go_wp2_with fail
    refine bodyPost_ret (v := .tuple #[.agg #[.int .i64 K, .int .i64 h, .slice A2 n3 c2, .slice (some ⟨g3, 0, none⟩) n3 c3], .int .i64 0]) ?_ rfl (by rw [HV.out]; exact ⟨_, _, _, _, _, _, rfl, (P4.out.set4 (by omega) _ _ _ _).more (by omega), (Q4.out.set4 (by omega) _ _ _ _).more (by omega), below_set4 B4.out (by omega) _ _ _ _⟩)
    simp [results, Try.results51, go_sem, z0, z1, z2, z3]
  · have HV := hide (HNF.out.trans (toldF_no o2))
    have e2 := errT_no o2
    rw [toldV_no (by rw [e2]; decide), e2]
    clear o2 e2
    obtain ⟨r0, r1, r2, r3, _⟩ := R4.out.four
    have f0 := R4.out.fr 0
    have f1 := R4.out.fr 1
    have f2 := R4.out.fr 2
    have f3 := R4.out.fr 3
    obtain ⟨z0, z1, z2, z3, _⟩ := (R4.out.set4 (.int .i64 0) (.int .i64 0) (.slice none 0 0) (.slice none 0 0)).four
    go_wp2_with fail
    refine bodyPost_ret (v := .tuple #[.agg #[.int .i64 0, .int .i64 0, .slice none 0 0, .slice none 0 0], .int .i64 1]) ?_ rfl (by rw [HV.out]; exact ⟨_, _, _, _, _, _, rfl, Own.nil _ _, Own.nil _ _, below_set4 B4.out (by omega) _ _ _ _⟩)
    simp [results, Try.results51, go_sem, z0, z1, z2, z3]

set_option maxHeartbeats 4000000 in
theorem rNeed_any (K h : Int) (A : Option Addr) (n c : Nat) (cs : List Int) (A' : Option Addr) (n' c' : Nat) (ds : List Int) (ix b : Int) (w : World) (hT : Tin w A n c cs A' n' c' ds) :
    Calls Try.prog 52 #[.agg #[.int .i64 K, .int .i64 h, .slice A n c, .slice A' n' c'], .int .i64 ix, .int .i64 b] w (FourPost (needF K h cs ds ix b) w) := by
  have HT := hide hT
  have L1 := hT.1.length
  have L2 := hT.2.length
  have B0 := hide ((Below.refl w.heap.size w).alloc (Nat.le_refl _) (.cells #[.int .i64 K, .int .i64 h, .slice A n c, .slice A' n' c'] 24))
  have K0 := hide (Bk.born w 24 #[.int .i64 K, .int .i64 h, .slice A n c, .slice A' n' c'])
  have R0 := hide (Bk.bornAt (w := w.alloc (.cells #[.int .i64 K, .int .i64 h, .slice A n c, .slice A' n' c'] 24)) (g := w.heap.size + 1) (t := 24) (cs := #[.int .i64 0, .int .i64 0, .slice none 0 0, .slice none 0 0]) (by simp))
  replace K0 := hide (K0.out.more (.cells #[.int .i64 0, .int .i64 0, .slice none 0 0, .slice none 0 0] 24))
  replace B0 := hide (B0.out.alloc (by simp) (.cells #[.int .i64 0, .int .i64 0, .slice none 0 0, .slice none 0 0] 24))
  clear hT
  by_cases he : errT K h cs ds = 0
  case neg =>
    have HV := hide (needF_task (ix := ix) (b := b) (not_okT he))
    have HE := hide (errT_ne he)
    clear he
    go_enter Try.func52, Try.ntmps52
    go_wp2_with fail
    refine (rValidate_any K h _ n c cs _ n' c' ds _ (HT.out.below B0.out (Nat.le_refl _))).mono ?_
    rw [HE.out]
    rintro e w1 ⟨rfl, b1⟩
    have B1 := hide (B0.out.trans (b1.mono B0.out.size))
    have R1 := hide (R0.out.keep b1 R0.out.in_)
    clear b1
    obtain ⟨r0, r1, r2, r3, _⟩ := R1.out.four
    have f0 := R1.out.fr 0
    have f1 := R1.out.fr 1
    have f2 := R1.out.fr 2
    have f3 := R1.out.fr 3
    obtain ⟨z0, z1, z2, z3, _⟩ := (R1.out.set4 (.int .i64 0) (.int .i64 0) (.slice none 0 0) (.slice none 0 0)).four
    go_wp2_with fail
    refine bodyPost_ret (v := .tuple #[.agg #[.int .i64 0, .int .i64 0, .slice none 0 0, .slice none 0 0], .int .i64 1]) ?_ rfl (by rw [HV.out]; exact ⟨_, _, _, _, _, _, rfl, Own.nil _ _, Own.nil _ _, below_set4 B1.out (by omega) _ _ _ _⟩)
    simp [results, Try.results52, go_sem, z0, z1, z2, z3]
  have o := errT_zero he
  have hn1 : 1 ≤ n' := by have := o.n1; omega
  have hn2 : n' ≤ 12 := by have := o.n2; omega
  obtain rfl : n = n' := by have := o.c.1; omega
  have OT := hide o
  have LN := hide L2
  have HE := hide he
  clear o he
  by_cases e1 : 0 ≤ ix ∧ ix < ds.length
  case neg =>
    have HV := hide (needF_hour (b := b) OT.out e1)
    rw [L2] at e1
    have g1 : withinB ix 0 ((n : Int) - 1) = false := withinB_no (by omega)
    have wn : IntKind.i64.wrap ((n : Int) - 1) = (n : Int) - 1 := IntWalk.i64_in _ (by omega)
    clear e1 L1 L2
    go_enter Try.func52, Try.ntmps52
    go_wp2_with fail
    refine (rValidate_any K h _ n c cs _ n c' ds _ (HT.out.below B0.out (Nat.le_refl _))).mono ?_
    rw [HE.out]
    rintro e w1 ⟨rfl, b1⟩
    have B1 := hide (B0.out.trans (b1.mono B0.out.size))
    have K1 := hide (K0.out.keep b1 K0.out.in_)
    have R1 := hide (R0.out.keep b1 R0.out.in_)
    clear b1
    obtain ⟨k0, k1, k2, k3, _⟩ := K1.out.four
    go_wp2_with fail
    refine (within_any _ _ _ _).mono ?_
    rw [g1]
    rintro e wq ⟨rfl, rfl⟩
    obtain ⟨r0, r1, r2, r3, _⟩ := R1.out.four
    have f0 := R1.out.fr 0
    have f1 := R1.out.fr 1
    have f2 := R1.out.fr 2
    have f3 := R1.out.fr 3
    obtain ⟨z0, z1, z2, z3, _⟩ := (R1.out.set4 (.int .i64 0) (.int .i64 0) (.slice none 0 0) (.slice none 0 0)).four
    go_wp2_with fail
    refine bodyPost_ret (v := .tuple #[.agg #[.int .i64 0, .int .i64 0, .slice none 0 0, .slice none 0 0], .int .i64 4]) ?_ rfl (by rw [HV.out]; exact ⟨_, _, _, _, _, _, rfl, Own.nil _ _, Own.nil _ _, below_set4 B1.out (by omega) _ _ _ _⟩)
    simp [results, Try.results52, go_sem, z0, z1, z2, z3]
  by_cases e2 : -50 ≤ b ∧ b ≤ 50
  case neg =>
    have HV := hide (needF_by OT.out e1 e2)
    rw [L2] at e1
    have g1 : withinB ix 0 ((n : Int) - 1) = true := withinB_true (by omega) (by omega)
    have g2 : withinB b (-50) 50 = false := withinB_no e2
    have wn : IntKind.i64.wrap ((n : Int) - 1) = (n : Int) - 1 := IntWalk.i64_in _ (by omega)
    clear e1 e2 L1 L2
    go_enter Try.func52, Try.ntmps52
    go_wp2_with fail
    refine (rValidate_any K h _ n c cs _ n c' ds _ (HT.out.below B0.out (Nat.le_refl _))).mono ?_
    rw [HE.out]
    rintro e w1 ⟨rfl, b1⟩
    have B1 := hide (B0.out.trans (b1.mono B0.out.size))
    have K1 := hide (K0.out.keep b1 K0.out.in_)
    have R1 := hide (R0.out.keep b1 R0.out.in_)
    clear b1
    obtain ⟨k0, k1, k2, k3, _⟩ := K1.out.four
    go_wp2_with fail
    refine (within_any _ _ _ _).mono ?_
    rw [g1]
    rintro e wq ⟨rfl, rfl⟩
    go_wp2_with fail
    refine (within_any _ _ _ _).mono ?_
    rw [g2]
    rintro e wq ⟨rfl, rfl⟩
    obtain ⟨r0, r1, r2, r3, _⟩ := R1.out.four
    have f0 := R1.out.fr 0
    have f1 := R1.out.fr 1
    have f2 := R1.out.fr 2
    have f3 := R1.out.fr 3
    obtain ⟨z0, z1, z2, z3, _⟩ := (R1.out.set4 (.int .i64 0) (.int .i64 0) (.slice none 0 0) (.slice none 0 0)).four
    go_wp2_with fail
    refine bodyPost_ret (v := .tuple #[.agg #[.int .i64 0, .int .i64 0, .slice none 0 0, .slice none 0 0], .int .i64 1]) ?_ rfl (by rw [HV.out]; exact ⟨_, _, _, _, _, _, rfl, Own.nil _ _, Own.nil _ _, below_set4 B1.out (by omega) _ _ _ _⟩)
    simp [results, Try.results52, go_sem, z0, z1, z2, z3]
  obtain ⟨i, rfl⟩ : ∃ i : Nat, ix = (i : Int) := ⟨ix.toNat, by omega⟩
  have hin : i < n := by omega
  have HNF := hide (needF_ok OT.out e1 e2)
  have x0 := (OT.out.d.2 i (by omega)).1
  have x1 := (OT.out.d.2 i (by omega)).2
  have g1 : withinB (i : Int) 0 ((n : Int) - 1) = true := withinB_true (by omega) (by omega)
  have g2 : withinB b (-50) 50 = true := withinB_true e2.1 e2.2
  have wn : IntKind.i64.wrap ((n : Int) - 1) = (n : Int) - 1 := IntWalk.i64_in _ (by omega)
  clear e1
  go_enter Try.func52, Try.ntmps52
  go_wp2_with fail
  refine (rValidate_any K h _ n c cs _ n c' ds _ (HT.out.below B0.out (Nat.le_refl _))).mono ?_
  rw [HE.out]
  rintro e w1 ⟨rfl, b1⟩
  have B1 := hide (B0.out.trans (b1.mono B0.out.size))
  have K1 := hide (K0.out.keep b1 K0.out.in_)
  have R1 := hide (R0.out.keep b1 R0.out.in_)
  clear b1
  obtain ⟨k0, k1, k2, k3, _⟩ := K1.out.four
  go_wp2_with fail
  refine (within_any _ _ _ _).mono ?_
  rw [g1]
  rintro e wq ⟨rfl, rfl⟩
  go_wp2_with fail
  refine (within_any _ _ _ _).mono ?_
  rw [g2]
  rintro e wq ⟨rfl, rfl⟩
  clear k0 k1 k2 k3 g1 g2 wn
  obtain ⟨k0, k1, k2, k3, _⟩ := K1.out.four
  go_wp2_with fail
  refine (rCopy_any K h _ n c cs _ n c' ds _ (HT.out.below B1.out (Nat.le_refl _)) (by omega) (by omega) (by omega) (by omega)).mono ?_
  rintro e w2 ⟨A2, n2, c2, A3, n3, c3, rfl, o2, o3, b2, dj⟩
  obtain rfl : n2 = n := by have := o2.len; omega
  obtain rfl : n3 = n2 := by have := o3.len; omega
  have B2 := hide (B1.out.trans (b2.mono B1.out.size))
  have K2 := hide (K1.out.keep b2 K1.out.in_)
  have R2 := hide (R1.out.keep b2 R1.out.in_)
  have P2 := hide (o2.more (B' := w.heap.size + 2) R1.out.in_)
  have Q2 := hide (o3.more (B' := w.heap.size + 2) R1.out.in_)
  have DJ := hide dj
  clear b2 o2 o3 k0 k1 k2 k3 dj
  obtain ⟨g3, rfl, hg3⟩ : ∃ g3, A3 = some ⟨g3, 0, none⟩ ∧ w.heap.size + 2 ≤ g3 := by
    rcases Q2.out.form with ⟨_, h0, _⟩ | ⟨g, e, hg, _⟩
    · omega
    · exact ⟨g, e, hg⟩
  have hap : (Value.slice A2 n3 c2).ownBlock ≠ some g3 := by
    rcases P2.out.form with ⟨_, h0, _⟩ | ⟨g, e, hg, _⟩
    · omega
    · subst e
      have := DJ.out g rfl
      simp [Value.ownBlock]
      intro hh
      subst hh
      exact this rfl
  have Q2' := hide (Q2.out.alloc (.cells #[.int .i64 K, .int .i64 h, .slice A2 n3 c2, .slice (some ⟨g3, 0, none⟩) n3 c3] 24))
  have hlt3 : g3 < w2.heap.size := by
    rcases Q2.out.form with ⟨_, h0, _⟩ | ⟨g, e, hg, hl, _⟩
    · omega
    · simp at e; omega
  have cx := Q2'.out.cell hin
  have fz := Q2'.out.frozen i
  have HX := hide (show ds.getD (i : Int).toNat 0 = ds.getD i 0 by rw [Int.toNat_natCast])
  have HI := hide (Int.toNat_natCast i)
  rw [HX.out, HI.out] at HNF
  generalize ds.getD i 0 = x at *
  have wx : IntKind.i64.wrap (x + b) = x + b := IntWalk.i64_in _ (by omega)
  have l5 : (i : Int) < n3 := by omega
  have sz2 := B2.out.size
  have P3 := hide ((Own.apart (p := ⟨g3, i, none⟩) P2.out hap (.int .i64 (x + b))).alloc (.cells #[.int .i64 K, .int .i64 h, .slice A2 n3 c2, .slice (some ⟨g3, 0, none⟩) n3 c3] 24))
  have Q3 := hide ((Q2.out.stored i (x + b)).alloc (.cells #[.int .i64 K, .int .i64 h, .slice A2 n3 c2, .slice (some ⟨g3, 0, none⟩) n3 c3] 24))
  have R3 := hide ((R2.out.apart (p := ⟨g3, i, none⟩) (by simp; omega) (.int .i64 (x + b))).more (.cells #[.int .i64 K, .int .i64 h, .slice A2 n3 c2, .slice (some ⟨g3, 0, none⟩) n3 c3] 24))
  have B3 := hide ((B2.out.setCell (p := ⟨g3, i, none⟩) (by simp; omega) (.int .i64 (x + b))).alloc (by simp; omega) (.cells #[.int .i64 K, .int .i64 h, .slice A2 n3 c2, .slice (some ⟨g3, 0, none⟩) n3 c3] 24))
  obtain ⟨y0, y1, y2, y3, _⟩ := (Bk.born w2 24 #[.int .i64 K, .int .i64 h, .slice A2 n3 c2, .slice (some ⟨g3, 0, none⟩) n3 c3]).four
  go_wp2_with fail
  refine (rtold_any K h _ n3 c2 cs _ n3 c3 (ds.set i (x + b)) _ ⟨P3.out.row, Q3.out.row⟩).mono ?_
  clear y0 y1 y2 y3 cx fz wx Q2' hlt3 sz2
  generalize (w2.setCell ⟨g3, i, none⟩ (.int .i64 (x + b))).alloc (.cells #[.int .i64 K, .int .i64 h, .slice A2 n3 c2, .slice (some ⟨g3, 0, none⟩) n3 c3] 24) = W3 at *
  rintro e w4 ⟨rfl, b4⟩
  have B4 := hide (B3.out.trans (b4.mono B3.out.size))
  have R4 := hide (R3.out.keep b4 R3.out.in_)
  have P4 := hide (P3.out.below b4 (Nat.le_refl _))
  have Q4 := hide (Q3.out.below b4 (Nat.le_refl _))
  clear b4
  by_cases o2 : OkT K h cs (ds.set i (x + b))
  · have HV := hide (HNF.out.trans (toldF_ok o2))
    rw [toldV_ok (errT_ok o2)]
    clear o2
    obtain ⟨r0, r1, r2, r3, _⟩ := R4.out.four
    have f0 := R4.out.fr 0
    have f1 := R4.out.fr 1
    have f2 := R4.out.fr 2
    have f3 := R4.out.fr 3
    obtain ⟨z0, z1, z2, z3, _⟩ := (R4.out.set4 (.int .i64 K) (.int .i64 h) (.slice A2 n3 c2) (.slice (some ⟨g3, 0, none⟩) n3 c3)).four
    go_wp2_with fail
    refine bodyPost_ret (v := .tuple #[.agg #[.int .i64 K, .int .i64 h, .slice A2 n3 c2, .slice (some ⟨g3, 0, none⟩) n3 c3], .int .i64 0]) ?_ rfl (by rw [HV.out]; exact ⟨_, _, _, _, _, _, rfl, (P4.out.set4 (by omega) _ _ _ _).more (by omega), (Q4.out.set4 (by omega) _ _ _ _).more (by omega), below_set4 B4.out (by omega) _ _ _ _⟩)
    simp [results, Try.results52, go_sem, z0, z1, z2, z3]
  · have HV := hide (HNF.out.trans (toldF_no o2))
    have e2 := errT_no o2
    rw [toldV_no (by rw [e2]; decide), e2]
    clear o2 e2
    obtain ⟨r0, r1, r2, r3, _⟩ := R4.out.four
    have f0 := R4.out.fr 0
    have f1 := R4.out.fr 1
    have f2 := R4.out.fr 2
    have f3 := R4.out.fr 3
    obtain ⟨z0, z1, z2, z3, _⟩ := (R4.out.set4 (.int .i64 0) (.int .i64 0) (.slice none 0 0) (.slice none 0 0)).four
    go_wp2_with fail
    refine bodyPost_ret (v := .tuple #[.agg #[.int .i64 0, .int .i64 0, .slice none 0 0, .slice none 0 0], .int .i64 1]) ?_ rfl (by rw [HV.out]; exact ⟨_, _, _, _, _, _, rfl, Own.nil _ _, Own.nil _ _, below_set4 B4.out (by omega) _ _ _ _⟩)
    simp [results, Try.results52, go_sem, z0, z1, z2, z3]

end Go.Proofs.Ytjhnfcmijijdcaa
