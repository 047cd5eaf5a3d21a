/- Group 9: texts WalkRs, WalkLs, WalkRe, WalkBg, WalkBr. -/
import Derived.Test.YtlndjjdggedljaaG8
import Derived.Deep.RegionLawGrows
/- WalkRs -/
namespace Go.Proofs.Ytlndjjdggedljaa
open Go.RowKit

set_option maxHeartbeats 4000000 in
theorem rScale_any (K h : Int) (A : Option Addr) (n c : Nat) (cs : List Int) (A' : Option Addr) (n' c' : Nat) (ds : List Int) (b : Int) (w : World) (hT : Tin w A n c cs A' n' c' ds) :
    Calls Try.prog 48 #[.agg #[.int .i64 K, .int .i64 h, .slice A n c, .slice A' n' c'], .int .i64 b] w (FourPost (scaleF K h cs ds b) w) := by
  have HT := hide hT
  have L1 := hT.1.length
  have L2 := hT.2.length
  have B0 := hide ((Below.refl w.heap.size w).alloc (Nat.le_refl _) (.cells #[.int .i64 K, .int .i64 h, .slice A n c, .slice A' n' c'] 24))
  have K0 := hide (Bk.born w 24 #[.int .i64 K, .int .i64 h, .slice A n c, .slice A' n' c'])
  have R0 := hide (Bk.bornAt (w := w.alloc (.cells #[.int .i64 K, .int .i64 h, .slice A n c, .slice A' n' c'] 24)) (g := w.heap.size + 1) (t := 24) (cs := #[.int .i64 0, .int .i64 0, .slice none 0 0, .slice none 0 0]) (by simp))
  replace K0 := hide (K0.out.more (.cells #[.int .i64 0, .int .i64 0, .slice none 0 0, .slice none 0 0] 24))
  replace B0 := hide (B0.out.alloc (by simp) (.cells #[.int .i64 0, .int .i64 0, .slice none 0 0, .slice none 0 0] 24))
  clear hT
  by_cases he : errT K h cs ds = 0
  case neg =>
    have HV := hide (scaleF_task (b := b) (not_okT he))
    have HE := hide (errT_ne he)
    clear he
    go_enter Try.func48, Try.ntmps48
    go_wp2_with fail
    refine (rValidate_any K h _ n c cs _ n' c' ds _ (HT.out.below B0.out (Nat.le_refl _))).mono ?_
    rw [HE.out]
    rintro e w1 ⟨rfl, b1⟩
    have B1 := hide (B0.out.trans (b1.mono B0.out.size))
    have R1 := hide (R0.out.keep b1 R0.out.in_)
    clear b1
    obtain ⟨r0, r1, r2, r3, _⟩ := R1.out.four
    have f0 := R1.out.fr 0
    have f1 := R1.out.fr 1
    have f2 := R1.out.fr 2
    have f3 := R1.out.fr 3
    obtain ⟨z0, z1, z2, z3, _⟩ := (R1.out.set4 (.int .i64 0) (.int .i64 0) (.slice none 0 0) (.slice none 0 0)).four
    go_wp2_with fail
    refine bodyPost_ret (v := .tuple #[.agg #[.int .i64 0, .int .i64 0, .slice none 0 0, .slice none 0 0], .int .i64 1]) ?_ rfl (by rw [HV.out]; exact ⟨_, _, _, _, _, _, rfl, Own.nil _ _, Own.nil _ _, below_set4 B1.out (by omega) _ _ _ _⟩)
    simp [results, Try.results48, go_sem, z0, z1, z2, z3]
  have o := errT_zero he
  have hn1 : 1 ≤ n' := by have := o.n1; omega
  have hn2 : n' ≤ 12 := by have := o.n2; omega
  obtain rfl : n = n' := by have := o.c.1; omega
  have OT := hide o
  have LN := hide L2
  have HE := hide he
  clear o he
  have HSF := hide (scaleF_okR (b := b) OT.out)
  have kk0 := OT.out.K0
  have kk1 := OT.out.K1
  by_cases c0 : b ≤ -2000
  case pos =>
    have hcl : clR b = (-2000) := by unfold clR; (repeat' split) <;> omega
    rw [hcl] at HSF
    clear hcl
    go_enter Try.func48, Try.ntmps48
    go_wp2_with fail
    refine (rValidate_any K h _ n c cs _ n c' ds _ (HT.out.below B0.out (Nat.le_refl _))).mono ?_
    rw [HE.out]
    rintro e w1 ⟨rfl, b1⟩
    have B1 := hide (B0.out.trans (b1.mono B0.out.size))
    have K1 := hide (K0.out.keep b1 K0.out.in_)
    have R1 := hide (R0.out.keep b1 R0.out.in_)
    clear b1
    obtain ⟨k0, k1, k2, k3, _⟩ := K1.out.four
    go_wp2_with fail
    refine (rCopy_any K h _ n c cs _ n c' ds _ (HT.out.below B1.out (Nat.le_refl _)) (by omega) (by omega) (by omega) (by omega)).mono ?_
    rintro e w2 ⟨A2, n2, c2, A3, n3, c3, rfl, o2, o3, b2, dj⟩
    obtain rfl : n2 = n := by have := o2.len; omega
    obtain rfl : n3 = n2 := by have := o3.len; omega
    have B2 := hide (B1.out.trans (b2.mono B1.out.size))
    have K2 := hide (K1.out.keep b2 K1.out.in_)
    have R2 := hide (R1.out.keep b2 R1.out.in_)
    have P2 := hide (o2.more (B' := w.heap.size + 2) R1.out.in_)
    have Q2 := hide (o3.more (B' := w.heap.size + 2) R1.out.in_)
    have DJ := hide dj
    clear b2 o2 o3 k0 k1 k2 k3 dj
    obtain ⟨g3, rfl, hg3⟩ : ∃ g3, A3 = some ⟨g3, 0, none⟩ ∧ w.heap.size + 2 ≤ g3 := by
      rcases Q2.out.form with ⟨_, h0, _⟩ | ⟨g, e, hg, _⟩
      · omega
      · exact ⟨g, e, hg⟩
    have hap : (Value.slice A2 n3 c2).ownBlock ≠ some g3 := by
      rcases P2.out.form with ⟨_, h0, _⟩ | ⟨g, e, hg, _⟩
      · omega
      · subst e
        have := DJ.out g rfl
        simp [Value.ownBlock]
        intro hh
        subst hh
        exact this rfl
    have wk : IntKind.i64.wrap (K * (-2000)) = (K * (-2000)) := IntWalk.i64_in _ (by omega)
    have K3 := hide (Bk.born w2 24 #[.int .i64 (K * (-2000)), .int .i64 h, .slice A2 n3 c2, .slice (some ⟨g3, 0, none⟩) n3 c3])
    have P3 := hide (P2.out.alloc (.cells #[.int .i64 (K * (-2000)), .int .i64 h, .slice A2 n3 c2, .slice (some ⟨g3, 0, none⟩) n3 c3] 24))
    have Q3 := hide (Q2.out.alloc (.cells #[.int .i64 (K * (-2000)), .int .i64 h, .slice A2 n3 c2, .slice (some ⟨g3, 0, none⟩) n3 c3] 24))
    have R3 := hide (R2.out.more (.cells #[.int .i64 (K * (-2000)), .int .i64 h, .slice A2 n3 c2, .slice (some ⟨g3, 0, none⟩) n3 c3] 24))
    have B3 := hide (B2.out.alloc B2.out.size (.cells #[.int .i64 (K * (-2000)), .int .i64 h, .slice A2 n3 c2, .slice (some ⟨g3, 0, none⟩) n3 c3] 24))
    have hG : w.heap.size + 1 < w2.heap.size := R2.out.in_
    have hG3 : g3 < w2.heap.size := by
      rcases Q2.out.form with ⟨_, h0, _⟩ | ⟨g, e, hg, hl, _⟩
      · omega
      · simp at e; omega
    go_wp2_with fail
    clear wk
    go_loopw [8] (fun i wr => ∃ k : Nat, k ≤ n3 ∧ i = .int .i64 k ∧ Bk wr w2.heap.size 24 #[.int .i64 (K * (-2000)), .int .i64 h, .slice A2 n3 c2, .slice (some ⟨g3, 0, none⟩) n3 c3] ∧ Bk wr (w.heap.size + 1) 24 #[.int .i64 0, .int .i64 0, .slice none 0 0, .slice none 0 0] ∧ Own wr (w.heap.size + 2) A2 n3 c2 cs ∧ Own wr (w.heap.size + 2) (some ⟨g3, 0, none⟩) n3 c3 (mulTo ds (-2000) k) ∧ Below w.heap.size w wr) (fun i _ => n3 - (intOf i).toNat)
    case atStart => exact ⟨0, by omega, rfl, K3.out, R3.out, P3.out, by rw [mulTo_zero]; exact Q3.out, B3.out⟩
    case round =>
      obtain ⟨k, hk, rfl, kb, rb, pb, qb, bb⟩ := hrel
      have KB := hide kb
      have RB := hide rb
      have PB := hide pb
      have QB := hide qb
      have BB := hide bb
      clear kb rb pb qb bb
      obtain ⟨k0, k1, k2, k3, _⟩ := KB.out.four
      by_cases hlt : k < n3
      · have cx := QB.out.cell hlt
        rw [mulTo_get (by rw [LN.out]; exact hlt), if_neg (Nat.lt_irrefl k)] at cx
        have fz := QB.out.frozen k
        have x0 := (OT.out.d.2 k (by rw [LN.out]; exact hlt)).1
        have x1 := (OT.out.d.2 k (by rw [LN.out]; exact hlt)).2
        have HS := hide (fun x hx => mulTo_next (ds := ds) (s := (-2000)) (k := k) (x := x) (by rw [LN.out]; exact hlt) hx)
        generalize ds.getD k 0 = x at *
        have wx : IntKind.i64.wrap (x * (-2000)) = (x * (-2000)) := IntWalk.i64_in _ (by omega)
        have l5 : (k : Int) < n3 := by omega
        go_wp2_with fail
        go_region
        all_goals
          clear wx
          go_wp2_with fail
          go_roundw
          case rel => exact ⟨k + 1, by omega, by go_num, Bk.draw (KB.out.apart (p := ⟨g3, k, none⟩) (by simp; omega) _), Bk.draw (RB.out.apart (p := ⟨g3, k, none⟩) (by simp; omega) _), (Own.apart (p := ⟨g3, k, none⟩) PB.out hap _).drew, by rw [← HS.out (x * (-2000)) (by first | rfl | omega)]; exact (QB.out.stored k _).drew, (BB.out.setCell (p := ⟨g3, k, none⟩) (by simp; omega) _).drew⟩
          case measure => simp [intOf]; omega
      · obtain rfl : k = n3 := by omega
        have Q9 := hide (by have := QB.out; rw [show mulTo ds (-2000) k = mulL ds (-2000) by unfold mulL; rw [LN.out]] at this; exact this)
        go_wp2_with fail
        refine (rtold_any (K * (-2000)) h _ k c2 cs _ k c3 (mulL ds (-2000)) _ ⟨PB.out.row, Q9.out.row⟩).mono ?_
        rintro e w4 ⟨rfl, b4⟩
        have B4 := hide (BB.out.trans (b4.mono BB.out.size))
        have R4 := hide (RB.out.keep b4 RB.out.in_)
        have P4 := hide (PB.out.below b4 (Nat.le_refl _))
        have Q4 := hide (Q9.out.below b4 (Nat.le_refl _))
        clear b4
        by_cases o2 : OkT (K * (-2000)) h cs (mulL ds (-2000))
        · have HV := hide (HSF.out.trans (toldF_ok o2))
          rw [toldV_ok (errT_ok o2)]
          clear o2
          obtain ⟨r0, r1, r2, r3, _⟩ := R4.out.four
          have f0 := R4.out.fr 0
          have f1 := R4.out.fr 1
          have f2 := R4.out.fr 2
          have f3 := R4.out.fr 3
          obtain ⟨z0, z1, z2, z3, _⟩ := (R4.out.set4 (.int .i64 (K * (-2000))) (.int .i64 h) (.slice A2 k c2) (.slice (some ⟨g3, 0, none⟩) k c3)).four
          go_wp2_with fail
          refine bodyPost_ret (v := .tuple #[.agg #[.int .i64 (K * (-2000)), .int .i64 h, .slice A2 k c2, .slice (some ⟨g3, 0, none⟩) k c3], .int .i64 0]) ?_ rfl (by rw [HV.out]; exact ⟨_, _, _, _, _, _, rfl, (P4.out.set4 (by omega) _ _ _ _).more (by omega), (Q4.out.set4 (by omega) _ _ _ _).more (by omega), below_set4 B4.out (by omega) _ _ _ _⟩)
          simp [results, Try.results48, go_sem, z0, z1, z2, z3]
        · have HV := hide (HSF.out.trans (toldF_no o2))
          have e2 := errT_no o2
          rw [toldV_no (by rw [e2]; decide), e2]
          clear o2 e2
          obtain ⟨r0, r1, r2, r3, _⟩ := R4.out.four
          have f0 := R4.out.fr 0
          have f1 := R4.out.fr 1
          have f2 := R4.out.fr 2
          have f3 := R4.out.fr 3
          obtain ⟨z0, z1, z2, z3, _⟩ := (R4.out.set4 (.int .i64 0) (.int .i64 0) (.slice none 0 0) (.slice none 0 0)).four
          go_wp2_with fail
          refine bodyPost_ret (v := .tuple #[.agg #[.int .i64 0, .int .i64 0, .slice none 0 0, .slice none 0 0], .int .i64 1]) ?_ rfl (by rw [HV.out]; exact ⟨_, _, _, _, _, _, rfl, Own.nil _ _, Own.nil _ _, below_set4 B4.out (by omega) _ _ _ _⟩)
          simp [results, Try.results48, go_sem, z0, z1, z2, z3]
  by_cases c1 : 2000 < b
  case pos =>
    have hcl : clR b = 2000 := by unfold clR; (repeat' split) <;> omega
    have d0 : -2000 < b := by omega
    clear c0
    rw [hcl] at HSF
    clear hcl
    go_enter Try.func48, Try.ntmps48
    go_wp2_with fail
    refine (rValidate_any K h _ n c cs _ n c' ds _ (HT.out.below B0.out (Nat.le_refl _))).mono ?_
    rw [HE.out]
    rintro e w1 ⟨rfl, b1⟩
    have B1 := hide (B0.out.trans (b1.mono B0.out.size))
    have K1 := hide (K0.out.keep b1 K0.out.in_)
    have R1 := hide (R0.out.keep b1 R0.out.in_)
    clear b1
    obtain ⟨k0, k1, k2, k3, _⟩ := K1.out.four
    go_wp2_with fail
    refine (rCopy_any K h _ n c cs _ n c' ds _ (HT.out.below B1.out (Nat.le_refl _)) (by omega) (by omega) (by omega) (by omega)).mono ?_
    rintro e w2 ⟨A2, n2, c2, A3, n3, c3, rfl, o2, o3, b2, dj⟩
    obtain rfl : n2 = n := by have := o2.len; omega
    obtain rfl : n3 = n2 := by have := o3.len; omega
    have B2 := hide (B1.out.trans (b2.mono B1.out.size))
    have K2 := hide (K1.out.keep b2 K1.out.in_)
    have R2 := hide (R1.out.keep b2 R1.out.in_)
    have P2 := hide (o2.more (B' := w.heap.size + 2) R1.out.in_)
    have Q2 := hide (o3.more (B' := w.heap.size + 2) R1.out.in_)
    have DJ := hide dj
    clear b2 o2 o3 k0 k1 k2 k3 dj
    obtain ⟨g3, rfl, hg3⟩ : ∃ g3, A3 = some ⟨g3, 0, none⟩ ∧ w.heap.size + 2 ≤ g3 := by
      rcases Q2.out.form with ⟨_, h0, _⟩ | ⟨g, e, hg, _⟩
      · omega
      · exact ⟨g, e, hg⟩
    have hap : (Value.slice A2 n3 c2).ownBlock ≠ some g3 := by
      rcases P2.out.form with ⟨_, h0, _⟩ | ⟨g, e, hg, _⟩
      · omega
      · subst e
        have := DJ.out g rfl
        simp [Value.ownBlock]
        intro hh
        subst hh
        exact this rfl
    have wk : IntKind.i64.wrap (K * 2000) = (K * 2000) := IntWalk.i64_in _ (by omega)
    have K3 := hide (Bk.born w2 24 #[.int .i64 (K * 2000), .int .i64 h, .slice A2 n3 c2, .slice (some ⟨g3, 0, none⟩) n3 c3])
    have P3 := hide (P2.out.alloc (.cells #[.int .i64 (K * 2000), .int .i64 h, .slice A2 n3 c2, .slice (some ⟨g3, 0, none⟩) n3 c3] 24))
    have Q3 := hide (Q2.out.alloc (.cells #[.int .i64 (K * 2000), .int .i64 h, .slice A2 n3 c2, .slice (some ⟨g3, 0, none⟩) n3 c3] 24))
    have R3 := hide (R2.out.more (.cells #[.int .i64 (K * 2000), .int .i64 h, .slice A2 n3 c2, .slice (some ⟨g3, 0, none⟩) n3 c3] 24))
    have B3 := hide (B2.out.alloc B2.out.size (.cells #[.int .i64 (K * 2000), .int .i64 h, .slice A2 n3 c2, .slice (some ⟨g3, 0, none⟩) n3 c3] 24))
    have hG : w.heap.size + 1 < w2.heap.size := R2.out.in_
    have hG3 : g3 < w2.heap.size := by
      rcases Q2.out.form with ⟨_, h0, _⟩ | ⟨g, e, hg, hl, _⟩
      · omega
      · simp at e; omega
    go_wp2_with fail
    clear wk
    go_loopw [8] (fun i wr => ∃ k : Nat, k ≤ n3 ∧ i = .int .i64 k ∧ Bk wr w2.heap.size 24 #[.int .i64 (K * 2000), .int .i64 h, .slice A2 n3 c2, .slice (some ⟨g3, 0, none⟩) n3 c3] ∧ Bk wr (w.heap.size + 1) 24 #[.int .i64 0, .int .i64 0, .slice none 0 0, .slice none 0 0] ∧ Own wr (w.heap.size + 2) A2 n3 c2 cs ∧ Own wr (w.heap.size + 2) (some ⟨g3, 0, none⟩) n3 c3 (mulTo ds 2000 k) ∧ Below w.heap.size w wr) (fun i _ => n3 - (intOf i).toNat)
    case atStart => exact ⟨0, by omega, rfl, K3.out, R3.out, P3.out, by rw [mulTo_zero]; exact Q3.out, B3.out⟩
    case round =>
      obtain ⟨k, hk, rfl, kb, rb, pb, qb, bb⟩ := hrel
      have KB := hide kb
      have RB := hide rb
      have PB := hide pb
      have QB := hide qb
      have BB := hide bb
      clear kb rb pb qb bb
      obtain ⟨k0, k1, k2, k3, _⟩ := KB.out.four
      by_cases hlt : k < n3
      · have cx := QB.out.cell hlt
        rw [mulTo_get (by rw [LN.out]; exact hlt), if_neg (Nat.lt_irrefl k)] at cx
        have fz := QB.out.frozen k
        have x0 := (OT.out.d.2 k (by rw [LN.out]; exact hlt)).1
        have x1 := (OT.out.d.2 k (by rw [LN.out]; exact hlt)).2
        have HS := hide (fun x hx => mulTo_next (ds := ds) (s := 2000) (k := k) (x := x) (by rw [LN.out]; exact hlt) hx)
        generalize ds.getD k 0 = x at *
        have wx : IntKind.i64.wrap (x * 2000) = (x * 2000) := IntWalk.i64_in _ (by omega)
        have l5 : (k : Int) < n3 := by omega
        go_wp2_with fail
        go_region
        all_goals
          clear wx
          go_wp2_with fail
          go_roundw
          case rel => exact ⟨k + 1, by omega, by go_num, Bk.draw (KB.out.apart (p := ⟨g3, k, none⟩) (by simp; omega) _), Bk.draw (RB.out.apart (p := ⟨g3, k, none⟩) (by simp; omega) _), (Own.apart (p := ⟨g3, k, none⟩) PB.out hap _).drew, by rw [← HS.out (x * 2000) (by first | rfl | omega)]; exact (QB.out.stored k _).drew, (BB.out.setCell (p := ⟨g3, k, none⟩) (by simp; omega) _).drew⟩
          case measure => simp [intOf]; omega
      · obtain rfl : k = n3 := by omega
        have Q9 := hide (by have := QB.out; rw [show mulTo ds 2000 k = mulL ds 2000 by unfold mulL; rw [LN.out]] at this; exact this)
        go_wp2_with fail
        refine (rtold_any (K * 2000) h _ k c2 cs _ k c3 (mulL ds 2000) _ ⟨PB.out.row, Q9.out.row⟩).mono ?_
        rintro e w4 ⟨rfl, b4⟩
        have B4 := hide (BB.out.trans (b4.mono BB.out.size))
        have R4 := hide (RB.out.keep b4 RB.out.in_)
        have P4 := hide (PB.out.below b4 (Nat.le_refl _))
        have Q4 := hide (Q9.out.below b4 (Nat.le_refl _))
        clear b4
        by_cases o2 : OkT (K * 2000) h cs (mulL ds 2000)
        · have HV := hide (HSF.out.trans (toldF_ok o2))
          rw [toldV_ok (errT_ok o2)]
          clear o2
          obtain ⟨r0, r1, r2, r3, _⟩ := R4.out.four
          have f0 := R4.out.fr 0
          have f1 := R4.out.fr 1
          have f2 := R4.out.fr 2
          have f3 := R4.out.fr 3
          obtain ⟨z0, z1, z2, z3, _⟩ := (R4.out.set4 (.int .i64 (K * 2000)) (.int .i64 h) (.slice A2 k c2) (.slice (some ⟨g3, 0, none⟩) k c3)).four
          go_wp2_with fail
          refine bodyPost_ret (v := .tuple #[.agg #[.int .i64 (K * 2000), .int .i64 h, .slice A2 k c2, .slice (some ⟨g3, 0, none⟩) k c3], .int .i64 0]) ?_ rfl (by rw [HV.out]; exact ⟨_, _, _, _, _, _, rfl, (P4.out.set4 (by omega) _ _ _ _).more (by omega), (Q4.out.set4 (by omega) _ _ _ _).more (by omega), below_set4 B4.out (by omega) _ _ _ _⟩)
          simp [results, Try.results48, go_sem, z0, z1, z2, z3]
        · have HV := hide (HSF.out.trans (toldF_no o2))
          have e2 := errT_no o2
          rw [toldV_no (by rw [e2]; decide), e2]
          clear o2 e2
          obtain ⟨r0, r1, r2, r3, _⟩ := R4.out.four
          have f0 := R4.out.fr 0
          have f1 := R4.out.fr 1
          have f2 := R4.out.fr 2
          have f3 := R4.out.fr 3
          obtain ⟨z0, z1, z2, z3, _⟩ := (R4.out.set4 (.int .i64 0) (.int .i64 0) (.slice none 0 0) (.slice none 0 0)).four
          go_wp2_with fail
          refine bodyPost_ret (v := .tuple #[.agg #[.int .i64 0, .int .i64 0, .slice none 0 0, .slice none 0 0], .int .i64 1]) ?_ rfl (by rw [HV.out]; exact ⟨_, _, _, _, _, _, rfl, Own.nil _ _, Own.nil _ _, below_set4 B4.out (by omega) _ _ _ _⟩)
          simp [results, Try.results48, go_sem, z0, z1, z2, z3]
  have hcl : clR b = b := by unfold clR; (repeat' split) <;> omega
  rw [hcl] at HSF
  have d0 : -2000 < b := by omega
  have d1 : b ≤ 2000 := by omega
  clear hcl c0 c1
  go_enter Try.func48, Try.ntmps48
  go_wp2_with fail
  refine (rValidate_any K h _ n c cs _ n c' ds _ (HT.out.below B0.out (Nat.le_refl _))).mono ?_
  rw [HE.out]
  rintro e w1 ⟨rfl, b1⟩
  have B1 := hide (B0.out.trans (b1.mono B0.out.size))
  have K1 := hide (K0.out.keep b1 K0.out.in_)
  have R1 := hide (R0.out.keep b1 R0.out.in_)
  clear b1
  obtain ⟨k0, k1, k2, k3, _⟩ := K1.out.four
  go_wp2_with fail
  refine (rCopy_any K h _ n c cs _ n c' ds _ (HT.out.below B1.out (Nat.le_refl _)) (by omega) (by omega) (by omega) (by omega)).mono ?_
  rintro e w2 ⟨A2, n2, c2, A3, n3, c3, rfl, o2, o3, b2, dj⟩
  obtain rfl : n2 = n := by have := o2.len; omega
  obtain rfl : n3 = n2 := by have := o3.len; omega
  have B2 := hide (B1.out.trans (b2.mono B1.out.size))
  have K2 := hide (K1.out.keep b2 K1.out.in_)
  have R2 := hide (R1.out.keep b2 R1.out.in_)
  have P2 := hide (o2.more (B' := w.heap.size + 2) R1.out.in_)
  have Q2 := hide (o3.more (B' := w.heap.size + 2) R1.out.in_)
  have DJ := hide dj
  clear b2 o2 o3 k0 k1 k2 k3 dj
  obtain ⟨g3, rfl, hg3⟩ : ∃ g3, A3 = some ⟨g3, 0, none⟩ ∧ w.heap.size + 2 ≤ g3 := by
    rcases Q2.out.form with ⟨_, h0, _⟩ | ⟨g, e, hg, _⟩
    · omega
    · exact ⟨g, e, hg⟩
  have hap : (Value.slice A2 n3 c2).ownBlock ≠ some g3 := by
    rcases P2.out.form with ⟨_, h0, _⟩ | ⟨g, e, hg, _⟩
    · omega
    · subst e
      have := DJ.out g rfl
      simp [Value.ownBlock]
      intro hh
      subst hh
      exact this rfl
  have wk : IntKind.i64.wrap (K * b) = (K * b) := IntWalk.i64_in _ ⟨by have := Int.mul_le_mul_of_nonneg_left (c := K) (show -2000 ≤ b by omega) kk0; omega, by have := Int.mul_le_mul_of_nonneg_left (c := K) (show b ≤ 2000 by omega) kk0; omega⟩
  have K3 := hide (Bk.born w2 24 #[.int .i64 (K * b), .int .i64 h, .slice A2 n3 c2, .slice (some ⟨g3, 0, none⟩) n3 c3])
  have P3 := hide (P2.out.alloc (.cells #[.int .i64 (K * b), .int .i64 h, .slice A2 n3 c2, .slice (some ⟨g3, 0, none⟩) n3 c3] 24))
  have Q3 := hide (Q2.out.alloc (.cells #[.int .i64 (K * b), .int .i64 h, .slice A2 n3 c2, .slice (some ⟨g3, 0, none⟩) n3 c3] 24))
  have R3 := hide (R2.out.more (.cells #[.int .i64 (K * b), .int .i64 h, .slice A2 n3 c2, .slice (some ⟨g3, 0, none⟩) n3 c3] 24))
  have B3 := hide (B2.out.alloc B2.out.size (.cells #[.int .i64 (K * b), .int .i64 h, .slice A2 n3 c2, .slice (some ⟨g3, 0, none⟩) n3 c3] 24))
  have hG : w.heap.size + 1 < w2.heap.size := R2.out.in_
  have hG3 : g3 < w2.heap.size := by
    rcases Q2.out.form with ⟨_, h0, _⟩ | ⟨g, e, hg, hl, _⟩
    · omega
    · simp at e; omega
  go_wp2_with fail
  clear wk
  go_loopw [8] (fun i wr => ∃ k : Nat, k ≤ n3 ∧ i = .int .i64 k ∧ Bk wr w2.heap.size 24 #[.int .i64 (K * b), .int .i64 h, .slice A2 n3 c2, .slice (some ⟨g3, 0, none⟩) n3 c3] ∧ Bk wr (w.heap.size + 1) 24 #[.int .i64 0, .int .i64 0, .slice none 0 0, .slice none 0 0] ∧ Own wr (w.heap.size + 2) A2 n3 c2 cs ∧ Own wr (w.heap.size + 2) (some ⟨g3, 0, none⟩) n3 c3 (mulTo ds b k) ∧ Below w.heap.size w wr) (fun i _ => n3 - (intOf i).toNat)
  case atStart => exact ⟨0, by omega, rfl, K3.out, R3.out, P3.out, by rw [mulTo_zero]; exact Q3.out, B3.out⟩
  case round =>
    obtain ⟨k, hk, rfl, kb, rb, pb, qb, bb⟩ := hrel
    have KB := hide kb
    have RB := hide rb
    have PB := hide pb
    have QB := hide qb
    have BB := hide bb
    clear kb rb pb qb bb
    obtain ⟨k0, k1, k2, k3, _⟩ := KB.out.four
    by_cases hlt : k < n3
    · have cx := QB.out.cell hlt
      rw [mulTo_get (by rw [LN.out]; exact hlt), if_neg (Nat.lt_irrefl k)] at cx
      have fz := QB.out.frozen k
      have x0 := (OT.out.d.2 k (by rw [LN.out]; exact hlt)).1
      have x1 := (OT.out.d.2 k (by rw [LN.out]; exact hlt)).2
      have HS := hide (fun x hx => mulTo_next (ds := ds) (s := b) (k := k) (x := x) (by rw [LN.out]; exact hlt) hx)
      generalize ds.getD k 0 = x at *
      have wx : IntKind.i64.wrap (x * b) = (x * b) := IntWalk.i64_in _ ⟨by have := Int.mul_le_mul_of_nonneg_left (c := x) (show -2000 ≤ b by omega) x0; omega, by have := Int.mul_le_mul_of_nonneg_left (c := x) (show b ≤ 2000 by omega) x0; omega⟩
      have l5 : (k : Int) < n3 := by omega
      go_wp2_with fail
      go_region
      all_goals
        clear wx
        go_wp2_with fail
        go_roundw
        case rel => exact ⟨k + 1, by omega, by go_num, Bk.draw (KB.out.apart (p := ⟨g3, k, none⟩) (by simp; omega) _), Bk.draw (RB.out.apart (p := ⟨g3, k, none⟩) (by simp; omega) _), (Own.apart (p := ⟨g3, k, none⟩) PB.out hap _).drew, by rw [← HS.out (x * b) (by first | rfl | omega)]; exact (QB.out.stored k _).drew, (BB.out.setCell (p := ⟨g3, k, none⟩) (by simp; omega) _).drew⟩
        case measure => simp [intOf]; omega
    · obtain rfl : k = n3 := by omega
      have Q9 := hide (by have := QB.out; rw [show mulTo ds b k = mulL ds b by unfold mulL; rw [LN.out]] at this; exact this)
      go_wp2_with fail
      refine (rtold_any (K * b) h _ k c2 cs _ k c3 (mulL ds b) _ ⟨PB.out.row, Q9.out.row⟩).mono ?_
      rintro e w4 ⟨rfl, b4⟩
      have B4 := hide (BB.out.trans (b4.mono BB.out.size))
      have R4 := hide (RB.out.keep b4 RB.out.in_)
      have P4 := hide (PB.out.below b4 (Nat.le_refl _))
      have Q4 := hide (Q9.out.below b4 (Nat.le_refl _))
      clear b4
      by_cases o2 : OkT (K * b) h cs (mulL ds b)
      · have HV := hide (HSF.out.trans (toldF_ok o2))
        rw [toldV_ok (errT_ok o2)]
        clear o2
        obtain ⟨r0, r1, r2, r3, _⟩ := R4.out.four
        have f0 := R4.out.fr 0
        have f1 := R4.out.fr 1
        have f2 := R4.out.fr 2
        have f3 := R4.out.fr 3
        obtain ⟨z0, z1, z2, z3, _⟩ := (R4.out.set4 (.int .i64 (K * b)) (.int .i64 h) (.slice A2 k c2) (.slice (some ⟨g3, 0, none⟩) k c3)).four
        go_wp2_with fail
        refine bodyPost_ret (v := .tuple #[.agg #[.int .i64 (K * b), .int .i64 h, .slice A2 k c2, .slice (some ⟨g3, 0, none⟩) k c3], .int .i64 0]) ?_ rfl (by rw [HV.out]; exact ⟨_, _, _, _, _, _, rfl, (P4.out.set4 (by omega) _ _ _ _).more (by omega), (Q4.out.set4 (by omega) _ _ _ _).more (by omega), below_set4 B4.out (by omega) _ _ _ _⟩)
        simp [results, Try.results48, go_sem, z0, z1, z2, z3]
      · have HV := hide (HSF.out.trans (toldF_no o2))
        have e2 := errT_no o2
        rw [toldV_no (by rw [e2]; decide), e2]
        clear o2 e2
        obtain ⟨r0, r1, r2, r3, _⟩ := R4.out.four
        have f0 := R4.out.fr 0
        have f1 := R4.out.fr 1
        have f2 := R4.out.fr 2
        have f3 := R4.out.fr 3
        obtain ⟨z0, z1, z2, z3, _⟩ := (R4.out.set4 (.int .i64 0) (.int .i64 0) (.slice none 0 0) (.slice none 0 0)).four
        go_wp2_with fail
        refine bodyPost_ret (v := .tuple #[.agg #[.int .i64 0, .int .i64 0, .slice none 0 0, .slice none 0 0], .int .i64 1]) ?_ rfl (by rw [HV.out]; exact ⟨_, _, _, _, _, _, rfl, Own.nil _ _, Own.nil _ _, below_set4 B4.out (by omega) _ _ _ _⟩)
        simp [results, Try.results48, go_sem, z0, z1, z2, z3]


end Go.Proofs.Ytlndjjdggedljaa

/- WalkLs -/
namespace Go.Proofs.Ytlndjjdggedljaa
open Go.RowKit

set_option maxHeartbeats 4000000 in
theorem AirScales_walk (K h : Int) (A : Option Addr) (n c : Nat) (cs : List Int) (A' : Option Addr) (n' c' : Nat) (ds : List Int) (by' : Int) (w : World)
    (hT : Tin w A n c cs A' n' c' ds) :
    Calls Try.prog 12 #[.agg #[.int .i64 K, .int .i64 h, .slice A n c, .slice A' n' c'], .int .i64 by'] w fun e w' => e = .returned (.bool true) ∧ Below w.heap.size w w' := by
  have HT := hide hT
  have B0 := hide ((Below.refl w.heap.size w).alloc (Nat.le_refl _) (.cells #[.int .i64 K, .int .i64 h, .slice A n c, .slice A' n' c'] 24))
  have K0 := hide (Bk.born w 24 #[.int .i64 K, .int .i64 h, .slice A n c, .slice A' n' c'])
  clear hT
  by_cases hL : 100 < n ∨ 100 < n'
  case pos =>
    go_enter Try.func12, Try.ntmps12
    go_wp2_with fail
    refine (Long_any K h _ n c cs _ n' c' ds _ (HT.out.below B0.out (Nat.le_refl _))).mono ?_
    rw [decide_eq_true hL]
    rintro e w1 ⟨rfl, b1⟩
    have B1 := hide (B0.out.trans (b1.mono B0.out.size))
    have K1 := hide (K0.out.keep b1 K0.out.in_)
    clear b1
    go_wp2_with fail
    refine (known_any _).mono ?_
    rintro e wz ⟨rfl, bz⟩
    go_wp2_with fail
    go_ret
    exact ⟨rfl, B1.out.trans (bz.mono B1.out.size)⟩
  go_enter Try.func12, Try.ntmps12
  go_wp2_with fail
  refine (Long_any K h _ n c cs _ n' c' ds _ (HT.out.below B0.out (Nat.le_refl _))).mono ?_
  rw [decide_eq_false hL]
  rintro e w1 ⟨rfl, b1⟩
  have B1 := hide (B0.out.trans (b1.mono B0.out.size))
  have K1 := hide (K0.out.keep b1 K0.out.in_)
  clear b1
  obtain ⟨k0, k1, k2, k3, _⟩ := K1.out.four
  go_wp2_with fail
  refine (Scale_any K h _ n c cs _ n' c' ds by' _ (HT.out.below B1.out (Nat.le_refl _))).mono ?_
  rintro e w2 ⟨Aa, na, ca, Ba, ma, da, rfl, oa, pa, b2⟩
  have B2 := hide (B1.out.trans (b2.mono B1.out.size))
  have K2 := hide (K1.out.keep b2 K1.out.in_)
  clear b2
  clear k0 k1 k2 k3
  have Ra := hide (oa.row)
  have Sa := hide (pa.row)
  have La := hide oa.len
  have Ma := hide pa.len
  clear oa pa
  have HFe := hide (fun e => scaleF_er (K := K) (h := h) (cs := cs) (ds := ds) (b := by') e)
  generalize hF : scaleF K h cs ds by' = F at *
  have HFe0 := hide hF
  clear hF
  have B3 := hide (B2.out.alloc B2.out.size (.cells #[.int .i64 F.K, .int .i64 F.h, .slice Aa na ca, .slice Ba ma da] 24))
  have K3 := hide (K2.out.more (.cells #[.int .i64 F.K, .int .i64 F.h, .slice Aa na ca, .slice Ba ma da] 24))
  replace Ra := hide (Ra.out.alloc (.cells #[.int .i64 F.K, .int .i64 F.h, .slice Aa na ca, .slice Ba ma da] 24))
  replace Sa := hide (Sa.out.alloc (.cells #[.int .i64 F.K, .int .i64 F.h, .slice Aa na ca, .slice Ba ma da] 24))
  have Xa := hide (Bk.born w2 24 #[.int .i64 F.K, .int .i64 F.h, .slice Aa na ca, .slice Ba ma da])
  obtain ⟨k0, k1, k2, k3, _⟩ := K3.out.four
  go_wp2_with fail
  have RD := rScale_any K h _ n c cs _ n' c' ds by' _ (HT.out.below B3.out (Nat.le_refl _))
  rw [HFe0.out] at RD
  refine RD.mono ?_
  rintro e w4 ⟨Ab, nb, cb, Bb, mb, db, rfl, ob, pb, b4⟩
  have B4 := hide (B3.out.trans (b4.mono B3.out.size))
  have K4 := hide (K3.out.keep b4 K3.out.in_)
  replace Ra := hide (Ra.out.below b4 (Nat.le_refl _))
  replace Sa := hide (Sa.out.below b4 (Nat.le_refl _))
  replace Xa := hide (Xa.out.keep b4 Xa.out.in_)
  clear b4
  clear k0 k1 k2 k3 RD
  obtain rfl : nb = na := by have := ob.len; have := La.out; omega
  obtain rfl : mb = ma := by have := pb.len; have := Ma.out; omega
  have Rb := hide (ob.row)
  have Sb := hide (pb.row)
  clear ob pb
  have B5 := hide (B4.out.alloc B4.out.size (.cells #[.int .i64 F.K, .int .i64 F.h, .slice Ab nb cb, .slice Bb mb db] 24))
  have K5 := hide (K4.out.more (.cells #[.int .i64 F.K, .int .i64 F.h, .slice Ab nb cb, .slice Bb mb db] 24))
  replace Ra := hide (Ra.out.alloc (.cells #[.int .i64 F.K, .int .i64 F.h, .slice Ab nb cb, .slice Bb mb db] 24))
  replace Sa := hide (Sa.out.alloc (.cells #[.int .i64 F.K, .int .i64 F.h, .slice Ab nb cb, .slice Bb mb db] 24))
  replace Rb := hide (Rb.out.alloc (.cells #[.int .i64 F.K, .int .i64 F.h, .slice Ab nb cb, .slice Bb mb db] 24))
  replace Sb := hide (Sb.out.alloc (.cells #[.int .i64 F.K, .int .i64 F.h, .slice Ab nb cb, .slice Bb mb db] 24))
  replace Xa := hide (Xa.out.more (.cells #[.int .i64 F.K, .int .i64 F.h, .slice Ab nb cb, .slice Bb mb db] 24))
  have Xb := hide (Bk.born w4 24 #[.int .i64 F.K, .int .i64 F.h, .slice Ab nb cb, .slice Bb mb db])
  obtain ⟨x0, x1, x2, x3, _⟩ := Xa.out.four
  obtain ⟨y0, y1, y2, y3, _⟩ := Xb.out.four
  go_wp2_with fail
  refine (Same_yes F.K F.h _ nb _ F.cs _ mb _ F.ds _ _ _ _ _ ⟨Ra.out, Sa.out⟩ ⟨Rb.out, Sb.out⟩).mono ?_
  rintro e w6 ⟨rfl, b6⟩
  have B6 := hide (B5.out.trans (b6.mono B5.out.size))
  have K6 := hide (K5.out.keep b6 K5.out.in_)
  replace Ra := hide (Ra.out.below b6 (Nat.le_refl _))
  replace Sa := hide (Sa.out.below b6 (Nat.le_refl _))
  replace Rb := hide (Rb.out.below b6 (Nat.le_refl _))
  replace Sb := hide (Sb.out.below b6 (Nat.le_refl _))
  replace Xa := hide (Xa.out.keep b6 Xa.out.in_)
  replace Xb := hide (Xb.out.keep b6 Xb.out.in_)
  clear b6
  clear x0 x1 x2 x3 y0 y1 y2 y3
  by_cases he : F.er = 0
  case neg =>
    have he' : (F.er != 0) = true := by simpa using he
    go_wp2_with fail
    refine (known_any _).mono ?_
    rintro e wz ⟨rfl, bz⟩
    go_wp2_with fail
    go_ret
    exact ⟨rfl, B6.out.trans (bz.mono B6.out.size)⟩
  obtain ⟨K', ds', o1, o2, hl, e3, hcase⟩ := HFe.out he
  clear HFe HFe0
  subst e3
  simp only at *
  obtain ⟨k0, k1, k2, k3, _⟩ := K6.out.four
  go_wp2_with fail
  refine (Least_any K h _ n c cs _ n' c' ds _ (HT.out.below B6.out (Nat.le_refl _))).mono ?_
  rw [errT_ok o1]
  rw [okv_zero rfl]
  rintro e w7 ⟨rfl, b7⟩
  have B7 := hide (B6.out.trans (b7.mono B6.out.size))
  have K7 := hide (K6.out.keep b7 K6.out.in_)
  replace Ra := hide (Ra.out.below b7 (Nat.le_refl _))
  replace Sa := hide (Sa.out.below b7 (Nat.le_refl _))
  replace Rb := hide (Rb.out.below b7 (Nat.le_refl _))
  replace Sb := hide (Sb.out.below b7 (Nat.le_refl _))
  replace Xa := hide (Xa.out.keep b7 Xa.out.in_)
  replace Xb := hide (Xb.out.keep b7 Xb.out.in_)
  clear b7
  clear k0 k1 k2 k3
  obtain ⟨x0, x1, x2, x3, _⟩ := Xa.out.four
  go_wp2_with fail
  refine (Least_any K' h _ nb _ cs _ mb _ ds' _ ⟨Ra.out, Sa.out⟩).mono ?_
  rw [errT_ok o2]
  rw [okv_zero rfl]
  rw [hl]
  rintro e w8 ⟨rfl, b8⟩
  have B8 := hide (B7.out.trans (b8.mono B7.out.size))
  have K8 := hide (K7.out.keep b8 K7.out.in_)
  replace Ra := hide (Ra.out.below b8 (Nat.le_refl _))
  replace Sa := hide (Sa.out.below b8 (Nat.le_refl _))
  replace Rb := hide (Rb.out.below b8 (Nat.le_refl _))
  replace Sb := hide (Sb.out.below b8 (Nat.le_refl _))
  replace Xa := hide (Xa.out.keep b8 Xa.out.in_)
  replace Xb := hide (Xb.out.keep b8 Xb.out.in_)
  clear b8
  clear x0 x1 x2 x3
  have f0 := o1.tk.f0 (Nat.le_refl ds.length)
  have f1 := o1.tk.f1 o1.n2 (Nat.le_refl ds.length)
  clear o1 o2 he
  generalize (tk K h cs ds).f ds.length = f1' at *
  generalize (tk K' h cs ds').f ds.length = f2' at *
  rcases hcase with ⟨h0, h1, h2⟩ | ⟨h1, h2⟩
  · have wm : IntKind.i64.wrap (f1' * by') = f1' * by' := IntWalk.i64_in _ ⟨by have := Int.mul_nonneg f0 h0; omega, by have := Int.mul_le_mul f1 h1 h0 (by omega); omega⟩
    by_cases hz : f1' = 0 ∧ f2' = 0
    · clear h2 wm f0 f1
      obtain ⟨rfl, rfl⟩ := hz
      go_wp2_with fail
      refine (known_any _).mono ?_
      rintro e wz ⟨rfl, bz⟩
      go_wp2_with fail
      go_ret
      exact ⟨rfl, B8.out.trans (bz.mono B8.out.size)⟩
    · subst h2
      have hz0 : f1' ≠ 0 := fun q => hz ⟨q, by rw [q, Int.zero_mul]⟩
      have hz1 : (f1' == 0) = false := beq_eq_false_iff_ne.2 hz0
      clear hz hz0
      go_wp2_with fail
      refine (known_any _).mono ?_
      rintro e wz ⟨rfl, bz⟩
      go_wp2_with fail
      go_ret
      exact ⟨rfl, B8.out.trans (bz.mono B8.out.size)⟩
  · clear f0 f1
    subst h1 h2
    go_wp2_with fail
    refine (known_any _).mono ?_
    rintro e wz ⟨rfl, bz⟩
    go_wp2_with fail
    go_ret
    exact ⟨rfl, B8.out.trans (bz.mono B8.out.size)⟩

end Go.Proofs.Ytlndjjdggedljaa

/- WalkRe -/
namespace Go.Proofs.Ytlndjjdggedljaa
open Go.RowKit

/-- append([]int{}, xs...) of an empty xs, as one step of a region. -/
theorem step_app_nil {ops : Array Oper} {o : Oper} {a : Act} {w : World} {K : Act → World → Prop} {Q : Exit → Act → World → Prop} {E : Prop}
    (hg : o.guard = none) (s x : Operand) (hop : o.op = Op.call { callee := Callee.builtin Builtin.append, args := #[s, x], argTypes := #[22, 22] })
    (b : Addr) (A : Option Addr) (c : Nat) (hs : a.eval s = .slice (some b) 0 0) (hx : a.eval x = .slice A 0 c) (hK : K (a.put o.dst (.slice (some b) 0 0)) w) :
    if Region.wanted o (yielded ops a.tmps) = true then Oper.wp Try.prog o a w K Q else E := by
  obtain ⟨i0, hi, hz0, hz1, hz2⟩ := info_parts info_int
  have hw : Region.wanted o (yielded ops a.tmps) = true := by simp [Region.wanted, hg]
  rw [if_pos hw]
  have hrun : (Builtin.append_ #[22, 22] o.type #[.slice (some b) 0 0, .slice A 0 c]).run Try.prog w = .ok (.slice (some b) 0 0) w := by
    cases A <;> simp [Builtin.append_, run_underlying Try.underlying22, sizeOf, typeInfo, hi, Builtin.lenOf, Builtin.firstCells, loadCells, loadCellsFrom, storeCells]
  unfold Oper.wp
  simp [execOp, hop, resolve, invoke, builtin, hs, hx, hrun, Result.andThen]
  exact hK
theorem Row.zero {w : World} {A : Option Addr} {c : Nat} (hc : c ≤ 9223372036854775807) : Row w A 0 c [] := ⟨0, 0, rfl, Nat.zero_le _, hc, fun h => by omega, fun h => by omega, fun k hk => by omega⟩

theorem below4 (w : World) (o0 o1 o2 o3 : Obj) : Below w.heap.size w ((((w.alloc o0).alloc o1).alloc o2).alloc o3).drew := by
  refine (((((Below.refl w.heap.size w).alloc (Nat.le_refl _) o0).alloc ?_ o1).alloc ?_ o2).alloc ?_ o3).drew
  all_goals (simp; try omega)
/-- The call hands back a copy; what is said of its lists is how they read. -/
def CopyRow (K h : Int) (cs ds : List Int) (w : World) (e : Ending) (w' : World) : Prop :=
  ∃ A n c A' n' c', e = .returned (.agg #[.int .i64 K, .int .i64 h, .slice A n c, .slice A' n' c']) ∧ Row w' A n c cs ∧ Row w' A' n' c' ds ∧ Below w.heap.size w w'
set_option maxHeartbeats 4000000 in
theorem rCopy_row (K h : Int) (A : Option Addr) (n c : Nat) (cs : List Int) (A' : Option Addr) (n' c' : Nat) (ds : List Int) (w : World)
    (hT : Tin w A n c cs A' n' c' ds) (hn : n ≤ 1000) (hn' : n' ≤ 1000) :
    Calls Try.prog 43 #[.agg #[.int .i64 K, .int .i64 h, .slice A n c, .slice A' n' c']] w (CopyRow K h cs ds w) := by
  have hl := hT.1.length
  have hl' := hT.2.length
  by_cases h0 : n = 0
  · obtain rfl := h0
    obtain rfl : cs = [] := List.eq_nil_of_length_eq_zero hl
    by_cases h0' : n' = 0
    · obtain rfl := h0'
      obtain rfl : ds = [] := List.eq_nil_of_length_eq_zero hl'
      have HT := hide hT
      have B0 := hide ((Below.refl w.heap.size w).alloc (Nat.le_refl _) (.cells #[.int .i64 K, .int .i64 h, .slice A 0 c, .slice A' 0 c'] 24))
      have K0 := hide (Bk.born w 24 #[.int .i64 K, .int .i64 h, .slice A 0 c, .slice A' 0 c'])
      have R0 := hide (Bk.bornAt (w := w.alloc (.cells #[.int .i64 K, .int .i64 h, .slice A 0 c, .slice A' 0 c'] 24)) (g := w.heap.size + 1) (t := 24) (cs := #[.int .i64 0, .int .i64 0, .slice none 0 0, .slice none 0 0]) (by simp))
      replace K0 := hide (K0.out.more (.cells #[.int .i64 0, .int .i64 0, .slice none 0 0, .slice none 0 0] 24))
      replace B0 := hide (B0.out.alloc (by simp) (.cells #[.int .i64 0, .int .i64 0, .slice none 0 0, .slice none 0 0] 24))
      clear hT
      go_enter Try.func43, Try.ntmps43
      go_wp2_with fail
      obtain ⟨k0, k1, k2, k3, _⟩ := K0.out.four
      have B1 := hide (below_drewN B0.out 1)
      have K1 := hide (K0.out.draws 1)
      have R1 := hide (R0.out.draws 1)
      go_region_held3 (fun w' => w'.cell? ⟨w.heap.size, 0, none⟩ = some (.int .i64 K) ∧ w'.cell? ⟨w.heap.size, 1, none⟩ = some (.int .i64 h) ∧ w'.cell? ⟨w.heap.size, 2, none⟩ = some (.slice A 0 c) ∧ w'.cell? ⟨w.heap.size, 3, none⟩ = some (.slice A' 0 c'))
        (first
          | go_keep
          | (go_split_ands
             refine ⟨?_, ?_, ?_, ?_⟩ <;> (rw [b8.cell (by simp; omega)]; first | assumption | (simp; assumption)))
          | (go_split_ands
             refine ⟨?_, ?_, ?_, ?_⟩ <;> (rw [b9.cell (by first | (simp; omega) | (have := B8.out.size; simp; omega))]; first | assumption | (simp; assumption))))
        (first
          | (refine step_app_nil rfl (.tmp 7) (.tmp 9) rfl _ A c (by simp [Act.eval, Act.put]; rfl) (by simp [Act.eval, Act.put]) ?_)
          | (refine step_app_nil rfl (.tmp 11) (.tmp 13) rfl _ A' c' (by simp [Act.eval, Act.put]; rfl) (by simp [Act.eval, Act.put]) ?_))
      all_goals
        clear k0 k1 k2 k3
        first
          | (have Z := hide ((((Bk.bornAt (w := w.alloc (.cells #[.int .i64 K, .int .i64 h, .slice A 0 c, .slice A' 0 c'] 24)) (g := w.heap.size + 1) (t := 24) (cs := #[.int .i64 K, .int .i64 h, .slice (some ⟨w.heap.size + 1 + 1, 0, none⟩) 0 0, .slice (some ⟨w.heap.size + 1 + 1 + 1, 0, none⟩) 0 0]) (by simp)).more (.cells #[] 3)).more (.cells #[] 3)).draw); obtain ⟨z0, z1, z2, z3, _⟩ := Z.out.four; go_wp2_with fail; refine bodyPost_ret (v := .agg #[.int .i64 K, .int .i64 h, .slice (some ⟨w.heap.size + 1 + 1, 0, none⟩) 0 0, .slice (some ⟨w.heap.size + 1 + 1 + 1, 0, none⟩) 0 0]) ?hres rfl ?hq; case hres => (simp [results, Try.results43, go_sem, z0, z1, z2, z3]; done))
          | (have Z := hide ((((Bk.bornAt (w := w.alloc (.cells #[.int .i64 K, .int .i64 h, .slice A 0 c, .slice A' 0 c'] 24)) (g := w.heap.size + 1) (t := 24) (cs := #[.int .i64 K, .int .i64 h, .slice (some ⟨w.heap.size + 1 + 1 + 1, 0, none⟩) 0 0, .slice (some ⟨w.heap.size + 1 + 1, 0, none⟩) 0 0]) (by simp)).more (.cells #[] 3)).more (.cells #[] 3)).draw); obtain ⟨z0, z1, z2, z3, _⟩ := Z.out.four; go_wp2_with fail; refine bodyPost_ret (v := .agg #[.int .i64 K, .int .i64 h, .slice (some ⟨w.heap.size + 1 + 1 + 1, 0, none⟩) 0 0, .slice (some ⟨w.heap.size + 1 + 1, 0, none⟩) 0 0]) ?hres rfl ?hq; case hres => (simp [results, Try.results43, go_sem, z0, z1, z2, z3]; done))
        case hq => exact ⟨_, _, _, _, _, _, rfl, Row.zero (by omega), Row.zero (by omega), below4 w _ _ _ _⟩
    · have hn1' : 1 ≤ n' := by omega
      have HT := hide hT
      have B0 := hide ((Below.refl w.heap.size w).alloc (Nat.le_refl _) (.cells #[.int .i64 K, .int .i64 h, .slice A 0 c, .slice A' n' c'] 24))
      have K0 := hide (Bk.born w 24 #[.int .i64 K, .int .i64 h, .slice A 0 c, .slice A' n' c'])
      have R0 := hide (Bk.bornAt (w := w.alloc (.cells #[.int .i64 K, .int .i64 h, .slice A 0 c, .slice A' n' c'] 24)) (g := w.heap.size + 1) (t := 24) (cs := #[.int .i64 0, .int .i64 0, .slice none 0 0, .slice none 0 0]) (by simp))
      replace K0 := hide (K0.out.more (.cells #[.int .i64 0, .int .i64 0, .slice none 0 0, .slice none 0 0] 24))
      replace B0 := hide (B0.out.alloc (by simp) (.cells #[.int .i64 0, .int .i64 0, .slice none 0 0, .slice none 0 0] 24))
      clear hT
      go_enter Try.func43, Try.ntmps43
      go_wp2_with fail
      obtain ⟨k0, k1, k2, k3, _⟩ := K0.out.four
      have B1 := hide (below_drewN B0.out 1)
      have K1 := hide (K0.out.draws 1)
      have R1 := hide (R0.out.draws 1)
      go_region_held3 (fun w' => w'.cell? ⟨w.heap.size, 0, none⟩ = some (.int .i64 K) ∧ w'.cell? ⟨w.heap.size, 1, none⟩ = some (.int .i64 h) ∧ w'.cell? ⟨w.heap.size, 2, none⟩ = some (.slice A 0 c) ∧ w'.cell? ⟨w.heap.size, 3, none⟩ = some (.slice A' n' c'))
        (first
          | go_keep
          | (go_split_ands
             refine ⟨?_, ?_, ?_, ?_⟩ <;> (rw [b8.cell (by simp; omega)]; first | assumption | (simp; assumption)))
          | (go_split_ands
             refine ⟨?_, ?_, ?_, ?_⟩ <;> (rw [b9.cell (by first | (simp; omega) | (have := B8.out.size; simp; omega))]; first | assumption | (simp; assumption))))
        (first
          | (refine step_app_nil rfl (.tmp 7) (.tmp 9) rfl _ A c (by simp [Act.eval, Act.put]; rfl) (by simp [Act.eval, Act.put]) ?_)
          | (refine step_app rfl (.tmp 11) (.tmp 13) rfl _ A' n' c' ds (by simp [Act.eval, Act.put]; rfl) (by simp [Act.eval, Act.put]) (HT.out.2.below (by first | exact (B0.out.alloc B0.out.size _).drew | exact ((B0.out.alloc B0.out.size _).alloc (B0.out.alloc B0.out.size _).size _).drew | exact B8.out | exact B8.out.alloc B8.out.size _ | exact B9.out | exact B9.out.alloc B9.out.size _) (Nat.le_refl _)) hn1' hn' ?_; intro A9 c9 w9 o9 b9; obtain ⟨o9', r9', z9'⟩ := own_step o9 b9 (by first | exact (R0.out.more _).draw | exact ((R0.out.more _).more _).draw | exact R8.out | exact R8.out.more _ | exact R9.out | exact R9.out.more _) (by first | exact (B0.out.alloc B0.out.size _).drew | exact ((B0.out.alloc B0.out.size _).alloc (B0.out.alloc B0.out.size _).size _).drew | exact B8.out | exact B8.out.alloc B8.out.size _ | exact B9.out | exact B9.out.alloc B9.out.size _); (first | have O8 := hide (Own.below (w' := w9) (by first | exact O8.out | exact O8.out.alloc _) b9 (Nat.le_refl _)) | skip); have O9 := hide o9'; have R9 := hide r9'; have B9 := hide z9'; obtain ⟨r0, r1, r2, r3, _⟩ := R9.out.four; have f0 := R9.out.fr 0; have f1 := R9.out.fr 1; have f2 := R9.out.fr 2; have f3 := R9.out.fr 3; clear o9 o9' r9' z9'))
      all_goals
        first
          | (obtain ⟨z0, z1, z2, z3, _⟩ := (R9.out.set4 (.int .i64 K) (.int .i64 h) (.slice (some ⟨w.heap.size + 1 + 1, 0, none⟩) 0 0) (.slice A9 n' c9)).four; go_wp2_with fail; refine bodyPost_ret (v := .agg #[.int .i64 K, .int .i64 h, .slice (some ⟨w.heap.size + 1 + 1, 0, none⟩) 0 0, .slice A9 n' c9]) ?hres rfl ?hq; case hres => (simp [results, Try.results43, go_sem, z0, z1, z2, z3]; done))
          | (obtain ⟨z0, z1, z2, z3, _⟩ := (R9.out.set4 (.int .i64 K) (.int .i64 h) (.slice (some ⟨w.heap.size + 1 + 1 + 1, 0, none⟩) 0 0) (.slice A9 n' c9)).four; go_wp2_with fail; refine bodyPost_ret (v := .agg #[.int .i64 K, .int .i64 h, .slice (some ⟨w.heap.size + 1 + 1 + 1, 0, none⟩) 0 0, .slice A9 n' c9]) ?hres rfl ?hq; case hres => (simp [results, Try.results43, go_sem, z0, z1, z2, z3]; done))
        case hq => exact ⟨_, _, _, _, _, _, rfl, Row.zero (by omega), (O9.out.set4 (by omega) _ _ _ _).row, below_set4 B9.out (by omega) _ _ _ _⟩
  · have hn1 : 1 ≤ n := by omega
    by_cases h0' : n' = 0
    · obtain rfl := h0'
      obtain rfl : ds = [] := List.eq_nil_of_length_eq_zero hl'
      have HT := hide hT
      have B0 := hide ((Below.refl w.heap.size w).alloc (Nat.le_refl _) (.cells #[.int .i64 K, .int .i64 h, .slice A n c, .slice A' 0 c'] 24))
      have K0 := hide (Bk.born w 24 #[.int .i64 K, .int .i64 h, .slice A n c, .slice A' 0 c'])
      have R0 := hide (Bk.bornAt (w := w.alloc (.cells #[.int .i64 K, .int .i64 h, .slice A n c, .slice A' 0 c'] 24)) (g := w.heap.size + 1) (t := 24) (cs := #[.int .i64 0, .int .i64 0, .slice none 0 0, .slice none 0 0]) (by simp))
      replace K0 := hide (K0.out.more (.cells #[.int .i64 0, .int .i64 0, .slice none 0 0, .slice none 0 0] 24))
      replace B0 := hide (B0.out.alloc (by simp) (.cells #[.int .i64 0, .int .i64 0, .slice none 0 0, .slice none 0 0] 24))
      clear hT
      go_enter Try.func43, Try.ntmps43
      go_wp2_with fail
      obtain ⟨k0, k1, k2, k3, _⟩ := K0.out.four
      have B1 := hide (below_drewN B0.out 1)
      have K1 := hide (K0.out.draws 1)
      have R1 := hide (R0.out.draws 1)
      go_region_held3 (fun w' => w'.cell? ⟨w.heap.size, 0, none⟩ = some (.int .i64 K) ∧ w'.cell? ⟨w.heap.size, 1, none⟩ = some (.int .i64 h) ∧ w'.cell? ⟨w.heap.size, 2, none⟩ = some (.slice A n c) ∧ w'.cell? ⟨w.heap.size, 3, none⟩ = some (.slice A' 0 c'))
        (first
          | go_keep
          | (go_split_ands
             refine ⟨?_, ?_, ?_, ?_⟩ <;> (rw [b8.cell (by simp; omega)]; first | assumption | (simp; assumption)))
          | (go_split_ands
             refine ⟨?_, ?_, ?_, ?_⟩ <;> (rw [b9.cell (by first | (simp; omega) | (have := B8.out.size; simp; omega))]; first | assumption | (simp; assumption))))
        (first
          | (refine step_app rfl (.tmp 7) (.tmp 9) rfl _ A n c cs (by simp [Act.eval, Act.put]; rfl) (by simp [Act.eval, Act.put]) (HT.out.1.below (by first | exact (B0.out.alloc B0.out.size _).drew | exact ((B0.out.alloc B0.out.size _).alloc (B0.out.alloc B0.out.size _).size _).drew | exact B8.out | exact B8.out.alloc B8.out.size _ | exact B9.out | exact B9.out.alloc B9.out.size _) (Nat.le_refl _)) hn1 hn ?_; intro A8 c8 w8 o8 b8; obtain ⟨o8', r8', z8'⟩ := own_step o8 b8 (by first | exact (R0.out.more _).draw | exact ((R0.out.more _).more _).draw | exact R8.out | exact R8.out.more _ | exact R9.out | exact R9.out.more _) (by first | exact (B0.out.alloc B0.out.size _).drew | exact ((B0.out.alloc B0.out.size _).alloc (B0.out.alloc B0.out.size _).size _).drew | exact B8.out | exact B8.out.alloc B8.out.size _ | exact B9.out | exact B9.out.alloc B9.out.size _); (first | have O9 := hide (Own.below (w' := w8) (by first | exact O9.out | exact O9.out.alloc _) b8 (Nat.le_refl _)) | skip); have O8 := hide o8'; have R8 := hide r8'; have B8 := hide z8'; obtain ⟨r0, r1, r2, r3, _⟩ := R8.out.four; have f0 := R8.out.fr 0; have f1 := R8.out.fr 1; have f2 := R8.out.fr 2; have f3 := R8.out.fr 3; obtain ⟨_, kk8, _⟩ := own_step o8 b8 (by first | exact (K0.out.more _).draw | exact ((K0.out.more _).more _).draw) (by first | exact (B0.out.alloc B0.out.size _).drew | exact ((B0.out.alloc B0.out.size _).alloc (B0.out.alloc B0.out.size _).size _).drew); obtain ⟨kk0, kk1, kk2, kk3, _⟩ := kk8.four; clear o8 o8' r8' z8')
          | (refine step_app_nil rfl (.tmp 11) (.tmp 13) rfl _ A' c' (by simp [Act.eval, Act.put]; rfl) (by simp [Act.eval, Act.put]) ?_))
      all_goals
        first
          | (have ZZ := hide ((R8.out.set4 (.int .i64 K) (.int .i64 h) (.slice A8 n c8) (.slice (some ⟨w8.heap.size, 0, none⟩) 0 0)).more (.cells #[] 3)); have OO := hide (((O8.out.set4 (g := w.heap.size + 1) (by omega) (.int .i64 K) (.int .i64 h) (.slice A8 n c8) (.slice (some ⟨w8.heap.size, 0, none⟩) 0 0)).row).alloc (.cells #[] 3)); have BB := hide ((below_set4 (g := w.heap.size + 1) B8.out (by omega) (.int .i64 K) (.int .i64 h) (.slice A8 n c8) (.slice (some ⟨w8.heap.size, 0, none⟩) 0 0)).alloc (below_set4 (g := w.heap.size + 1) B8.out (by omega) (.int .i64 K) (.int .i64 h) (.slice A8 n c8) (.slice (some ⟨w8.heap.size, 0, none⟩) 0 0)).size (.cells #[] 3)); generalize hWW : ((((w8.setCell ⟨w.heap.size + 1, 0, none⟩ (.int .i64 K)).setCell ⟨w.heap.size + 1, 1, none⟩ (.int .i64 h)).setCell ⟨w.heap.size + 1, 2, none⟩ (.slice A8 n c8)).setCell ⟨w.heap.size + 1, 3, none⟩ (.slice (some ⟨w8.heap.size, 0, none⟩) 0 0)).alloc (.cells #[] 3) = WW at *; have HWW := hide hWW; clear hWW; obtain ⟨z0, z1, z2, z3, _⟩ := ZZ.out.four; go_wp2_with fail; refine bodyPost_ret (v := .agg #[.int .i64 K, .int .i64 h, .slice A8 n c8, .slice (some ⟨w8.heap.size, 0, none⟩) 0 0]) ?_ rfl ⟨_, _, _, _, _, _, rfl, OO.out, Row.zero (by omega), BB.out⟩; (simp [results, Try.results43, go_sem, z0, z1, z2, z3]; done))
          | (have ZZ := hide (R8.out.set4 (.int .i64 K) (.int .i64 h) (.slice A8 n c8) (.slice (some ⟨w.heap.size + 1 + 1, 0, none⟩) 0 0)); have OO := hide ((O8.out.set4 (g := w.heap.size + 1) (by omega) (.int .i64 K) (.int .i64 h) (.slice A8 n c8) (.slice (some ⟨w.heap.size + 1 + 1, 0, none⟩) 0 0)).row); have BB := hide ((below_set4 (g := w.heap.size + 1) B8.out (by omega) (.int .i64 K) (.int .i64 h) (.slice A8 n c8) (.slice (some ⟨w.heap.size + 1 + 1, 0, none⟩) 0 0))); generalize hWW : (((w8.setCell ⟨w.heap.size + 1, 0, none⟩ (.int .i64 K)).setCell ⟨w.heap.size + 1, 1, none⟩ (.int .i64 h)).setCell ⟨w.heap.size + 1, 2, none⟩ (.slice A8 n c8)).setCell ⟨w.heap.size + 1, 3, none⟩ (.slice (some ⟨w.heap.size + 1 + 1, 0, none⟩) 0 0) = WW at *; have HWW := hide hWW; clear hWW; obtain ⟨z0, z1, z2, z3, _⟩ := ZZ.out.four; go_wp2_with fail; refine bodyPost_ret (v := .agg #[.int .i64 K, .int .i64 h, .slice A8 n c8, .slice (some ⟨w.heap.size + 1 + 1, 0, none⟩) 0 0]) ?_ rfl ⟨_, _, _, _, _, _, rfl, OO.out, Row.zero (by omega), BB.out⟩; (simp [results, Try.results43, go_sem, z0, z1, z2, z3]; done))
          | (have ZZ := hide (R8.out.set4 (.int .i64 K) (.int .i64 h) (.slice A8 n c8) (.slice (some ⟨w.heap.size + 1 + 1 + 1, 0, none⟩) 0 0)); have OO := hide ((O8.out.set4 (g := w.heap.size + 1) (by omega) (.int .i64 K) (.int .i64 h) (.slice A8 n c8) (.slice (some ⟨w.heap.size + 1 + 1 + 1, 0, none⟩) 0 0)).row); have BB := hide ((below_set4 (g := w.heap.size + 1) B8.out (by omega) (.int .i64 K) (.int .i64 h) (.slice A8 n c8) (.slice (some ⟨w.heap.size + 1 + 1 + 1, 0, none⟩) 0 0))); generalize hWW : (((w8.setCell ⟨w.heap.size + 1, 0, none⟩ (.int .i64 K)).setCell ⟨w.heap.size + 1, 1, none⟩ (.int .i64 h)).setCell ⟨w.heap.size + 1, 2, none⟩ (.slice A8 n c8)).setCell ⟨w.heap.size + 1, 3, none⟩ (.slice (some ⟨w.heap.size + 1 + 1 + 1, 0, none⟩) 0 0) = WW at *; have HWW := hide hWW; clear hWW; obtain ⟨z0, z1, z2, z3, _⟩ := ZZ.out.four; go_wp2_with fail; refine bodyPost_ret (v := .agg #[.int .i64 K, .int .i64 h, .slice A8 n c8, .slice (some ⟨w.heap.size + 1 + 1 + 1, 0, none⟩) 0 0]) ?_ rfl ⟨_, _, _, _, _, _, rfl, OO.out, Row.zero (by omega), BB.out⟩; (simp [results, Try.results43, go_sem, z0, z1, z2, z3]; done))
    · refine (rCopy_any K h A n c cs A' n' c' ds w hT hn1 hn (by omega) hn').mono ?_
      rintro e w' ⟨A2, n2, c2, A3, n3, c3, rfl, o2, o3, b, _⟩
      exact ⟨_, _, _, _, _, _, rfl, o2.row, o3.row, b⟩

end Go.Proofs.Ytlndjjdggedljaa

/- WalkBg -/
namespace Go.Proofs.Ytlndjjdggedljaa
open Go.RowKit

theorem Row.cap {w : World} {A : Option Addr} {n c : Nat} {xs : List Int} (h : Row w A n c xs) : n ≤ c := by
  obtain ⟨b, off, h⟩ := h
  exact h.cap
theorem Row.take {w : World} {A : Option Addr} {n c : Nat} {xs : List Int} (h : Row w A n c xs) (m : Nat) (hm : m ≤ n) : Row w A m c (xs.take m) := by
  obtain ⟨b, off, h1, hc, hx, h2, h3, h4⟩ := h
  refine ⟨b, off, by rw [List.length_take]; omega, by omega, hx, fun h => h2 (by omega), fun h => h3 (by omega), fun k hk => ?_⟩
  rw [h4 k (by omega)]
  simp [List.getD, List.getElem?_take, hk]
theorem Tin.take {w : World} {A : Option Addr} {n c : Nat} {cs : List Int} {A' : Option Addr} {n' c' : Nat} {ds : List Int} (h : Tin w A n c cs A' n' c' ds) (m : Nat) (hm : m ≤ n) (hm' : m ≤ n') :
    Tin w A m c (cs.take m) A' m c' (ds.take m) := ⟨h.1.take m hm, h.2.take m hm'⟩

/-- The first hours of a task. -/
def begF (K h : Int) (cs ds : List Int) (b : Int) : Four :=
  if OkT K h cs ds then (if 1 ≤ b ∧ b ≤ ds.length then ⟨K, h, cs.take b.toNat, ds.take b.toNat, 0⟩ else Four.none_ 1) else Four.none_ 1
section
variable {K h : Int} {cs ds : List Int} {b : Int}
theorem begF_task (o : ¬ OkT K h cs ds) : begF K h cs ds b = Four.none_ 1 := by unfold begF; rw [if_neg o]
theorem begF_no (o : OkT K h cs ds) (e : ¬ (1 ≤ b ∧ b ≤ ds.length)) : begF K h cs ds b = Four.none_ 1 := by unfold begF; rw [if_pos o, if_neg e]
theorem begF_ok (o : OkT K h cs ds) (e : 1 ≤ b ∧ b ≤ ds.length) : begF K h cs ds b = ⟨K, h, cs.take b.toNat, ds.take b.toNat, 0⟩ := by unfold begF; rw [if_pos o, if_pos e]
end

set_option maxHeartbeats 4000000 in
theorem Begin_any (K h : Int) (A : Option Addr) (n c : Nat) (cs : List Int) (A' : Option Addr) (n' c' : Nat) (ds : List Int) (b : Int) (w : World) (hT : Tin w A n c cs A' n' c' ds) :
    Calls Try.prog 44 #[.agg #[.int .i64 K, .int .i64 h, .slice A n c, .slice A' n' c'], .int .i64 b] w (FourPost (begF K h cs ds b) w) := by
  have HT := hide hT
  have L1 := hT.1.length
  have L2 := hT.2.length
  have B0 := hide ((Below.refl w.heap.size w).alloc (Nat.le_refl _) (.cells #[.int .i64 K, .int .i64 h, .slice A n c, .slice A' n' c'] 24))
  have K0 := hide (Bk.born w 24 #[.int .i64 K, .int .i64 h, .slice A n c, .slice A' n' c'])
  have R0 := hide (Bk.bornAt (w := w.alloc (.cells #[.int .i64 K, .int .i64 h, .slice A n c, .slice A' n' c'] 24)) (g := w.heap.size + 1) (t := 24) (cs := #[.int .i64 0, .int .i64 0, .slice none 0 0, .slice none 0 0]) (by simp))
  replace K0 := hide (K0.out.more (.cells #[.int .i64 0, .int .i64 0, .slice none 0 0, .slice none 0 0] 24))
  replace B0 := hide (B0.out.alloc (by simp) (.cells #[.int .i64 0, .int .i64 0, .slice none 0 0, .slice none 0 0] 24))
  clear hT
  by_cases he : errT K h cs ds = 0
  case neg =>
    have HV := hide (begF_task (b := b) (not_okT he))
    have HE := hide (errT_ne he)
    clear he
    go_enter Try.func44, Try.ntmps44
    go_wp2_with fail
    refine (Validate_any K h _ n c cs _ n' c' ds _ (HT.out.below B0.out (Nat.le_refl _))).mono ?_
    rw [HE.out]
    rintro e w1 ⟨rfl, b1⟩
    have B1 := hide (B0.out.trans (b1.mono B0.out.size))
    have K1 := hide (K0.out.keep b1 K0.out.in_)
    have R1 := hide (R0.out.keep b1 R0.out.in_)
    clear b1
    obtain ⟨r0, r1, r2, r3, _⟩ := R1.out.four
    have f0 := R1.out.fr 0
    have f1 := R1.out.fr 1
    have f2 := R1.out.fr 2
    have f3 := R1.out.fr 3
    obtain ⟨z0, z1, z2, z3, _⟩ := (R1.out.set4 (.int .i64 0) (.int .i64 0) (.slice none 0 0) (.slice none 0 0)).four
    go_wp2_with fail
    refine bodyPost_ret (v := .tuple #[.agg #[.int .i64 0, .int .i64 0, .slice none 0 0, .slice none 0 0], .int .i64 1]) ?_ rfl (by rw [HV.out]; exact ⟨_, _, _, _, _, _, rfl, Own.nil _ _, Own.nil _ _, below_set4 B1.out (by omega) _ _ _ _⟩)
    simp [results, Try.results44, go_sem, z0, z1, z2, z3]
  have o := errT_zero he
  have hn1 : 1 ≤ n' := by have := o.n1; omega
  have hn2 : n' ≤ 12 := by have := o.n2; omega
  obtain rfl : n = n' := by have := o.c.1; omega
  have OT := hide o
  have LN := hide L2
  have HE := hide he
  clear o he
  by_cases e1 : 1 ≤ b ∧ b ≤ ds.length
  case neg =>
    have HV := hide (begF_no OT.out e1)
    rw [L2] at e1
    by_cases e2 : b < 1
    · clear e1 L1 L2
      go_enter Try.func44, Try.ntmps44
      go_wp2_with fail
      refine (Validate_any K h _ n c cs _ n c' ds _ (HT.out.below B0.out (Nat.le_refl _))).mono ?_
      rw [HE.out]
      rintro e w1 ⟨rfl, b1⟩
      have B1 := hide (B0.out.trans (b1.mono B0.out.size))
      have K1 := hide (K0.out.keep b1 K0.out.in_)
      have R1 := hide (R0.out.keep b1 R0.out.in_)
      clear b1
      obtain ⟨k0, k1, k2, k3, _⟩ := K1.out.four
      obtain ⟨r0, r1, r2, r3, _⟩ := R1.out.four
      have f0 := R1.out.fr 0
      have f1 := R1.out.fr 1
      have f2 := R1.out.fr 2
      have f3 := R1.out.fr 3
      obtain ⟨z0, z1, z2, z3, _⟩ := (R1.out.set4 (.int .i64 0) (.int .i64 0) (.slice none 0 0) (.slice none 0 0)).four
      go_wp2_with fail
      refine bodyPost_ret (v := .tuple #[.agg #[.int .i64 0, .int .i64 0, .slice none 0 0, .slice none 0 0], .int .i64 1]) ?_ rfl (by rw [HV.out]; exact ⟨_, _, _, _, _, _, rfl, Own.nil _ _, Own.nil _ _, below_set4 B1.out (by omega) _ _ _ _⟩)
      simp [results, Try.results44, go_sem, z0, z1, z2, z3]
    · have e3 : (n : Int) < b := by omega
      clear e1 L1 L2
      go_enter Try.func44, Try.ntmps44
      go_wp2_with fail
      refine (Validate_any K h _ n c cs _ n c' ds _ (HT.out.below B0.out (Nat.le_refl _))).mono ?_
      rw [HE.out]
      rintro e w1 ⟨rfl, b1⟩
      have B1 := hide (B0.out.trans (b1.mono B0.out.size))
      have K1 := hide (K0.out.keep b1 K0.out.in_)
      have R1 := hide (R0.out.keep b1 R0.out.in_)
      clear b1
      obtain ⟨k0, k1, k2, k3, _⟩ := K1.out.four
      obtain ⟨r0, r1, r2, r3, _⟩ := R1.out.four
      have f0 := R1.out.fr 0
      have f1 := R1.out.fr 1
      have f2 := R1.out.fr 2
      have f3 := R1.out.fr 3
      obtain ⟨z0, z1, z2, z3, _⟩ := (R1.out.set4 (.int .i64 0) (.int .i64 0) (.slice none 0 0) (.slice none 0 0)).four
      go_wp2_with fail
      refine bodyPost_ret (v := .tuple #[.agg #[.int .i64 0, .int .i64 0, .slice none 0 0, .slice none 0 0], .int .i64 1]) ?_ rfl (by rw [HV.out]; exact ⟨_, _, _, _, _, _, rfl, Own.nil _ _, Own.nil _ _, below_set4 B1.out (by omega) _ _ _ _⟩)
      simp [results, Try.results44, go_sem, z0, z1, z2, z3]
  have HV := hide (begF_ok OT.out e1)
  rw [L2] at e1
  obtain ⟨i, rfl⟩ : ∃ i : Nat, b = (i : Int) := ⟨b.toNat, by omega⟩
  rw [Int.toNat_natCast] at HV
  have i1 : 1 ≤ i := by omega
  have i2 : i ≤ n := by omega
  have hc1 : n ≤ c := HT.out.1.cap
  have hc2 : n ≤ c' := HT.out.2.cap
  have a1 : ¬ (i : Int) < 1 := by omega
  have a2 : ¬ (n : Int) < i := by omega
  have a3 : i ≤ c := by omega
  have a4 : i ≤ c' := by omega
  clear e1 L1 L2
  go_enter Try.func44, Try.ntmps44
  go_wp2_with fail
  refine (Validate_any K h _ n c cs _ n c' ds _ (HT.out.below B0.out (Nat.le_refl _))).mono ?_
  rw [HE.out]
  rintro e w1 ⟨rfl, b1⟩
  have B1 := hide (B0.out.trans (b1.mono B0.out.size))
  have K1 := hide (K0.out.keep b1 K0.out.in_)
  have R1 := hide (R0.out.keep b1 R0.out.in_)
  clear b1
  obtain ⟨k0, k1, k2, k3, _⟩ := K1.out.four
  have f2 := K1.out.fr 2
  have f3 := K1.out.fr 3
  go_wp2_with fail
  go_region
  all_goals
    clear k0 k1 k2 k3 f2 f3
    have K2 := hide ((K1.out.set23 (.slice A i c) (.slice A' i c')).draw)
    have R2 := hide (((R1.out.apart (p := ⟨w.heap.size, 2, none⟩) (by simp) (.slice A i c)).apart (p := ⟨w.heap.size, 3, none⟩) (by simp) (.slice A' i c')).draw)
    have B2 := hide (((B1.out.setCell (p := ⟨w.heap.size, 2, none⟩) (Nat.le_refl _) (.slice A i c)).setCell (p := ⟨w.heap.size, 3, none⟩) (Nat.le_refl _) (.slice A' i c')).drew)
    generalize ((w1.setCell ⟨w.heap.size, 2, none⟩ (.slice A i c)).setCell ⟨w.heap.size, 3, none⟩ (.slice A' i c')).drew = W at *
    obtain ⟨k0, k1, k2, k3, _⟩ := K2.out.four
    go_wp2_with fail
    refine (copied_any K h _ i c (cs.take i) _ i c' (ds.take i) _ ((HT.out.take i i2 i2).below B2.out (Nat.le_refl _)) (by omega) (by omega) (by omega) (by omega)).mono ?_
    rintro e w4 ⟨A2, n2, c2, A3, n3, c3, rfl, o2, o3, b2, dj⟩
    have B3 := hide (B2.out.trans (b2.mono B2.out.size))
    have R3 := hide (R2.out.keep b2 R2.out.in_)
    have P3 := hide (o2.more (B' := w.heap.size + 2) R2.out.in_)
    have Q3 := hide (o3.more (B' := w.heap.size + 2) R2.out.in_)
    have DJ := hide dj
    clear b2 o2 o3 k0 k1 k2 k3 dj
    obtain ⟨r0, r1, r2, r3, _⟩ := R3.out.four
    have f0 := R3.out.fr 0
    have f1 := R3.out.fr 1
    have f2 := R3.out.fr 2
    have f3 := R3.out.fr 3
    obtain ⟨z0, z1, z2, z3, _⟩ := (R3.out.set4 (.int .i64 K) (.int .i64 h) (.slice A2 n2 c2) (.slice A3 n3 c3)).four
    go_wp2_with fail
    refine bodyPost_ret (v := .tuple #[.agg #[.int .i64 K, .int .i64 h, .slice A2 n2 c2, .slice A3 n3 c3], .int .i64 0]) ?_ rfl (by rw [HV.out]; exact ⟨_, _, _, _, _, _, rfl, (P3.out.set4 (by omega) _ _ _ _).more (by omega), (Q3.out.set4 (by omega) _ _ _ _).more (by omega), below_set4 B3.out (by omega) _ _ _ _⟩)
    simp [results, Try.results44, go_sem, z0, z1, z2, z3]

end Go.Proofs.Ytlndjjdggedljaa

/- WalkBr -/
namespace Go.Proofs.Ytlndjjdggedljaa
open Go.RowKit

theorem below2 (w : World) (o0 o1 : Obj) : Below w.heap.size w ((w.alloc o0).alloc o1).drew := by
  refine (((Below.refl w.heap.size w).alloc (Nat.le_refl _) o0).alloc ?_ o1).drew
  all_goals (simp; try omega)

set_option maxHeartbeats 4000000 in
theorem rfirst_any (K h : Int) (A : Option Addr) (n c : Nat) (cs : List Int) (A' : Option Addr) (n' c' : Nat) (ds : List Int) (i : Nat) (w : World) (hT : Tin w A n c cs A' n' c' ds) (i1 : 1 ≤ i) (i2 : i ≤ n) (i3 : i ≤ n') :
    Calls Try.prog 69 #[.agg #[.int .i64 K, .int .i64 h, .slice A n c, .slice A' n' c'], .int .i64 i] w fun e w' => e = .returned (.agg #[.int .i64 K, .int .i64 h, .slice A i c, .slice A' i c']) ∧ Below w.heap.size w w' := by
  have hc1 : n ≤ c := hT.1.cap
  have hc2 : n' ≤ c' := hT.2.cap
  have a3 : i ≤ c := by omega
  have a4 : i ≤ c' := by omega
  have HT := hide hT
  have L1 := hT.1.length
  have L2 := hT.2.length
  have B0 := hide ((Below.refl w.heap.size w).alloc (Nat.le_refl _) (.cells #[.int .i64 K, .int .i64 h, .slice A n c, .slice A' n' c'] 24))
  have K0 := hide (Bk.born w 24 #[.int .i64 K, .int .i64 h, .slice A n c, .slice A' n' c'])
  have R0 := hide (Bk.bornAt (w := w.alloc (.cells #[.int .i64 K, .int .i64 h, .slice A n c, .slice A' n' c'] 24)) (g := w.heap.size + 1) (t := 24) (cs := #[.int .i64 0, .int .i64 0, .slice none 0 0, .slice none 0 0]) (by simp))
  replace K0 := hide (K0.out.more (.cells #[.int .i64 0, .int .i64 0, .slice none 0 0, .slice none 0 0] 24))
  replace B0 := hide (B0.out.alloc (by simp) (.cells #[.int .i64 0, .int .i64 0, .slice none 0 0, .slice none 0 0] 24))
  clear hT
  clear L1 L2
  obtain ⟨k0, k1, k2, k3, _⟩ := K0.out.four
  obtain ⟨r0, r1, r2, r3, _⟩ := R0.out.four
  have f0 := R0.out.fr 0
  have f1 := R0.out.fr 1
  have f2 := R0.out.fr 2
  have f3 := R0.out.fr 3
  go_enter Try.func69, Try.ntmps69
  go_wp2_with fail
  go_region
  all_goals
    clear k0 k1 k2 k3 r0 r1 r2 r3 f0 f1 f2 f3
    have Z := hide ((Bk.bornAt (w := w.alloc (.cells #[.int .i64 K, .int .i64 h, .slice A n c, .slice A' n' c'] 24)) (g := w.heap.size + 1) (t := 24) (cs := #[.int .i64 K, .int .i64 h, .slice A i c, .slice A' i c']) (by simp)).draw)
    obtain ⟨z0, z1, z2, z3, _⟩ := Z.out.four
    go_wp2_with fail
    refine bodyPost_ret (v := .agg #[.int .i64 K, .int .i64 h, .slice A i c, .slice A' i c']) ?hres rfl ?hq
    case hres => (simp [results, Try.results69, go_sem, z0, z1, z2, z3]; done)
    case hq => exact ⟨rfl, below2 w _ _⟩

set_option maxHeartbeats 4000000 in
theorem rBegin_any (K h : Int) (A : Option Addr) (n c : Nat) (cs : List Int) (A' : Option Addr) (n' c' : Nat) (ds : List Int) (b : Int) (w : World) (hT : Tin w A n c cs A' n' c' ds) :
    Calls Try.prog 45 #[.agg #[.int .i64 K, .int .i64 h, .slice A n c, .slice A' n' c'], .int .i64 b] w (FourPost (begF K h cs ds b) w) := by
  have HT := hide hT
  have L1 := hT.1.length
  have L2 := hT.2.length
  have B0 := hide ((Below.refl w.heap.size w).alloc (Nat.le_refl _) (.cells #[.int .i64 K, .int .i64 h, .slice A n c, .slice A' n' c'] 24))
  have K0 := hide (Bk.born w 24 #[.int .i64 K, .int .i64 h, .slice A n c, .slice A' n' c'])
  have R0 := hide (Bk.bornAt (w := w.alloc (.cells #[.int .i64 K, .int .i64 h, .slice A n c, .slice A' n' c'] 24)) (g := w.heap.size + 1) (t := 24) (cs := #[.int .i64 0, .int .i64 0, .slice none 0 0, .slice none 0 0]) (by simp))
  replace K0 := hide (K0.out.more (.cells #[.int .i64 0, .int .i64 0, .slice none 0 0, .slice none 0 0] 24))
  replace B0 := hide (B0.out.alloc (by simp) (.cells #[.int .i64 0, .int .i64 0, .slice none 0 0, .slice none 0 0] 24))
  clear hT
  by_cases he : errT K h cs ds = 0
  case neg =>
    have HV := hide (begF_task (b := b) (not_okT he))
    have HE := hide (errT_ne he)
    clear he
    go_enter Try.func45, Try.ntmps45
    go_wp2_with fail
    refine (rValidate_any K h _ n c cs _ n' c' ds _ (HT.out.below B0.out (Nat.le_refl _))).mono ?_
    rw [HE.out]
    rintro e w1 ⟨rfl, b1⟩
    have B1 := hide (B0.out.trans (b1.mono B0.out.size))
    have K1 := hide (K0.out.keep b1 K0.out.in_)
    have R1 := hide (R0.out.keep b1 R0.out.in_)
    clear b1
    obtain ⟨r0, r1, r2, r3, _⟩ := R1.out.four
    have f0 := R1.out.fr 0
    have f1 := R1.out.fr 1
    have f2 := R1.out.fr 2
    have f3 := R1.out.fr 3
    obtain ⟨z0, z1, z2, z3, _⟩ := (R1.out.set4 (.int .i64 0) (.int .i64 0) (.slice none 0 0) (.slice none 0 0)).four
    go_wp2_with fail
    refine bodyPost_ret (v := .tuple #[.agg #[.int .i64 0, .int .i64 0, .slice none 0 0, .slice none 0 0], .int .i64 1]) ?_ rfl (by rw [HV.out]; exact ⟨_, _, _, _, _, _, rfl, Own.nil _ _, Own.nil _ _, below_set4 B1.out (by omega) _ _ _ _⟩)
    simp [results, Try.results45, go_sem, z0, z1, z2, z3]
  have o := errT_zero he
  have hn1 : 1 ≤ n' := by have := o.n1; omega
  have hn2 : n' ≤ 12 := by have := o.n2; omega
  obtain rfl : n = n' := by have := o.c.1; omega
  have OT := hide o
  have LN := hide L2
  have HE := hide he
  clear o he
  by_cases e1 : 1 ≤ b ∧ b ≤ ds.length
  case neg =>
    have HV := hide (begF_no OT.out e1)
    rw [L2] at e1
    have g1 : withinB b 1 n = false := withinB_no e1
    clear e1 L1 L2
    go_enter Try.func45, Try.ntmps45
    go_wp2_with fail
    refine (rValidate_any K h _ n c cs _ n c' ds _ (HT.out.below B0.out (Nat.le_refl _))).mono ?_
    rw [HE.out]
    rintro e w1 ⟨rfl, b1⟩
    have B1 := hide (B0.out.trans (b1.mono B0.out.size))
    have K1 := hide (K0.out.keep b1 K0.out.in_)
    have R1 := hide (R0.out.keep b1 R0.out.in_)
    clear b1
    obtain ⟨k0, k1, k2, k3, _⟩ := K1.out.four
    go_wp2_with fail
    refine (within_any _ _ _ _).mono ?_
    rw [g1]
    rintro e wq ⟨rfl, rfl⟩
    obtain ⟨r0, r1, r2, r3, _⟩ := R1.out.four
    have f0 := R1.out.fr 0
    have f1 := R1.out.fr 1
    have f2 := R1.out.fr 2
    have f3 := R1.out.fr 3
    obtain ⟨z0, z1, z2, z3, _⟩ := (R1.out.set4 (.int .i64 0) (.int .i64 0) (.slice none 0 0) (.slice none 0 0)).four
    go_wp2_with fail
    refine bodyPost_ret (v := .tuple #[.agg #[.int .i64 0, .int .i64 0, .slice none 0 0, .slice none 0 0], .int .i64 1]) ?_ rfl (by rw [HV.out]; exact ⟨_, _, _, _, _, _, rfl, Own.nil _ _, Own.nil _ _, below_set4 B1.out (by omega) _ _ _ _⟩)
    simp [results, Try.results45, go_sem, z0, z1, z2, z3]
  have HV := hide (begF_ok OT.out e1)
  rw [L2] at e1
  obtain ⟨i, rfl⟩ : ∃ i : Nat, b = (i : Int) := ⟨b.toNat, by omega⟩
  rw [Int.toNat_natCast] at HV
  have i1 : 1 ≤ i := by omega
  have i2 : i ≤ n := by omega
  have hc1 : n ≤ c := HT.out.1.cap
  have hc2 : n ≤ c' := HT.out.2.cap
  have g1 : withinB (i : Int) 1 n = true := withinB_true e1.1 e1.2
  clear e1 L1 L2
  go_enter Try.func45, Try.ntmps45
  go_wp2_with fail
  refine (rValidate_any K h _ n c cs _ n c' ds _ (HT.out.below B0.out (Nat.le_refl _))).mono ?_
  rw [HE.out]
  rintro e w1 ⟨rfl, b1⟩
  have B1 := hide (B0.out.trans (b1.mono B0.out.size))
  have K1 := hide (K0.out.keep b1 K0.out.in_)
  have R1 := hide (R0.out.keep b1 R0.out.in_)
  clear b1
  obtain ⟨k0, k1, k2, k3, _⟩ := K1.out.four
  go_wp2_with fail
  refine (within_any _ _ _ _).mono ?_
  rw [g1]
  rintro e wq ⟨rfl, rfl⟩
  clear g1
  go_wp2_with fail
  refine (rfirst_any K h _ n c cs _ n c' ds i _ (HT.out.below B1.out (Nat.le_refl _)) i1 i2 i2).mono ?_
  rintro e w2 ⟨rfl, b2⟩
  have B2 := hide (B1.out.trans (b2.mono B1.out.size))
  have R2 := hide (R1.out.keep b2 R1.out.in_)
  clear b2
  go_wp2_with fail
  refine (rCopy_any K h _ i c (cs.take i) _ i c' (ds.take i) _ ((HT.out.take i i2 i2).below B2.out (Nat.le_refl _)) (by omega) (by omega) (by omega) (by omega)).mono ?_
  rintro e w4 ⟨A2, n2, c2, A3, n3, c3, rfl, o2, o3, b2, dj⟩
  have B3 := hide (B2.out.trans (b2.mono B2.out.size))
  have R3 := hide (R2.out.keep b2 R2.out.in_)
  have P3 := hide (o2.more (B' := w.heap.size + 2) R2.out.in_)
  have Q3 := hide (o3.more (B' := w.heap.size + 2) R2.out.in_)
  have DJ := hide dj
  clear b2 o2 o3 k0 k1 k2 k3 dj
  obtain ⟨r0, r1, r2, r3, _⟩ := R3.out.four
  have f0 := R3.out.fr 0
  have f1 := R3.out.fr 1
  have f2 := R3.out.fr 2
  have f3 := R3.out.fr 3
  obtain ⟨z0, z1, z2, z3, _⟩ := (R3.out.set4 (.int .i64 K) (.int .i64 h) (.slice A2 n2 c2) (.slice A3 n3 c3)).four
  go_wp2_with fail
  refine bodyPost_ret (v := .tuple #[.agg #[.int .i64 K, .int .i64 h, .slice A2 n2 c2, .slice A3 n3 c3], .int .i64 0]) ?_ rfl (by rw [HV.out]; exact ⟨_, _, _, _, _, _, rfl, (P3.out.set4 (by omega) _ _ _ _).more (by omega), (Q3.out.set4 (by omega) _ _ _ _).more (by omega), below_set4 B3.out (by omega) _ _ _ _⟩)
  simp [results, Try.results45, go_sem, z0, z1, z2, z3]

end Go.Proofs.Ytlndjjdggedljaa
