/- Walk of Scale. -/
import Derived.Test.YtjhnfcmijijdcaaMathF
namespace Go.Proofs.Ytjhnfcmijijdcaa
open Go.RowKit

theorem Bk.put0 {w : World} {g : Nat} {t : TypeId} {x y z u : Value} (h : Bk w g t #[x, y, z, u]) (x' : Value) : Bk (w.setCell ⟨g, 0, none⟩ x') g t #[x', y, z, u] := h.put 0 x'
set_option maxHeartbeats 4000000 in
theorem Scale_any (K h : Int) (A : Option Addr) (n c : Nat) (cs : List Int) (A' : Option Addr) (n' c' : Nat) (ds : List Int) (b : Int) (w : World) (hT : Tin w A n c cs A' n' c' ds) :
    Calls Try.prog 47 #[.agg #[.int .i64 K, .int .i64 h, .slice A n c, .slice A' n' c'], .int .i64 b] w (FourPost (scaleF K h cs ds b) w) := by
  have HT := hide hT
  have L1 := hT.1.length
  have L2 := hT.2.length
  have B0 := hide ((Below.refl w.heap.size w).alloc (Nat.le_refl _) (.cells #[.int .i64 K, .int .i64 h, .slice A n c, .slice A' n' c'] 24))
  have K0 := hide (Bk.born w 24 #[.int .i64 K, .int .i64 h, .slice A n c, .slice A' n' c'])
  have R0 := hide (Bk.bornAt (w := w.alloc (.cells #[.int .i64 K, .int .i64 h, .slice A n c, .slice A' n' c'] 24)) (g := w.heap.size + 1) (t := 24) (cs := #[.int .i64 0, .int .i64 0, .slice none 0 0, .slice none 0 0]) (by simp))
  replace K0 := hide (K0.out.more (.cells #[.int .i64 0, .int .i64 0, .slice none 0 0, .slice none 0 0] 24))
  replace B0 := hide (B0.out.alloc (by simp) (.cells #[.int .i64 0, .int .i64 0, .slice none 0 0, .slice none 0 0] 24))
  clear hT
  by_cases he : errT K h cs ds = 0
  case neg =>
    have HV := hide (scaleF_task (b := b) (not_okT he))
    have HE := hide (errT_ne he)
    clear he
    go_enter Try.func47, Try.ntmps47
    go_wp2_with fail
    refine (Validate_any K h _ n c cs _ n' c' ds _ (HT.out.below B0.out (Nat.le_refl _))).mono ?_
    rw [HE.out]
    rintro e w1 ⟨rfl, b1⟩
    have B1 := hide (B0.out.trans (b1.mono B0.out.size))
    have R1 := hide (R0.out.keep b1 R0.out.in_)
    clear b1
    obtain ⟨r0, r1, r2, r3, _⟩ := R1.out.four
    have f0 := R1.out.fr 0
    have f1 := R1.out.fr 1
    have f2 := R1.out.fr 2
    have f3 := R1.out.fr 3
    obtain ⟨z0, z1, z2, z3, _⟩ := (R1.out.set4 (.int .i64 0) (.int .i64 0) (.slice none 0 0) (.slice none 0 0)).four
    go_wp2_with fail
    refine bodyPost_ret (v := .tuple #[.agg #[.int .i64 0, .int .i64 0, .slice none 0 0, .slice none 0 0], .int .i64 1]) ?_ rfl (by rw [HV.out]; exact ⟨_, _, _, _, _, _, rfl, Own.nil _ _, Own.nil _ _, below_set4 B1.out (by omega) _ _ _ _⟩)
    simp [results, Try.results47, go_sem, z0, z1, z2, z3]
  have o := errT_zero he
  have hn1 : 1 ≤ n' := by have := o.n1; omega
  have hn2 : n' ≤ 12 := by have := o.n2; omega
  obtain rfl : n = n' := by have := o.c.1; omega
  have OT := hide o
  have LN := hide L2
  have HE := hide he
  clear o he
  have HSF := hide (scaleF_ok (b := b) OT.out)
  have kk0 := OT.out.K0
  have kk1 := OT.out.K1
  by_cases c0 : b ≤ -1
  case pos =>
    have hcl : clP b = (-1) := by unfold clP; (repeat' split) <;> omega
    rw [hcl, show K * (-1) = (-K) by omega] at HSF
    clear hcl
    go_enter Try.func47, Try.ntmps47
    go_wp2_with fail
    refine (Validate_any K h _ n c cs _ n c' ds _ (HT.out.below B0.out (Nat.le_refl _))).mono ?_
    rw [HE.out]
    rintro e w1 ⟨rfl, b1⟩
    have B1 := hide (B0.out.trans (b1.mono B0.out.size))
    have K1 := hide (K0.out.keep b1 K0.out.in_)
    have R1 := hide (R0.out.keep b1 R0.out.in_)
    clear b1
    obtain ⟨k0, k1, k2, k3, _⟩ := K1.out.four
    go_wp2_with fail
    refine (copied_any K h _ n c cs _ n c' ds _ (HT.out.below B1.out (Nat.le_refl _)) (by omega) (by omega) (by omega) (by omega)).mono ?_
    rintro e w2 ⟨A2, n2, c2, A3, n3, c3, rfl, o2, o3, b2, dj⟩
    obtain rfl : n2 = n := by have := o2.len; omega
    obtain rfl : n3 = n2 := by have := o3.len; omega
    have B2 := hide (B1.out.trans (b2.mono B1.out.size))
    have K2 := hide (K1.out.keep b2 K1.out.in_)
    have R2 := hide (R1.out.keep b2 R1.out.in_)
    have P2 := hide (o2.more (B' := w.heap.size + 2) R1.out.in_)
    have Q2 := hide (o3.more (B' := w.heap.size + 2) R1.out.in_)
    have DJ := hide dj
    clear b2 o2 o3 k0 k1 k2 k3 dj
    obtain ⟨g3, rfl, hg3⟩ : ∃ g3, A3 = some ⟨g3, 0, none⟩ ∧ w.heap.size + 2 ≤ g3 := by
      rcases Q2.out.form with ⟨_, h0, _⟩ | ⟨g, e, hg, _⟩
      · omega
      · exact ⟨g, e, hg⟩
    have hap : (Value.slice A2 n3 c2).ownBlock ≠ some g3 := by
      rcases P2.out.form with ⟨_, h0, _⟩ | ⟨g, e, hg, _⟩
      · omega
      · subst e
        have := DJ.out g rfl
        simp [Value.ownBlock]
        intro hh
        subst hh
        exact this rfl
    have wk : IntKind.i64.wrap (-K) = (-K) := IntWalk.i64_in _ (by omega)
    have K3 := hide (Bk.put0 (K2.out.set4 (.int .i64 K) (.int .i64 h) (.slice A2 n3 c2) (.slice (some ⟨g3, 0, none⟩) n3 c3)) (.int .i64 (-K)))
    have P3 := hide ((P2.out.set4 (g := w.heap.size) (by omega) (.int .i64 K) (.int .i64 h) (.slice A2 n3 c2) (.slice (some ⟨g3, 0, none⟩) n3 c3)).set_apart (g := w.heap.size) (by omega) 0 (.int .i64 (-K)))
    have Q3 := hide ((Q2.out.set4 (g := w.heap.size) (by omega) (.int .i64 K) (.int .i64 h) (.slice A2 n3 c2) (.slice (some ⟨g3, 0, none⟩) n3 c3)).set_apart (g := w.heap.size) (by omega) 0 (.int .i64 (-K)))
    have R3 := hide ((R2.out.apart4 (b := w.heap.size) (by omega) (.int .i64 K) (.int .i64 h) (.slice A2 n3 c2) (.slice (some ⟨g3, 0, none⟩) n3 c3)).apart (p := ⟨w.heap.size, 0, none⟩) (by simp) (.int .i64 (-K)))
    have B3 := hide ((below_set4 (g := w.heap.size) B2.out (Nat.le_refl _) (.int .i64 K) (.int .i64 h) (.slice A2 n3 c2) (.slice (some ⟨g3, 0, none⟩) n3 c3)).setCell (p := ⟨w.heap.size, 0, none⟩) (Nat.le_refl _) (.int .i64 (-K)))
    obtain ⟨k0, k1, k2, k3, _⟩ := K2.out.four
    have f0 := K2.out.fr 0
    have f1 := K2.out.fr 1
    have f2 := K2.out.fr 2
    have f3 := K2.out.fr 3
    obtain ⟨y0, y1, y2, y3, _⟩ := (K2.out.set4 (.int .i64 K) (.int .i64 h) (.slice A2 n3 c2) (.slice (some ⟨g3, 0, none⟩) n3 c3)).four
    obtain ⟨z0, z1, z2, z3, _⟩ := K3.out.four
    go_wp2_with fail
    clear f0 f1 f2 f3 k0 k1 k2 k3 y0 y1 y2 y3 z0 z1 z2 z3 wk
    go_loopw [27] (fun i wr => ∃ k : Nat, k ≤ n3 ∧ i = .int .i64 k ∧ Bk wr w.heap.size 24 #[.int .i64 (-K), .int .i64 h, .slice A2 n3 c2, .slice (some ⟨g3, 0, none⟩) n3 c3] ∧ Bk wr (w.heap.size + 1) 24 #[.int .i64 0, .int .i64 0, .slice none 0 0, .slice none 0 0] ∧ Own wr (w.heap.size + 2) A2 n3 c2 cs ∧ Own wr (w.heap.size + 2) (some ⟨g3, 0, none⟩) n3 c3 (mulTo ds (-1) k) ∧ Below w.heap.size w wr) (fun i _ => n3 - (intOf i).toNat)
    case atStart => exact ⟨0, by omega, rfl, K3.out, R3.out, P3.out, by rw [mulTo_zero]; exact Q3.out, B3.out⟩
    case round =>
      obtain ⟨k, hk, rfl, kb, rb, pb, qb, bb⟩ := hrel
      have KB := hide kb
      have RB := hide rb
      have PB := hide pb
      have QB := hide qb
      have BB := hide bb
      clear kb rb pb qb bb
      obtain ⟨k0, k1, k2, k3, _⟩ := KB.out.four
      by_cases hlt : k < n3
      · have cx := QB.out.cell hlt
        rw [mulTo_get (by rw [LN.out]; exact hlt), if_neg (Nat.lt_irrefl k)] at cx
        have fz := QB.out.frozen k
        have x0 := (OT.out.d.2 k (by rw [LN.out]; exact hlt)).1
        have x1 := (OT.out.d.2 k (by rw [LN.out]; exact hlt)).2
        have HS := hide (fun x hx => mulTo_next (ds := ds) (s := (-1)) (k := k) (x := x) (by rw [LN.out]; exact hlt) hx)
        generalize ds.getD k 0 = x at *
        have wx : IntKind.i64.wrap (-x) = (-x) := IntWalk.i64_in _ (by omega)
        have l5 : (k : Int) < n3 := by omega
        go_wp2_with fail
        go_roundw
        case rel => exact ⟨k + 1, by omega, by go_num, (KB.out.apart (p := ⟨g3, k, none⟩) (by simp; omega) _), (RB.out.apart (p := ⟨g3, k, none⟩) (by simp; omega) _), (Own.apart (p := ⟨g3, k, none⟩) PB.out hap _), by rw [← HS.out (-x) (by first | rfl | omega)]; exact (QB.out.stored k _), (BB.out.setCell (p := ⟨g3, k, none⟩) (by simp; omega) _)⟩
        case measure => simp [intOf]; omega
      · obtain rfl : k = n3 := by omega
        have Q9 := hide (by have := QB.out; rw [show mulTo ds (-1) k = mulL ds (-1) by unfold mulL; rw [LN.out]] at this; exact this)
        go_wp2_with fail
        refine (checked_any (-K) h _ k c2 cs _ k c3 (mulL ds (-1)) _ ⟨PB.out.row, Q9.out.row⟩).mono ?_
        rintro e w4 ⟨rfl, b4⟩
        have B4 := hide (BB.out.trans (b4.mono BB.out.size))
        have R4 := hide (RB.out.keep b4 RB.out.in_)
        have P4 := hide (PB.out.below b4 (Nat.le_refl _))
        have Q4 := hide (Q9.out.below b4 (Nat.le_refl _))
        clear b4
        by_cases o2 : OkT (-K) h cs (mulL ds (-1))
        · have HV := hide (HSF.out.trans (toldF_ok o2))
          rw [toldV_ok (errT_ok o2)]
          clear o2
          obtain ⟨r0, r1, r2, r3, _⟩ := R4.out.four
          have f0 := R4.out.fr 0
          have f1 := R4.out.fr 1
          have f2 := R4.out.fr 2
          have f3 := R4.out.fr 3
          obtain ⟨z0, z1, z2, z3, _⟩ := (R4.out.set4 (.int .i64 (-K)) (.int .i64 h) (.slice A2 k c2) (.slice (some ⟨g3, 0, none⟩) k c3)).four
          go_wp2_with fail
          refine bodyPost_ret (v := .tuple #[.agg #[.int .i64 (-K), .int .i64 h, .slice A2 k c2, .slice (some ⟨g3, 0, none⟩) k c3], .int .i64 0]) ?_ rfl (by rw [HV.out]; exact ⟨_, _, _, _, _, _, rfl, (P4.out.set4 (by omega) _ _ _ _).more (by omega), (Q4.out.set4 (by omega) _ _ _ _).more (by omega), below_set4 B4.out (by omega) _ _ _ _⟩)
          simp [results, Try.results47, go_sem, z0, z1, z2, z3]
        · have HV := hide (HSF.out.trans (toldF_no o2))
          have e2 := errT_no o2
          rw [toldV_no (by rw [e2]; decide), e2]
          clear o2 e2
          obtain ⟨r0, r1, r2, r3, _⟩ := R4.out.four
          have f0 := R4.out.fr 0
          have f1 := R4.out.fr 1
          have f2 := R4.out.fr 2
          have f3 := R4.out.fr 3
          obtain ⟨z0, z1, z2, z3, _⟩ := (R4.out.set4 (.int .i64 0) (.int .i64 0) (.slice none 0 0) (.slice none 0 0)).four
          go_wp2_with fail
          refine bodyPost_ret (v := .tuple #[.agg #[.int .i64 0, .int .i64 0, .slice none 0 0, .slice none 0 0], .int .i64 1]) ?_ rfl (by rw [HV.out]; exact ⟨_, _, _, _, _, _, rfl, Own.nil _ _, Own.nil _ _, below_set4 B4.out (by omega) _ _ _ _⟩)
          simp [results, Try.results47, go_sem, z0, z1, z2, z3]
  by_cases c1 : 1000 < b
  case pos =>
    have hcl : clP b = 1000 := by unfold clP; (repeat' split) <;> omega
    have d0 : -1 < b := by omega
    clear c0
    rw [hcl] at HSF
    clear hcl
    go_enter Try.func47, Try.ntmps47
    go_wp2_with fail
    refine (Validate_any K h _ n c cs _ n c' ds _ (HT.out.below B0.out (Nat.le_refl _))).mono ?_
    rw [HE.out]
    rintro e w1 ⟨rfl, b1⟩
    have B1 := hide (B0.out.trans (b1.mono B0.out.size))
    have K1 := hide (K0.out.keep b1 K0.out.in_)
    have R1 := hide (R0.out.keep b1 R0.out.in_)
    clear b1
    obtain ⟨k0, k1, k2, k3, _⟩ := K1.out.four
    go_wp2_with fail
    refine (copied_any K h _ n c cs _ n c' ds _ (HT.out.below B1.out (Nat.le_refl _)) (by omega) (by omega) (by omega) (by omega)).mono ?_
    rintro e w2 ⟨A2, n2, c2, A3, n3, c3, rfl, o2, o3, b2, dj⟩
    obtain rfl : n2 = n := by have := o2.len; omega
    obtain rfl : n3 = n2 := by have := o3.len; omega
    have B2 := hide (B1.out.trans (b2.mono B1.out.size))
    have K2 := hide (K1.out.keep b2 K1.out.in_)
    have R2 := hide (R1.out.keep b2 R1.out.in_)
    have P2 := hide (o2.more (B' := w.heap.size + 2) R1.out.in_)
    have Q2 := hide (o3.more (B' := w.heap.size + 2) R1.out.in_)
    have DJ := hide dj
    clear b2 o2 o3 k0 k1 k2 k3 dj
    obtain ⟨g3, rfl, hg3⟩ : ∃ g3, A3 = some ⟨g3, 0, none⟩ ∧ w.heap.size + 2 ≤ g3 := by
      rcases Q2.out.form with ⟨_, h0, _⟩ | ⟨g, e, hg, _⟩
      · omega
      · exact ⟨g, e, hg⟩
    have hap : (Value.slice A2 n3 c2).ownBlock ≠ some g3 := by
      rcases P2.out.form with ⟨_, h0, _⟩ | ⟨g, e, hg, _⟩
      · omega
      · subst e
        have := DJ.out g rfl
        simp [Value.ownBlock]
        intro hh
        subst hh
        exact this rfl
    have wk : IntKind.i64.wrap (K * 1000) = (K * 1000) := IntWalk.i64_in _ (by omega)
    have K3 := hide (Bk.put0 (K2.out.set4 (.int .i64 K) (.int .i64 h) (.slice A2 n3 c2) (.slice (some ⟨g3, 0, none⟩) n3 c3)) (.int .i64 (K * 1000)))
    have P3 := hide ((P2.out.set4 (g := w.heap.size) (by omega) (.int .i64 K) (.int .i64 h) (.slice A2 n3 c2) (.slice (some ⟨g3, 0, none⟩) n3 c3)).set_apart (g := w.heap.size) (by omega) 0 (.int .i64 (K * 1000)))
    have Q3 := hide ((Q2.out.set4 (g := w.heap.size) (by omega) (.int .i64 K) (.int .i64 h) (.slice A2 n3 c2) (.slice (some ⟨g3, 0, none⟩) n3 c3)).set_apart (g := w.heap.size) (by omega) 0 (.int .i64 (K * 1000)))
    have R3 := hide ((R2.out.apart4 (b := w.heap.size) (by omega) (.int .i64 K) (.int .i64 h) (.slice A2 n3 c2) (.slice (some ⟨g3, 0, none⟩) n3 c3)).apart (p := ⟨w.heap.size, 0, none⟩) (by simp) (.int .i64 (K * 1000)))
    have B3 := hide ((below_set4 (g := w.heap.size) B2.out (Nat.le_refl _) (.int .i64 K) (.int .i64 h) (.slice A2 n3 c2) (.slice (some ⟨g3, 0, none⟩) n3 c3)).setCell (p := ⟨w.heap.size, 0, none⟩) (Nat.le_refl _) (.int .i64 (K * 1000)))
    obtain ⟨k0, k1, k2, k3, _⟩ := K2.out.four
    have f0 := K2.out.fr 0
    have f1 := K2.out.fr 1
    have f2 := K2.out.fr 2
    have f3 := K2.out.fr 3
    obtain ⟨y0, y1, y2, y3, _⟩ := (K2.out.set4 (.int .i64 K) (.int .i64 h) (.slice A2 n3 c2) (.slice (some ⟨g3, 0, none⟩) n3 c3)).four
    obtain ⟨z0, z1, z2, z3, _⟩ := K3.out.four
    go_wp2_with fail
    clear f0 f1 f2 f3 k0 k1 k2 k3 y0 y1 y2 y3 z0 z1 z2 z3 wk
    go_loopw [27] (fun i wr => ∃ k : Nat, k ≤ n3 ∧ i = .int .i64 k ∧ Bk wr w.heap.size 24 #[.int .i64 (K * 1000), .int .i64 h, .slice A2 n3 c2, .slice (some ⟨g3, 0, none⟩) n3 c3] ∧ Bk wr (w.heap.size + 1) 24 #[.int .i64 0, .int .i64 0, .slice none 0 0, .slice none 0 0] ∧ Own wr (w.heap.size + 2) A2 n3 c2 cs ∧ Own wr (w.heap.size + 2) (some ⟨g3, 0, none⟩) n3 c3 (mulTo ds 1000 k) ∧ Below w.heap.size w wr) (fun i _ => n3 - (intOf i).toNat)
    case atStart => exact ⟨0, by omega, rfl, K3.out, R3.out, P3.out, by rw [mulTo_zero]; exact Q3.out, B3.out⟩
    case round =>
      obtain ⟨k, hk, rfl, kb, rb, pb, qb, bb⟩ := hrel
      have KB := hide kb
      have RB := hide rb
      have PB := hide pb
      have QB := hide qb
      have BB := hide bb
      clear kb rb pb qb bb
      obtain ⟨k0, k1, k2, k3, _⟩ := KB.out.four
      by_cases hlt : k < n3
      · have cx := QB.out.cell hlt
        rw [mulTo_get (by rw [LN.out]; exact hlt), if_neg (Nat.lt_irrefl k)] at cx
        have fz := QB.out.frozen k
        have x0 := (OT.out.d.2 k (by rw [LN.out]; exact hlt)).1
        have x1 := (OT.out.d.2 k (by rw [LN.out]; exact hlt)).2
        have HS := hide (fun x hx => mulTo_next (ds := ds) (s := 1000) (k := k) (x := x) (by rw [LN.out]; exact hlt) hx)
        generalize ds.getD k 0 = x at *
        have wx : IntKind.i64.wrap (x * 1000) = (x * 1000) := IntWalk.i64_in _ (by omega)
        have l5 : (k : Int) < n3 := by omega
        go_wp2_with fail
        go_roundw
        case rel => exact ⟨k + 1, by omega, by go_num, (KB.out.apart (p := ⟨g3, k, none⟩) (by simp; omega) _), (RB.out.apart (p := ⟨g3, k, none⟩) (by simp; omega) _), (Own.apart (p := ⟨g3, k, none⟩) PB.out hap _), by rw [← HS.out (x * 1000) (by first | rfl | omega)]; exact (QB.out.stored k _), (BB.out.setCell (p := ⟨g3, k, none⟩) (by simp; omega) _)⟩
        case measure => simp [intOf]; omega
      · obtain rfl : k = n3 := by omega
        have Q9 := hide (by have := QB.out; rw [show mulTo ds 1000 k = mulL ds 1000 by unfold mulL; rw [LN.out]] at this; exact this)
        go_wp2_with fail
        refine (checked_any (K * 1000) h _ k c2 cs _ k c3 (mulL ds 1000) _ ⟨PB.out.row, Q9.out.row⟩).mono ?_
        rintro e w4 ⟨rfl, b4⟩
        have B4 := hide (BB.out.trans (b4.mono BB.out.size))
        have R4 := hide (RB.out.keep b4 RB.out.in_)
        have P4 := hide (PB.out.below b4 (Nat.le_refl _))
        have Q4 := hide (Q9.out.below b4 (Nat.le_refl _))
        clear b4
        by_cases o2 : OkT (K * 1000) h cs (mulL ds 1000)
        · have HV := hide (HSF.out.trans (toldF_ok o2))
          rw [toldV_ok (errT_ok o2)]
          clear o2
          obtain ⟨r0, r1, r2, r3, _⟩ := R4.out.four
          have f0 := R4.out.fr 0
          have f1 := R4.out.fr 1
          have f2 := R4.out.fr 2
          have f3 := R4.out.fr 3
          obtain ⟨z0, z1, z2, z3, _⟩ := (R4.out.set4 (.int .i64 (K * 1000)) (.int .i64 h) (.slice A2 k c2) (.slice (some ⟨g3, 0, none⟩) k c3)).four
          go_wp2_with fail
          refine bodyPost_ret (v := .tuple #[.agg #[.int .i64 (K * 1000), .int .i64 h, .slice A2 k c2, .slice (some ⟨g3, 0, none⟩) k c3], .int .i64 0]) ?_ rfl (by rw [HV.out]; exact ⟨_, _, _, _, _, _, rfl, (P4.out.set4 (by omega) _ _ _ _).more (by omega), (Q4.out.set4 (by omega) _ _ _ _).more (by omega), below_set4 B4.out (by omega) _ _ _ _⟩)
          simp [results, Try.results47, go_sem, z0, z1, z2, z3]
        · have HV := hide (HSF.out.trans (toldF_no o2))
          have e2 := errT_no o2
          rw [toldV_no (by rw [e2]; decide), e2]
          clear o2 e2
          obtain ⟨r0, r1, r2, r3, _⟩ := R4.out.four
          have f0 := R4.out.fr 0
          have f1 := R4.out.fr 1
          have f2 := R4.out.fr 2
          have f3 := R4.out.fr 3
          obtain ⟨z0, z1, z2, z3, _⟩ := (R4.out.set4 (.int .i64 0) (.int .i64 0) (.slice none 0 0) (.slice none 0 0)).four
          go_wp2_with fail
          refine bodyPost_ret (v := .tuple #[.agg #[.int .i64 0, .int .i64 0, .slice none 0 0, .slice none 0 0], .int .i64 1]) ?_ rfl (by rw [HV.out]; exact ⟨_, _, _, _, _, _, rfl, Own.nil _ _, Own.nil _ _, below_set4 B4.out (by omega) _ _ _ _⟩)
          simp [results, Try.results47, go_sem, z0, z1, z2, z3]
  have hcl : clP b = b := by unfold clP; (repeat' split) <;> omega
  rw [hcl] at HSF
  have d0 : -1 < b := by omega
  have d1 : b ≤ 1000 := by omega
  clear hcl c0 c1
  go_enter Try.func47, Try.ntmps47
  go_wp2_with fail
  refine (Validate_any K h _ n c cs _ n c' ds _ (HT.out.below B0.out (Nat.le_refl _))).mono ?_
  rw [HE.out]
  rintro e w1 ⟨rfl, b1⟩
  have B1 := hide (B0.out.trans (b1.mono B0.out.size))
  have K1 := hide (K0.out.keep b1 K0.out.in_)
  have R1 := hide (R0.out.keep b1 R0.out.in_)
  clear b1
  obtain ⟨k0, k1, k2, k3, _⟩ := K1.out.four
  go_wp2_with fail
  refine (copied_any K h _ n c cs _ n c' ds _ (HT.out.below B1.out (Nat.le_refl _)) (by omega) (by omega) (by omega) (by omega)).mono ?_
  rintro e w2 ⟨A2, n2, c2, A3, n3, c3, rfl, o2, o3, b2, dj⟩
  obtain rfl : n2 = n := by have := o2.len; omega
  obtain rfl : n3 = n2 := by have := o3.len; omega
  have B2 := hide (B1.out.trans (b2.mono B1.out.size))
  have K2 := hide (K1.out.keep b2 K1.out.in_)
  have R2 := hide (R1.out.keep b2 R1.out.in_)
  have P2 := hide (o2.more (B' := w.heap.size + 2) R1.out.in_)
  have Q2 := hide (o3.more (B' := w.heap.size + 2) R1.out.in_)
  have DJ := hide dj
  clear b2 o2 o3 k0 k1 k2 k3 dj
  obtain ⟨g3, rfl, hg3⟩ : ∃ g3, A3 = some ⟨g3, 0, none⟩ ∧ w.heap.size + 2 ≤ g3 := by
    rcases Q2.out.form with ⟨_, h0, _⟩ | ⟨g, e, hg, _⟩
    · omega
    · exact ⟨g, e, hg⟩
  have hap : (Value.slice A2 n3 c2).ownBlock ≠ some g3 := by
    rcases P2.out.form with ⟨_, h0, _⟩ | ⟨g, e, hg, _⟩
    · omega
    · subst e
      have := DJ.out g rfl
      simp [Value.ownBlock]
      intro hh
      subst hh
      exact this rfl
  have wk : IntKind.i64.wrap (K * b) = (K * b) := IntWalk.i64_in _ ⟨by have := Int.mul_le_mul_of_nonneg_left (c := K) (show -1 ≤ b by omega) kk0; omega, by have := Int.mul_le_mul_of_nonneg_left (c := K) (show b ≤ 1000 by omega) kk0; omega⟩
  have K3 := hide (Bk.put0 (K2.out.set4 (.int .i64 K) (.int .i64 h) (.slice A2 n3 c2) (.slice (some ⟨g3, 0, none⟩) n3 c3)) (.int .i64 (K * b)))
  have P3 := hide ((P2.out.set4 (g := w.heap.size) (by omega) (.int .i64 K) (.int .i64 h) (.slice A2 n3 c2) (.slice (some ⟨g3, 0, none⟩) n3 c3)).set_apart (g := w.heap.size) (by omega) 0 (.int .i64 (K * b)))
  have Q3 := hide ((Q2.out.set4 (g := w.heap.size) (by omega) (.int .i64 K) (.int .i64 h) (.slice A2 n3 c2) (.slice (some ⟨g3, 0, none⟩) n3 c3)).set_apart (g := w.heap.size) (by omega) 0 (.int .i64 (K * b)))
  have R3 := hide ((R2.out.apart4 (b := w.heap.size) (by omega) (.int .i64 K) (.int .i64 h) (.slice A2 n3 c2) (.slice (some ⟨g3, 0, none⟩) n3 c3)).apart (p := ⟨w.heap.size, 0, none⟩) (by simp) (.int .i64 (K * b)))
  have B3 := hide ((below_set4 (g := w.heap.size) B2.out (Nat.le_refl _) (.int .i64 K) (.int .i64 h) (.slice A2 n3 c2) (.slice (some ⟨g3, 0, none⟩) n3 c3)).setCell (p := ⟨w.heap.size, 0, none⟩) (Nat.le_refl _) (.int .i64 (K * b)))
  obtain ⟨k0, k1, k2, k3, _⟩ := K2.out.four
  have f0 := K2.out.fr 0
  have f1 := K2.out.fr 1
  have f2 := K2.out.fr 2
  have f3 := K2.out.fr 3
  obtain ⟨y0, y1, y2, y3, _⟩ := (K2.out.set4 (.int .i64 K) (.int .i64 h) (.slice A2 n3 c2) (.slice (some ⟨g3, 0, none⟩) n3 c3)).four
  obtain ⟨z0, z1, z2, z3, _⟩ := K3.out.four
  go_wp2_with fail
  clear f0 f1 f2 f3 k0 k1 k2 k3 y0 y1 y2 y3 z0 z1 z2 z3 wk
  go_loopw [27] (fun i wr => ∃ k : Nat, k ≤ n3 ∧ i = .int .i64 k ∧ Bk wr w.heap.size 24 #[.int .i64 (K * b), .int .i64 h, .slice A2 n3 c2, .slice (some ⟨g3, 0, none⟩) n3 c3] ∧ Bk wr (w.heap.size + 1) 24 #[.int .i64 0, .int .i64 0, .slice none 0 0, .slice none 0 0] ∧ Own wr (w.heap.size + 2) A2 n3 c2 cs ∧ Own wr (w.heap.size + 2) (some ⟨g3, 0, none⟩) n3 c3 (mulTo ds b k) ∧ Below w.heap.size w wr) (fun i _ => n3 - (intOf i).toNat)
  case atStart => exact ⟨0, by omega, rfl, K3.out, R3.out, P3.out, by rw [mulTo_zero]; exact Q3.out, B3.out⟩
  case round =>
    obtain ⟨k, hk, rfl, kb, rb, pb, qb, bb⟩ := hrel
    have KB := hide kb
    have RB := hide rb
    have PB := hide pb
    have QB := hide qb
    have BB := hide bb
    clear kb rb pb qb bb
    obtain ⟨k0, k1, k2, k3, _⟩ := KB.out.four
    by_cases hlt : k < n3
    · have cx := QB.out.cell hlt
      rw [mulTo_get (by rw [LN.out]; exact hlt), if_neg (Nat.lt_irrefl k)] at cx
      have fz := QB.out.frozen k
      have x0 := (OT.out.d.2 k (by rw [LN.out]; exact hlt)).1
      have x1 := (OT.out.d.2 k (by rw [LN.out]; exact hlt)).2
      have HS := hide (fun x hx => mulTo_next (ds := ds) (s := b) (k := k) (x := x) (by rw [LN.out]; exact hlt) hx)
      generalize ds.getD k 0 = x at *
      have wx : IntKind.i64.wrap (x * b) = (x * b) := IntWalk.i64_in _ ⟨by have := Int.mul_le_mul_of_nonneg_left (c := x) (show -1 ≤ b by omega) x0; omega, by have := Int.mul_le_mul_of_nonneg_left (c := x) (show b ≤ 1000 by omega) x0; omega⟩
      have l5 : (k : Int) < n3 := by omega
      go_wp2_with fail
      go_roundw
      case rel => exact ⟨k + 1, by omega, by go_num, (KB.out.apart (p := ⟨g3, k, none⟩) (by simp; omega) _), (RB.out.apart (p := ⟨g3, k, none⟩) (by simp; omega) _), (Own.apart (p := ⟨g3, k, none⟩) PB.out hap _), by rw [← HS.out (x * b) (by first | rfl | omega)]; exact (QB.out.stored k _), (BB.out.setCell (p := ⟨g3, k, none⟩) (by simp; omega) _)⟩
      case measure => simp [intOf]; omega
    · obtain rfl : k = n3 := by omega
      have Q9 := hide (by have := QB.out; rw [show mulTo ds b k = mulL ds b by unfold mulL; rw [LN.out]] at this; exact this)
      go_wp2_with fail
      refine (checked_any (K * b) h _ k c2 cs _ k c3 (mulL ds b) _ ⟨PB.out.row, Q9.out.row⟩).mono ?_
      rintro e w4 ⟨rfl, b4⟩
      have B4 := hide (BB.out.trans (b4.mono BB.out.size))
      have R4 := hide (RB.out.keep b4 RB.out.in_)
      have P4 := hide (PB.out.below b4 (Nat.le_refl _))
      have Q4 := hide (Q9.out.below b4 (Nat.le_refl _))
      clear b4
      by_cases o2 : OkT (K * b) h cs (mulL ds b)
      · have HV := hide (HSF.out.trans (toldF_ok o2))
        rw [toldV_ok (errT_ok o2)]
        clear o2
        obtain ⟨r0, r1, r2, r3, _⟩ := R4.out.four
        have f0 := R4.out.fr 0
        have f1 := R4.out.fr 1
        have f2 := R4.out.fr 2
        have f3 := R4.out.fr 3
        obtain ⟨z0, z1, z2, z3, _⟩ := (R4.out.set4 (.int .i64 (K * b)) (.int .i64 h) (.slice A2 k c2) (.slice (some ⟨g3, 0, none⟩) k c3)).four
        go_wp2_with fail
        refine bodyPost_ret (v := .tuple #[.agg #[.int .i64 (K * b), .int .i64 h, .slice A2 k c2, .slice (some ⟨g3, 0, none⟩) k c3], .int .i64 0]) ?_ rfl (by rw [HV.out]; exact ⟨_, _, _, _, _, _, rfl, (P4.out.set4 (by omega) _ _ _ _).more (by omega), (Q4.out.set4 (by omega) _ _ _ _).more (by omega), below_set4 B4.out (by omega) _ _ _ _⟩)
        simp [results, Try.results47, go_sem, z0, z1, z2, z3]
      · have HV := hide (HSF.out.trans (toldF_no o2))
        have e2 := errT_no o2
        rw [toldV_no (by rw [e2]; decide), e2]
        clear o2 e2
        obtain ⟨r0, r1, r2, r3, _⟩ := R4.out.four
        have f0 := R4.out.fr 0
        have f1 := R4.out.fr 1
        have f2 := R4.out.fr 2
        have f3 := R4.out.fr 3
        obtain ⟨z0, z1, z2, z3, _⟩ := (R4.out.set4 (.int .i64 0) (.int .i64 0) (.slice none 0 0) (.slice none 0 0)).four
        go_wp2_with fail
        refine bodyPost_ret (v := .tuple #[.agg #[.int .i64 0, .int .i64 0, .slice none 0 0, .slice none 0 0], .int .i64 1]) ?_ rfl (by rw [HV.out]; exact ⟨_, _, _, _, _, _, rfl, Own.nil _ _, Own.nil _ _, below_set4 B4.out (by omega) _ _ _ _⟩)
        simp [results, Try.results47, go_sem, z0, z1, z2, z3]


end Go.Proofs.Ytjhnfcmijijdcaa
