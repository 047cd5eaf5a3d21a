/- Walks of Begin of the document's side. -/
import Derived.Test.YtjhnfcmijijdcaaWalkBg
namespace Go.Proofs.Ytjhnfcmijijdcaa
open Go.RowKit

theorem below2 (w : World) (o0 o1 : Obj) : Below w.heap.size w ((w.alloc o0).alloc o1).drew := by
  refine (((Below.refl w.heap.size w).alloc (Nat.le_refl _) o0).alloc ?_ o1).drew
  all_goals (simp; try omega)

set_option maxHeartbeats 4000000 in
theorem rfirst_any (K h : Int) (A : Option Addr) (n c : Nat) (cs : List Int) (A' : Option Addr) (n' c' : Nat) (ds : List Int) (i : Nat) (w : World) (hT : Tin w A n c cs A' n' c' ds) (i1 : 1 ≤ i) (i2 : i ≤ n) (i3 : i ≤ n') :
    Calls Try.prog 69 #[.agg #[.int .i64 K, .int .i64 h, .slice A n c, .slice A' n' c'], .int .i64 i] w fun e w' => e = .returned (.agg #[.int .i64 K, .int .i64 h, .slice A i c, .slice A' i c']) ∧ Below w.heap.size w w' := by
  have hc1 : n ≤ c := hT.1.cap
  have hc2 : n' ≤ c' := hT.2.cap
  have a3 : i ≤ c := by omega
  have a4 : i ≤ c' := by omega
  have HT := hide hT
  have L1 := hT.1.length
  have L2 := hT.2.length
  have B0 := hide ((Below.refl w.heap.size w).alloc (Nat.le_refl _) (.cells #[.int .i64 K, .int .i64 h, .slice A n c, .slice A' n' c'] 24))
  have K0 := hide (Bk.born w 24 #[.int .i64 K, .int .i64 h, .slice A n c, .slice A' n' c'])
  have R0 := hide (Bk.bornAt (w := w.alloc (.cells #[.int .i64 K, .int .i64 h, .slice A n c, .slice A' n' c'] 24)) (g := w.heap.size + 1) (t := 24) (cs := #[.int .i64 0, .int .i64 0, .slice none 0 0, .slice none 0 0]) (by simp))
  replace K0 := hide (K0.out.more (.cells #[.int .i64 0, .int .i64 0, .slice none 0 0, .slice none 0 0] 24))
  replace B0 := hide (B0.out.alloc (by simp) (.cells #[.int .i64 0, .int .i64 0, .slice none 0 0, .slice none 0 0] 24))
  clear hT
  clear L1 L2
  obtain ⟨k0, k1, k2, k3, _⟩ := K0.out.four
  obtain ⟨r0, r1, r2, r3, _⟩ := R0.out.four
  have f0 := R0.out.fr 0
  have f1 := R0.out.fr 1
  have f2 := R0.out.fr 2
  have f3 := R0.out.fr 3
  go_enter Try.func69, Try.ntmps69
  go_wp2_with fail
  go_region
  all_goals
    clear k0 k1 k2 k3 r0 r1 r2 r3 f0 f1 f2 f3
    have Z := hide ((Bk.bornAt (w := w.alloc (.cells #[.int .i64 K, .int .i64 h, .slice A n c, .slice A' n' c'] 24)) (g := w.heap.size + 1) (t := 24) (cs := #[.int .i64 K, .int .i64 h, .slice A i c, .slice A' i c']) (by simp)).draw)
    obtain ⟨z0, z1, z2, z3, _⟩ := Z.out.four
    go_wp2_with fail
    refine bodyPost_ret (v := .agg #[.int .i64 K, .int .i64 h, .slice A i c, .slice A' i c']) ?hres rfl ?hq
    case hres => (simp [results, Try.results69, go_sem, z0, z1, z2, z3]; done)
    case hq => exact ⟨rfl, below2 w _ _⟩

set_option maxHeartbeats 4000000 in
theorem rBegin_any (K h : Int) (A : Option Addr) (n c : Nat) (cs : List Int) (A' : Option Addr) (n' c' : Nat) (ds : List Int) (b : Int) (w : World) (hT : Tin w A n c cs A' n' c' ds) :
    Calls Try.prog 45 #[.agg #[.int .i64 K, .int .i64 h, .slice A n c, .slice A' n' c'], .int .i64 b] w (FourPost (begF K h cs ds b) w) := by
  have HT := hide hT
  have L1 := hT.1.length
  have L2 := hT.2.length
  have B0 := hide ((Below.refl w.heap.size w).alloc (Nat.le_refl _) (.cells #[.int .i64 K, .int .i64 h, .slice A n c, .slice A' n' c'] 24))
  have K0 := hide (Bk.born w 24 #[.int .i64 K, .int .i64 h, .slice A n c, .slice A' n' c'])
  have R0 := hide (Bk.bornAt (w := w.alloc (.cells #[.int .i64 K, .int .i64 h, .slice A n c, .slice A' n' c'] 24)) (g := w.heap.size + 1) (t := 24) (cs := #[.int .i64 0, .int .i64 0, .slice none 0 0, .slice none 0 0]) (by simp))
  replace K0 := hide (K0.out.more (.cells #[.int .i64 0, .int .i64 0, .slice none 0 0, .slice none 0 0] 24))
  replace B0 := hide (B0.out.alloc (by simp) (.cells #[.int .i64 0, .int .i64 0, .slice none 0 0, .slice none 0 0] 24))
  clear hT
  by_cases he : errT K h cs ds = 0
  case neg =>
    have HV := hide (begF_task (b := b) (not_okT he))
    have HE := hide (errT_ne he)
    clear he
    go_enter Try.func45, Try.ntmps45
    go_wp2_with fail
    refine (rValidate_any K h _ n c cs _ n' c' ds _ (HT.out.below B0.out (Nat.le_refl _))).mono ?_
    rw [HE.out]
    rintro e w1 ⟨rfl, b1⟩
    have B1 := hide (B0.out.trans (b1.mono B0.out.size))
    have K1 := hide (K0.out.keep b1 K0.out.in_)
    have R1 := hide (R0.out.keep b1 R0.out.in_)
    clear b1
    obtain ⟨r0, r1, r2, r3, _⟩ := R1.out.four
    have f0 := R1.out.fr 0
    have f1 := R1.out.fr 1
    have f2 := R1.out.fr 2
    have f3 := R1.out.fr 3
    obtain ⟨z0, z1, z2, z3, _⟩ := (R1.out.set4 (.int .i64 0) (.int .i64 0) (.slice none 0 0) (.slice none 0 0)).four
    go_wp2_with fail
    refine bodyPost_ret (v := .tuple #[.agg #[.int .i64 0, .int .i64 0, .slice none 0 0, .slice none 0 0], .int .i64 1]) ?_ rfl (by rw [HV.out]; exact ⟨_, _, _, _, _, _, rfl, Own.nil _ _, Own.nil _ _, below_set4 B1.out (by omega) _ _ _ _⟩)
    simp [results, Try.results45, go_sem, z0, z1, z2, z3]
  have o := errT_zero he
  have hn1 : 1 ≤ n' := by have := o.n1; omega
  have hn2 : n' ≤ 12 := by have := o.n2; omega
  obtain rfl : n = n' := by have := o.c.1; omega
  have OT := hide o
  have LN := hide L2
  have HE := hide he
  clear o he
  by_cases e1 : 1 ≤ b ∧ b ≤ ds.length
  case neg =>
    have HV := hide (begF_no OT.out e1)
    rw [L2] at e1
    have g1 : withinB b 1 n = false := withinB_no e1
    clear e1 L1 L2
    go_enter Try.func45, Try.ntmps45
    go_wp2_with fail
    refine (rValidate_any K h _ n c cs _ n c' ds _ (HT.out.below B0.out (Nat.le_refl _))).mono ?_
    rw [HE.out]
    rintro e w1 ⟨rfl, b1⟩
    have B1 := hide (B0.out.trans (b1.mono B0.out.size))
    have K1 := hide (K0.out.keep b1 K0.out.in_)
    have R1 := hide (R0.out.keep b1 R0.out.in_)
    clear b1
    obtain ⟨k0, k1, k2, k3, _⟩ := K1.out.four
    go_wp2_with fail
    refine (within_any _ _ _ _).mono ?_
    rw [g1]
    rintro e wq ⟨rfl, rfl⟩
    obtain ⟨r0, r1, r2, r3, _⟩ := R1.out.four
    have f0 := R1.out.fr 0
    have f1 := R1.out.fr 1
    have f2 := R1.out.fr 2
    have f3 := R1.out.fr 3
    obtain ⟨z0, z1, z2, z3, _⟩ := (R1.out.set4 (.int .i64 0) (.int .i64 0) (.slice none 0 0) (.slice none 0 0)).four
    go_wp2_with fail
    refine bodyPost_ret (v := .tuple #[.agg #[.int .i64 0, .int .i64 0, .slice none 0 0, .slice none 0 0], .int .i64 1]) ?_ rfl (by rw [HV.out]; exact ⟨_, _, _, _, _, _, rfl, Own.nil _ _, Own.nil _ _, below_set4 B1.out (by omega) _ _ _ _⟩)
    simp [results, Try.results45, go_sem, z0, z1, z2, z3]
  have HV := hide (begF_ok OT.out e1)
  rw [L2] at e1
  obtain ⟨i, rfl⟩ : ∃ i : Nat, b = (i : Int) := ⟨b.toNat, by omega⟩
  rw [Int.toNat_natCast] at HV
  have i1 : 1 ≤ i := by omega
  have i2 : i ≤ n := by omega
  have hc1 : n ≤ c := HT.out.1.cap
  have hc2 : n ≤ c' := HT.out.2.cap
  have g1 : withinB (i : Int) 1 n = true := withinB_true e1.1 e1.2
  clear e1 L1 L2
  go_enter Try.func45, Try.ntmps45
  go_wp2_with fail
  refine (rValidate_any K h _ n c cs _ n c' ds _ (HT.out.below B0.out (Nat.le_refl _))).mono ?_
  rw [HE.out]
  rintro e w1 ⟨rfl, b1⟩
  have B1 := hide (B0.out.trans (b1.mono B0.out.size))
  have K1 := hide (K0.out.keep b1 K0.out.in_)
  have R1 := hide (R0.out.keep b1 R0.out.in_)
  clear b1
  obtain ⟨k0, k1, k2, k3, _⟩ := K1.out.four
  go_wp2_with fail
  refine (within_any _ _ _ _).mono ?_
  rw [g1]
  rintro e wq ⟨rfl, rfl⟩
  clear g1
  go_wp2_with fail
  refine (rfirst_any K h _ n c cs _ n c' ds i _ (HT.out.below B1.out (Nat.le_refl _)) i1 i2 i2).mono ?_
  rintro e w2 ⟨rfl, b2⟩
  have B2 := hide (B1.out.trans (b2.mono B1.out.size))
  have R2 := hide (R1.out.keep b2 R1.out.in_)
  clear b2
  go_wp2_with fail
  refine (rCopy_any K h _ i c (cs.take i) _ i c' (ds.take i) _ ((HT.out.take i i2 i2).below B2.out (Nat.le_refl _)) (by omega) (by omega) (by omega) (by omega)).mono ?_
  rintro e w4 ⟨A2, n2, c2, A3, n3, c3, rfl, o2, o3, b2, dj⟩
  have B3 := hide (B2.out.trans (b2.mono B2.out.size))
  have R3 := hide (R2.out.keep b2 R2.out.in_)
  have P3 := hide (o2.more (B' := w.heap.size + 2) R2.out.in_)
  have Q3 := hide (o3.more (B' := w.heap.size + 2) R2.out.in_)
  have DJ := hide dj
  clear b2 o2 o3 k0 k1 k2 k3 dj
  obtain ⟨r0, r1, r2, r3, _⟩ := R3.out.four
  have f0 := R3.out.fr 0
  have f1 := R3.out.fr 1
  have f2 := R3.out.fr 2
  have f3 := R3.out.fr 3
  obtain ⟨z0, z1, z2, z3, _⟩ := (R3.out.set4 (.int .i64 K) (.int .i64 h) (.slice A2 n2 c2) (.slice A3 n3 c3)).four
  go_wp2_with fail
  refine bodyPost_ret (v := .tuple #[.agg #[.int .i64 K, .int .i64 h, .slice A2 n2 c2, .slice A3 n3 c3], .int .i64 0]) ?_ rfl (by rw [HV.out]; exact ⟨_, _, _, _, _, _, rfl, (P3.out.set4 (by omega) _ _ _ _).more (by omega), (Q3.out.set4 (by omega) _ _ _ _).more (by omega), below_set4 B3.out (by omega) _ _ _ _⟩)
  simp [results, Try.results45, go_sem, z0, z1, z2, z3]

end Go.Proofs.Ytjhnfcmijijdcaa
