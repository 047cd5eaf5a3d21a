/- Walks of the document's own Dearer, and of Same. -/
import Derived.Test.YtjhnfcmijijdcaaWalkRc
namespace Go.Proofs.Ytjhnfcmijijdcaa
open Go.RowKit

set_option maxHeartbeats 4000000 in
theorem rDearer_any (K h : Int) (A : Option Addr) (n c : Nat) (cs : List Int) (A' : Option Addr) (n' c' : Nat) (ds : List Int) (s : Int) (w : World) (hT : Tin w A n c cs A' n' c' ds) :
    Calls Try.prog 50 #[.agg #[.int .i64 K, .int .i64 h, .slice A n c, .slice A' n' c'], .int .i64 s] w (FourPost (dearF K h cs ds s) w) := by
  have HT := hide hT
  have L1 := hT.1.length
  have L2 := hT.2.length
  have B0 := hide ((Below.refl w.heap.size w).alloc (Nat.le_refl _) (.cells #[.int .i64 K, .int .i64 h, .slice A n c, .slice A' n' c'] 24))
  have K0 := hide (Bk.born w 24 #[.int .i64 K, .int .i64 h, .slice A n c, .slice A' n' c'])
  have R0 := hide (Bk.bornAt (w := w.alloc (.cells #[.int .i64 K, .int .i64 h, .slice A n c, .slice A' n' c'] 24)) (g := w.heap.size + 1) (t := 24) (cs := #[.int .i64 0, .int .i64 0, .slice none 0 0, .slice none 0 0]) (by simp))
  replace K0 := hide (K0.out.more (.cells #[.int .i64 0, .int .i64 0, .slice none 0 0, .slice none 0 0] 24))
  replace B0 := hide (B0.out.alloc (by simp) (.cells #[.int .i64 0, .int .i64 0, .slice none 0 0, .slice none 0 0] 24))
  clear hT
  by_cases he : errT K h cs ds = 0
  case neg =>
    have HV := hide (dearF_task (s := s) (not_okT he))
    have HE := hide (errT_ne he)
    clear he
    go_enter Try.func50, Try.ntmps50
    go_wp2_with fail
    refine (rValidate_any K h _ n c cs _ n' c' ds _ (HT.out.below B0.out (Nat.le_refl _))).mono ?_
    rw [HE.out]
    rintro e w1 ⟨rfl, b1⟩
    have B1 := hide (B0.out.trans (b1.mono B0.out.size))
    have R1 := hide (R0.out.keep b1 R0.out.in_)
    clear b1
    obtain ⟨r0, r1, r2, r3, _⟩ := R1.out.four
    have f0 := R1.out.fr 0
    have f1 := R1.out.fr 1
    have f2 := R1.out.fr 2
    have f3 := R1.out.fr 3
    obtain ⟨z0, z1, z2, z3, _⟩ := (R1.out.set4 (.int .i64 0) (.int .i64 0) (.slice none 0 0) (.slice none 0 0)).four
    go_wp2_with fail
    refine bodyPost_ret (v := .tuple #[.agg #[.int .i64 0, .int .i64 0, .slice none 0 0, .slice none 0 0], .int .i64 1]) ?_ rfl (by rw [HV.out]; exact ⟨_, _, _, _, _, _, rfl, Own.nil _ _, Own.nil _ _, below_set4 B1.out (by omega) _ _ _ _⟩)
    simp [results, Try.results50, go_sem, z0, z1, z2, z3]
  have o := errT_zero he
  have hn1 : 1 ≤ n' := by have := o.n1; omega
  have hn2 : n' ≤ 12 := by have := o.n2; omega
  obtain rfl : n = n' := by have := o.c.1; omega
  have OT := hide o
  have HE := hide he
  clear o he
  go_enter Try.func50, Try.ntmps50
  go_wp2_with fail
  refine (rValidate_any K h _ n c cs _ n c' ds _ (HT.out.below B0.out (Nat.le_refl _))).mono ?_
  rw [HE.out]
  rintro e w1 ⟨rfl, b1⟩
  have B1 := hide (B0.out.trans (b1.mono B0.out.size))
  have K1 := hide (K0.out.keep b1 K0.out.in_)
  have R1 := hide (R0.out.keep b1 R0.out.in_)
  clear b1
  obtain ⟨k0, k1, k2, k3, _⟩ := K1.out.four
  go_wp2_with fail
  refine (rCopy_any K h _ n c cs _ n c' ds _ (HT.out.below B1.out (Nat.le_refl _)) (by omega) (by omega) (by omega) (by omega)).mono ?_
  rintro e w2 ⟨A2, n2, c2, A3, n3, c3, rfl, o2, o3, b2, dj⟩
  obtain rfl : n2 = n := by have := o2.len; omega
  obtain rfl : n3 = n2 := by have := o3.len; omega
  have B2 := hide (B1.out.trans (b2.mono B1.out.size))
  have K2 := hide (K1.out.keep b2 K1.out.in_)
  have R2 := hide (R1.out.keep b2 R1.out.in_)
  have P2 := hide (o2.more (B' := w.heap.size + 2) R1.out.in_)
  have Q2 := hide (o3.more (B' := w.heap.size + 2) R1.out.in_)
  have DJ := hide dj
  clear b2 o2 o3 k0 k1 k2 k3 dj
  have P3 := hide (P2.out.alloc (.cells #[.int .i64 s, .int .i64 h, .slice A2 n3 c2, .slice A3 n3 c3] 24))
  have Q3 := hide (Q2.out.alloc (.cells #[.int .i64 s, .int .i64 h, .slice A2 n3 c2, .slice A3 n3 c3] 24))
  have R3 := hide (R2.out.more (.cells #[.int .i64 s, .int .i64 h, .slice A2 n3 c2, .slice A3 n3 c3] 24))
  have B3 := hide (B2.out.alloc B2.out.size (.cells #[.int .i64 s, .int .i64 h, .slice A2 n3 c2, .slice A3 n3 c3] 24))
  go_wp2_with fail
  refine (rtold_any s h _ n3 c2 cs _ n3 c3 ds _ ⟨P3.out.row, Q3.out.row⟩).mono ?_
  rintro e w4 ⟨rfl, b4⟩
  have B4 := hide (B3.out.trans (b4.mono B3.out.size))
  have R4 := hide (R3.out.keep b4 R3.out.in_)
  have P4 := hide (P3.out.below b4 (Nat.le_refl _))
  have Q4 := hide (Q3.out.below b4 (Nat.le_refl _))
  clear b4
  by_cases o2 : OkT s h cs ds
  · have HV := hide ((dearF_ok OT.out).trans (toldF_ok o2))
    rw [toldV_ok (errT_ok o2)]
    clear o2
    obtain ⟨r0, r1, r2, r3, _⟩ := R4.out.four
    have f0 := R4.out.fr 0
    have f1 := R4.out.fr 1
    have f2 := R4.out.fr 2
    have f3 := R4.out.fr 3
    obtain ⟨z0, z1, z2, z3, _⟩ := (R4.out.set4 (.int .i64 s) (.int .i64 h) (.slice A2 n3 c2) (.slice A3 n3 c3)).four
    go_wp2_with fail
    refine bodyPost_ret (v := .tuple #[.agg #[.int .i64 s, .int .i64 h, .slice A2 n3 c2, .slice A3 n3 c3], .int .i64 0]) ?_ rfl (by rw [HV.out]; exact ⟨_, _, _, _, _, _, rfl, (P4.out.set4 (by omega) _ _ _ _).more (by omega), (Q4.out.set4 (by omega) _ _ _ _).more (by omega), below_set4 B4.out (by omega) _ _ _ _⟩)
    simp [results, Try.results50, go_sem, z0, z1, z2, z3]
  · have HV := hide ((dearF_ok OT.out).trans (toldF_no o2))
    have e2 := errT_no o2
    rw [toldV_no (by rw [e2]; decide), e2]
    clear o2 e2
    obtain ⟨r0, r1, r2, r3, _⟩ := R4.out.four
    have f0 := R4.out.fr 0
    have f1 := R4.out.fr 1
    have f2 := R4.out.fr 2
    have f3 := R4.out.fr 3
    obtain ⟨z0, z1, z2, z3, _⟩ := (R4.out.set4 (.int .i64 0) (.int .i64 0) (.slice none 0 0) (.slice none 0 0)).four
    go_wp2_with fail
    refine bodyPost_ret (v := .tuple #[.agg #[.int .i64 0, .int .i64 0, .slice none 0 0, .slice none 0 0], .int .i64 1]) ?_ rfl (by rw [HV.out]; exact ⟨_, _, _, _, _, _, rfl, Own.nil _ _, Own.nil _ _, below_set4 B4.out (by omega) _ _ _ _⟩)
    simp [results, Try.results50, go_sem, z0, z1, z2, z3]

set_option maxHeartbeats 4000000 in
theorem Same_yes (K h : Int) (A : Option Addr) (n c : Nat) (cs : List Int) (A' : Option Addr) (n' c' : Nat) (ds : List Int) (D : Option Addr) (e : Nat) (D' : Option Addr) (e' : Nat) (w : World) (hT : Tin w A n c cs A' n' c' ds) (hU : Tin w D n e cs D' n' e' ds) :
    Calls Try.prog 46 #[.agg #[.int .i64 K, .int .i64 h, .slice A n c, .slice A' n' c'], .agg #[.int .i64 K, .int .i64 h, .slice D n e, .slice D' n' e']] w fun en w' => en = .returned (.bool true) ∧ Below w.heap.size w w' := by
  obtain ⟨⟨b1, o1, r1⟩, ⟨b2, o2, r2⟩⟩ := hT
  obtain ⟨⟨b3, o3, r3⟩, ⟨b4, o4, r4⟩⟩ := hU
  have m1 := r1.max
  have m2 := r2.max
  have m3 := r3.max
  have m4 := r4.max
  have p1 := r1.cap
  have p2 := r2.cap
  have p3 := r3.cap
  have p4 := r4.cap
  have B0 := hide (((Below.refl w.heap.size w).alloc (Nat.le_refl _) (.cells #[.int .i64 K, .int .i64 h, .slice A n c, .slice A' n' c'] 24)).alloc (by simp) (.cells #[.int .i64 K, .int .i64 h, .slice D n e, .slice D' n' e'] 24))
  have K0 := hide ((Bk.born w 24 #[.int .i64 K, .int .i64 h, .slice A n c, .slice A' n' c']).more (.cells #[.int .i64 K, .int .i64 h, .slice D n e, .slice D' n' e'] 24))
  have J0 := hide (Bk.bornAt (w := w.alloc (.cells #[.int .i64 K, .int .i64 h, .slice A n c, .slice A' n' c'] 24)) (g := w.heap.size + 1) (t := 24) (cs := #[.int .i64 K, .int .i64 h, .slice D n e, .slice D' n' e']) (by simp))
  have R1 := hide (r1.below B0.out (Nat.le_refl _))
  have R2 := hide (r2.below B0.out (Nat.le_refl _))
  have R3 := hide (r3.below B0.out (Nat.le_refl _))
  have R4 := hide (r4.below B0.out (Nat.le_refl _))
  clear r1 r2 r3 r4
  go_enter Try.func46, Try.ntmps46
  go_wp2_with fail
  generalize hW : (w.alloc (.cells #[.int .i64 K, .int .i64 h, .slice A n c, .slice A' n' c'] 24)).alloc (.cells #[.int .i64 K, .int .i64 h, .slice D n e, .slice D' n' e'] 24) = W at *
  clear hW
  go_loopw [5] (fun i wr => ∃ k m : Nat, k ≤ n ∧ i = .int .i64 k ∧ wr = W.drewN m) (fun i _ => n - (intOf i).toNat)
  case atStart => exact ⟨0, 0, by omega, rfl, rfl⟩
  case round =>
    obtain ⟨k, m, hk, rfl, rfl⟩ := hrel
    obtain ⟨k0, k1, k2, k3, _⟩ := K0.out.four
    obtain ⟨j0, j1, j2, j3, _⟩ := J0.out.four
    by_cases hlt : k < n
    · have x1 := R1.out.cell k hlt
      have x3 := R3.out.cell k hlt
      obtain rfl := R1.out.at_ (by omega)
      obtain rfl := R3.out.at_ (by omega)
      generalize cs.getD k 0 = x at *
      have l2 : (k : Int) < n := by omega
      go_wp2_with fail
      go_quiet (fail)
      go_wp2
      go_roundw
      case rel => exact ⟨k + 1, _, by omega, by go_num, rfl⟩
      case measure => simp [intOf]; omega
    · obtain rfl : k = n := by omega
      go_wp2_with fail
      go_loopw [6] (fun i wr => ∃ q m : Nat, q ≤ n' ∧ i = .int .i64 q ∧ wr = W.drewN m) (fun i _ => n' - (intOf i).toNat)
      case atStart => exact ⟨0, m, by omega, rfl, rfl⟩
      case round =>
        obtain ⟨q, m', hq, rfl, rfl⟩ := hrel
        by_cases hlt : q < n'
        · have x1 := R2.out.cell q hlt
          have x3 := R4.out.cell q hlt
          obtain rfl := R2.out.at_ (by omega)
          obtain rfl := R4.out.at_ (by omega)
          generalize ds.getD q 0 = x at *
          have l2 : (q : Int) < n' := by omega
          go_wp2_with fail
          go_quiet (fail)
          go_wp2
          go_roundw
          case rel => exact ⟨q + 1, _, by omega, by go_num, rfl⟩
          case measure => simp [intOf]; omega
        · go_wp2_with fail
          go_ret
          exact ⟨rfl, below_drewN B0.out _⟩

end Go.Proofs.Ytjhnfcmijijdcaa
