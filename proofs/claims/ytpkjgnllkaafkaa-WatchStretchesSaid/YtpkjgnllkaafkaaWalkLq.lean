/- The document's CheckMoments, and the walk of WatchLooks. -/
import Derived.Test.YtpkjgnllkaafkaaWalkLo
namespace Go.Proofs.Ytpkjgnllkaafkaa
open Go.RowKit

set_option maxHeartbeats 3000000 in
theorem rCheckMoments_any (A : Option Addr) (n c : Nat) (xs : Ls) (A' : Option Addr) (m c' : Nat) (I : List Int) (w : World) (h : R E3 w A n c xs) (hn : n ≤ 1000) (h' : R E1 w A' m c' I) (hm : m ≤ 1000) :
    Calls Try.prog 40 #[.slice A n c, .slice A' m c'] w (LkPost xs I w) := by
  have HLX := hide h.length
  have HLI := hide h'.length
  have HX := hide h
  have HR := hide h'
  clear h h'
  by_cases he : errV xs = 0
  · have HE := hide he
    clear he
    cases hs : isB I 1000 with
    | false =>
      have HS := hide hs
      have HN := hide (errM_set (I := I) HE.out (by rw [hs]; simp))
      have HV := hide (lenM_no HN.out (by decide))
      clear hs
      go_enter Try.func40, Try.ntmps40
      go_wp2_with (first
        | (go_at_call 24; refine (rValidate_any _ _ _ xs _ HX.out hn).mono ?_; rintro e w1 ⟨rfl, b1⟩; rw [HE.out]; have HB1 := hide b1; clear b1)
        | (go_at_call 74; refine (risSet_any _ _ _ I _ _ (HR.out.below HB1.out (Nat.le_refl _)) hm).mono ?_; rintro e w2 ⟨rfl, b2⟩; rw [HS.out]; have HB2 := hide (HB1.out.trans (b2.mono HB1.out.size)); clear b2))
      go_ret2
      exact ⟨by rw [HV.out, HN.out]; rfl, HB2.out⟩
    | true =>
      have HS := hide hs
      clear hs
      go_enter Try.func40, Try.ntmps40
      go_wp2_with (first
        | (go_at_call 24; refine (rValidate_any _ _ _ xs _ HX.out hn).mono ?_; rintro e w1 ⟨rfl, b1⟩; rw [HE.out]; have HB1 := hide b1; clear b1)
        | (go_at_call 74; refine (risSet_any _ _ _ I _ _ (HR.out.below HB1.out (Nat.le_refl _)) hm).mono ?_; rintro e w2 ⟨rfl, b2⟩; rw [HS.out]; have HB2 := hide (HB1.out.trans (b2.mono HB1.out.size)); clear b2))
      go_loopw [7] (fun i wr => ∃ p : Nat, p ≤ n ∧ i = .int .i64 p ∧ Hid (LkTo xs I p) ∧ Hid (Below w.heap.size w wr)) (fun i _ => n - (intOf i).toNat)
      case atStart => exact ⟨0, Nat.zero_le _, rfl, hide (fun i hi => by omega), HB2⟩
      case round =>
        clear HB1 HB2
        obtain ⟨p, hp, rfl, HT, HB⟩ := hrel
        by_cases hlt : p < n
        · have HY := hide (lkTo_succ HT.out)
          have HNO := hide (lookB_no (xs := xs) (I := I) (p := p) (by rw [HLX.out]; exact hlt))
          have hX : ∃ x, xs.getD p sh0 = x := ⟨_, rfl⟩
          obtain ⟨x, hX⟩ := hX
          have HXP := hide hX
          rw [hX] at HY HNO
          clear hX
          obtain ⟨x1, x2, x3⟩ := x
          go_wp2_with fail
          go_loopw [8, 9] (fun v i wr => ∃ q : Nat, q ≤ m ∧ i = .int .i64 q ∧ v = .bool (seTo (x1, x2, x3) I q) ∧ Hid (Below w.heap.size w wr)) (fun _ i _ => m - (intOf i).toNat)
          case atStart => exact ⟨0, Nat.zero_le _, rfl, rfl, HB⟩
          case round =>
            clear HB
            obtain ⟨q, hq, rfl, rfl, HB⟩ := hrel
            by_cases hlq : q < m
            · have HSU := hide (seTo_succ (s := (x1, x2, x3)) (I := I) (k := q) (by rw [HLI.out]; exact hlq))
              cases hse : seTo (x1, x2, x3) I q with
              | true =>
                have HT2 := hide (show seTo (x1, x2, x3) I (q + 1) = true by rw [HSU.out, hse]; rfl)
                clear hse
                go_wp2_with fail
                go_quiet (fail)
                go_wp2_with fail
                go_roundw
                case rel => exact ⟨q + 1, by omega, by go_num, by rw [HT2.out], hide (below_drewN HB.out _)⟩
                case measure => simp [intOf]; omega
              | false =>
                obtain ⟨b, off, hr⟩ := HX.out.below HB.out (Nat.le_refl _)
                obtain rfl := hr.at_ (by omega)
                have hbl := hr.lt (by omega)
                have hcap := hr.cap
                have hmax := hr.max
                obtain ⟨a1, a2, a3⟩ := c3 hr hlt
                rw [HXP.out] at a1 a2 a3
                dsimp only at a1 a2 a3
                clear hr
                obtain ⟨b', off', hr⟩ := HR.out.below HB.out (Nat.le_refl _)
                obtain rfl := hr.at_ (by omega)
                have hbl' := hr.lt (by omega)
                have hcap' := hr.cap
                have hmax' := hr.max
                have d1 := c1 hr hlq
                have hgi : I.getD q 0 = gi I q := rfl
                rw [hgi] at d1
                clear hr hgi
                have i1 : (p : Int) < (n : Int) := by omega
                have i2 : (q : Int) < (m : Int) := by omega
                generalize gi I q = y at *
                have HT2 := hide (show seTo (x1, x2, x3) I (q + 1) = runB (x1, x2, x3) y by rw [HSU.out, hse]; rfl)
                clear hse
                go_wp2_with fail
                go_region_held3 (fun w' => w'.cell? ⟨b, off + p * 3, none⟩ = some (.int .i64 x1) ∧ w'.cell? ⟨b, off + p * 3 + 1, none⟩ = some (.int .i64 x2) ∧ w'.cell? ⟨b, off + p * 3 + 2, none⟩ = some (.int .i64 x3) ∧ w'.cell? ⟨b', off' + q, none⟩ = some (.int .i64 y))
                  (first
                    | go_keep
                    | (go_split_ands
                       refine ⟨?_, ?_, ?_, ?_⟩ <;> (rw [hb8.cell (by simp; omega)]; assumption)))
                  (first
                    | (go_at_call 82; refine (rruns_any _ _ _ _ _).mono ?_; rintro e8 w8 ⟨rfl, hb8⟩))
                all_goals
                  have B8 := hide ((below_drewN HB.out 1).trans (hb8.mono (by simp; exact HB.out.size)))
                  clear hb8
                  go_wp2_with fail
                  go_roundw
                  case rel => exact ⟨q + 1, by omega, by go_num, by rw [HT2.out], B8⟩
                  case measure => simp [intOf]; omega
            · obtain rfl : q = m := by omega
              have HA := hide (seTo_all (s := (x1, x2, x3)) HLI.out)
              rw [HA.out]
              cases hsn : seenB (x1, x2, x3) I with
              | true =>
                have HT2 := hide (HY.out hsn)
                clear hsn
                go_wp2_with fail
                go_roundw
                case rel => exact ⟨p + 1, by omega, by go_num, HT2, HB⟩
                case measure => simp [intOf]; omega
              | false =>
                have HN := hide (errM_no HE.out HS.out (HNO.out hsn))
                have HV := hide (lenM_no HN.out (by decide))
                clear hsn
                go_wp2_with fail
                go_ret2
                exact ⟨by rw [HV.out, HN.out]; rfl, HB.out⟩
        · obtain rfl : p = n := by omega
          have HN := hide (errM_ok HE.out HS.out (lookB_yes HLX.out HT.out))
          have HV := hide (show lenM xs I = (m : Int) by rw [lenM_ok HN.out, HLI.out])
          go_wp2_with fail
          go_ret2
          exact ⟨by rw [HV.out, HN.out]; rfl, HB.out⟩
  · have HN := hide (errM_v (I := I) he)
    have HV := hide (lenM_no HN.out he)
    have hne : (errV xs != 0) = true := by simpa using he
    clear he
    go_enter Try.func40, Try.ntmps40
    go_wp2_with (go_at_call 24; refine (rValidate_any _ _ _ xs _ HX.out hn).mono ?_; rintro e w1 ⟨rfl, b1⟩)
    go_ret2
    exact ⟨by rw [HV.out, HN.out]; rfl, b1⟩

set_option maxHeartbeats 2000000 in
theorem WatchLooks_walk (A : Option Addr) (n c : Nat) (xs : Ls) (A' : Option Addr) (n' c' : Nat) (r : List Int) (w : World) (h : R E3 w A n c xs) (h' : R E1 w A' n' c' r) :
    Calls Try.prog 9 #[.slice A n c, .slice A' n' c'] w fun e w' => e = .returned (.bool true) ∧ Below w.heap.size w w' := by
  have HX := hide h
  have HR := hide h'
  clear h h'
  have HC := hide (Boxed.new w 30 (.slice A' n' c')).cell
  have B0 := hide ((Below.refl w.heap.size w).alloc (Nat.le_refl _) (.cells #[.slice A' n' c'] 30))
  by_cases hn : 100 < n' ∨ 50 < n
  · have hb : (decide (100 < n') || decide (50 < n)) = true := by simpa using hn
    have HB := hide hb
    clear hb
    go_enter Try.func9, Try.ntmps9
    go_wp2_with fail
    refine (Long1_any _ _ _ _ _ _ _ _ HC.out (by simp) _ HB.out).mono ?_
    rintro e w' ⟨rfl, rfl⟩
    go_wp2_with fail
    refine (sane_any _).mono ?_
    rintro e w1 ⟨rfl, b1⟩
    have B1 := hide (B0.out.trans (b1.mono B0.out.size))
    clear b1
    go_wp2_with fail
    go_ret
    exact ⟨rfl, B1.out⟩
  · have hb : (decide (100 < n') || decide (50 < n)) = false := by simpa using hn
    have HB := hide hb
    have hn2 : n ≤ 1000 := by omega
    have hn3 : n' ≤ 1000 := by omega
    clear hb hn
    go_enter Try.func9, Try.ntmps9
    go_wp2_with fail
    refine (Long1_any _ _ _ _ _ _ _ _ HC.out (by simp) _ HB.out).mono ?_
    rintro e w' ⟨rfl, rfl⟩
    go_wp2_with fail
    refine (CheckMoments_any _ _ _ xs _ _ _ r _ (HX.out.below B0.out (Nat.le_refl _)) hn2 (HR.out.below B0.out (Nat.le_refl _)) hn3).mono ?_
    rintro e w1 ⟨rfl, b1⟩
    have B1 := hide (B0.out.trans (b1.mono B0.out.size))
    clear b1
    go_wp2_with fail
    refine (rCheckMoments_any _ _ _ xs _ _ _ r _ (HX.out.below B1.out (Nat.le_refl _)) hn2 (HR.out.below B1.out (Nat.le_refl _)) hn3).mono ?_
    rintro e w2 ⟨rfl, b2⟩
    have B2 := hide (B1.out.trans (b2.mono B1.out.size))
    clear b2
    go_wp2_with fail
    refine (Alone_any _ _ _ xs _ (HX.out.below B2.out (Nat.le_refl _)) hn2).mono ?_
    rintro e w3 ⟨A3, n3, k3, J, rfl, hJ, _, o3, b3⟩
    have HL3 := hide o3.len
    have B3 := hide (B2.out.trans (b3.mono B2.out.size))
    clear b3 o3
    by_cases he : errM xs r = 0
    · have hv := (errM_zero he).1
      obtain ⟨L, _, hJ⟩ := hJ hv
      have hp := looks_weak he hJ
      rw [HL3.out] at hp
      rw [he, hv]
      clear he hv hJ
      generalize lenM xs r = rv at *
      go_wp2_with fail
      refine (sane_any _).mono ?_
      rintro e w6 ⟨rfl, b6⟩
      go_wp2_with fail
      go_ret
      exact ⟨rfl, B3.out.trans (b6.mono B3.out.size)⟩
    · have hne : (errM xs r != 0) = true := by simpa using he
      clear he hJ
      generalize errM xs r = re at *
      generalize lenM xs r = rv at *
      go_wp2_with fail
      refine (sane_any _).mono ?_
      rintro e w6 ⟨rfl, b6⟩
      go_wp2_with fail
      go_ret
      exact ⟨rfl, B3.out.trans (b6.mono B3.out.size)⟩
end Go.Proofs.Ytpkjgnllkaafkaa
