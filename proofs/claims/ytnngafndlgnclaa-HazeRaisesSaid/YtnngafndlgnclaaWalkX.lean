/- Walks of HazeRaisesAll and HazeOpposites. -/
import Derived.Test.YtnngafndlgnclaaWalkW
namespace Go.Proofs.Ytnngafndlgnclaa
open Go.RowKit

theorem errRA_zero {xs : Rd} {k : Int} (h : errRA xs k = 0) : errH xs = 0 ∧ -100 ≤ k ∧ k ≤ 100 ∧ okH (upL xs 0 (xs.length - 1) k) = true := by
  unfold errRA at h
  split at h
  · rename_i h0
    unfold errU at h
    split at h
    · rename_i h1; exact ⟨h0, h1.1.1, h1.1.2, h1.2⟩
    · omega
  · contradiction
theorem mul_small {a b : Int} (h1 : -100 ≤ a) (h2 : a ≤ 100) (h3 : 0 ≤ b) (h4 : b ≤ 108) : -10800 ≤ a * b ∧ a * b ≤ 10800 := by
  have e1 : a * b ≤ 100 * b := Int.mul_le_mul_of_nonneg_right h2 h3
  have e2 : -100 * b ≤ a * b := Int.mul_le_mul_of_nonneg_right h1 h3
  omega
set_option maxRecDepth 100000 in
set_option maxHeartbeats 4000000 in
theorem HazeRaisesAll_walk (A : Option Addr) (n c : Nat) (xs : Rd) (by' : Int) (w : World) (h : Row w A n c xs) :
    Calls Try.prog 13 #[.slice A n c, .int .i64 by'] w fun e w' => e = .returned (.bool true) ∧ Below w.heap.size w w' := by
  have HR := hide h
  have hl := h.length
  by_cases hn : 100 < n
  · clear h hl
    go_enter Try.func13, Try.ntmps13
    go_wp2_with (first | (go_at_call 18; refine (Long_yes _ _ _ _ hn).mono ?_; rintro e w' ⟨rfl, rfl⟩) | (go_at_call 19; refine (known_any _).mono ?_; rintro e w1 ⟨rfl, hb⟩))
    go_ret
    exact ⟨rfl, hb⟩
  · have hn' : n ≤ 100 := by omega
    have HL := hide hl
    clear h hl hn
    go_enter Try.func13, Try.ntmps13
    go_wp2_with fail
    refine (Long_no _ _ _ _ hn').mono ?_
    rintro e w' ⟨rfl, rfl⟩
    go_wp2_with fail
    refine (RaiseAll_any _ _ _ xs by' _ HR.out (by omega)).mono ?_
    rintro e w1 ⟨A1, n1, c1, rfl, o1, b1⟩
    have O1 := hide o1
    have HR1 := hide (HR.out.below b1 (Nat.le_refl _))
    clear o1
    go_wp2_with fail
    refine (rRaiseAll_any _ _ _ xs by' _ HR1.out (by omega)).mono ?_
    rintro e w2 ⟨A2, n2, c2, rfl, o2, b2⟩
    have O2 := hide o2
    have O1' := hide (O1.out.below b2 (Nat.le_refl _))
    have HR2 := hide (HR1.out.below b2 (Nat.le_refl _))
    have B2 := b1.trans (b2.mono b1.size)
    clear o2 b1 b2 O1 HR1
    go_wp2_with fail
    refine (SameReadings_any _ _ _ _ _ _ _ _ _ O1'.out.row O2.out.row).mono ?_
    rw [eqL_self]
    rintro e w3 ⟨rfl, m3, rfl⟩
    have O1 := hide (O1'.out.drewN m3)
    have HR3 := hide (HR2.out.drewN m3)
    have B3 := below_drewN B2 m3
    generalize w2.drewN m3 = w3 at *
    clear O1' O2 HR2 B2
    go_wp2_with fail
    refine (Best_any _ _ _ xs _ HR3.out (by omega)).mono ?_
    rintro e w4 ⟨A4, n4, c4, rfl, o4, b4⟩
    have O4 := hide o4
    have O1' := hide (O1.out.below b4 (Nat.le_refl _))
    have B4 := B3.trans (b4.mono B3.size)
    clear o4 b4 B3 HR3
    go_wp2_with fail
    have hn1 : n1 ≤ 1000 := by
      have := O1'.out.len
      split at this
      · rw [upL_len, HL.out] at this; omega
      · simp at this; omega
    refine (Best_any _ _ _ _ _ O1'.out.row hn1).mono ?_
    rintro e w5 ⟨A5, n5, c5, rfl, o5, b5⟩
    have O5 := hide o5
    have O4' := hide (O4.out.below b5 (Nat.le_refl _))
    have B5 := B4.trans (b5.mono B4.size)
    have z5 := B5.size
    clear o5 b5 B4 O4
    by_cases hB : errRA xs by' = 0
    · obtain ⟨he, hk1, hk2, ho2⟩ := errRA_zero hB
      obtain ⟨e1, e2, e3⟩ := errH_zero he
      rw [HL.out] at e1 e2
      have het : errH (upL xs 0 (xs.length - 1) by') = 0 := errH_ok (by rw [upL_len, HL.out]; omega) (by rw [upL_len, HL.out]; omega) ho2
      rw [if_pos hB, het, if_pos rfl] at O5
      rw [he, if_pos rfl] at O4'
      rw [if_pos hB, het, hB, he]
      have hn4 : n4 = n := by have := O4'.out.len; rw [best_len, HL.out] at this; exact this.symm
      have hn5 : n5 = n := by have := O5.out.len; rw [best_len, upL_len, HL.out] at this; exact this.symm
      subst hn4 hn5
      have HF4 := hide (fair_best e3 (by rw [HL.out]; exact e2) HL.out)
      have HX := hide O4'.out.row
      have HY := hide O5.out.row
      have HO := hide e3
      have HO2 := hide ho2
      clear hB he het O1 O1' e3 ho2
      go_wp2_with (first | (go_at_call 35; refine (fair_any _ _ _ _ _ HX.out (by omega) HF4.out).mono ?_; rintro e w6 ⟨rfl, rfl⟩))
      obtain ⟨bx, ox, rx⟩ := HX.out
      obtain ⟨by2, oy, ry⟩ := HY.out
      obtain rfl := rx.at_ (by omega)
      obtain rfl := ry.at_ (by omega)
      have hcx := rx.cap
      have hcy := ry.cap
      have hmx := rx.max
      have hmy := ry.max
      have RX := hide rx
      have RY := hide ry
      clear rx ry HX HY O4' O5
      go_loopw [13] (fun t wr => ∃ i : Nat, i ≤ n5 ∧ t = .int .i64 i ∧ RowAt wr (some ⟨bx, ox, none⟩) n5 c4 (best xs) bx ox ∧ RowAt wr (some ⟨by2, oy, none⟩) n5 c5 (best (upL xs 0 (xs.length - 1) by')) by2 oy ∧ Below w.heap.size w wr) (fun t _ => n5 - (intOf t).toNat)
      case atStart => exact ⟨0, Nat.zero_le _, rfl, RX.out, RY.out, B5⟩
      case round =>
        obtain ⟨i, hi, rfl, ra, rb, hbel⟩ := hrel
        have RA := hide ra
        have RB := hide rb
        by_cases hlt : i < n5
        · have hix : i < xs.length := by rw [HL.out]; exact hlt
          obtain ⟨c1, c2⟩ := ra.cell i (by omega)
          obtain ⟨d1, d2⟩ := rb.cell i hlt
          rw [best_get xs hix] at c1 c2
          rw [best_get _ (by rw [upL_len]; exact hix), rr_upAll HO.out HO2.out hix] at d1 d2
          simp only at c1 c2 d1 d2
          have hbx : bx < wr.heap.size := ra.lt (by omega)
          have hby : by2 < wr.heap.size := rb.lt (by omega)
          obtain ⟨s1, s2, s3, s4⟩ := small_rr HO.out (by rw [HL.out]; omega) (i := i) hix
          obtain ⟨m1, m2⟩ := mul_small hk1 hk2 (show 0 ≤ de (rr xs i) by omega) s4
          have HRT := fun W => Ratio_any (nu (rr xs i) + by' * de (rr xs i)) (de (rr xs i)) W (by omega) (by omega) (by omega) (by omega)
          rw [rt_plus] at HRT
          have HRT' := hide HRT
          clear ra rb HRT
          generalize rr xs i + (by' : Rat) = q' at *
          generalize nu (rr xs i) = a1 at *
          generalize de (rr xs i) = a2 at *
          generalize nu q' = a3 at *
          generalize de q' = a4 at *
          have l0 : (0 : Int) ≤ i := by omega
          have l1 : (i : Int) < n5 := by omega
          have hw1 : IntKind.i64.wrap (by' * a2) = by' * a2 := IntWalk.i64_in _ (by omega)
          have hw2 : IntKind.i64.wrap (a1 + by' * a2) = a1 + by' * a2 := IntWalk.i64_in _ (by omega)
          go_wp2_with fail
          go_region_held3 (fun w' => w'.cell? ⟨bx, ox + i * 2, none⟩ = some (.int .i64 a1) ∧ w'.cell? ⟨bx, ox + i * 2 + 1, none⟩ = some (.int .i64 a2) ∧ w'.cell? ⟨by2, oy + i * 2, none⟩ = some (.int .i64 a3) ∧ w'.cell? ⟨by2, oy + i * 2 + 1, none⟩ = some (.int .i64 a4))
            (first
              | go_keep
              | (go_split_ands
                 refine ⟨?_, ?_, ?_, ?_⟩ <;> (rw [hb8.cell (by simp; omega)]; assumption)))
            (first
              | (go_at_call 51; refine (HRT'.out _).mono ?_; rintro e w8 ⟨rfl, hb8⟩))
          all_goals
            clear hw1 hw2
            go_wp2_with fail
            go_roundw
            case rel => exact ⟨i + 1, by omega, by go_num, (RA.out.below ((Below.refl wr.heap.size wr).drew) (Nat.le_refl _)).below hb8 (Nat.le_refl _), (RB.out.below ((Below.refl wr.heap.size wr).drew) (Nat.le_refl _)).below hb8 (Nat.le_refl _), (hbel.drew).trans (hb8.mono hbel.size)⟩
            case measure => simp [intOf]; omega
        · go_wp2_with (first | (go_at_call 19; refine (known_any _).mono ?_; rintro e w7 ⟨rfl, hb7⟩))
          go_ret
          exact ⟨rfl, hbel.trans (hb7.mono hbel.size)⟩
    · have hb' : (errRA xs by' != 0) = true := by simp [hB]
      rw [if_neg hB]
      clear hB O1 O1' O4' O5
      go_wp2_with (first | (go_at_call 19; refine (known_any _).mono ?_; rintro e w7 ⟨rfl, hb7⟩))
      go_ret
      exact ⟨rfl, B5.trans (hb7.mono z5)⟩

end Go.Proofs.Ytnngafndlgnclaa
