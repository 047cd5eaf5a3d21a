/- The walk of HazeOpposites. -/
import Derived.Test.YtnngafndlgnclaaWalkX
namespace Go.Proofs.Ytnngafndlgnclaa
open Go.RowKit

theorem errH_op {xs : Rd} (h : errH xs = 0) : errH (opL xs) = 0 := by
  obtain ⟨a, b, c⟩ := errH_zero h
  exact errH_ok (by rw [opL_len]; exact a) (by rw [opL_len]; exact b) (opL_ok c)
set_option maxRecDepth 100000 in
set_option maxHeartbeats 4000000 in
theorem HazeOpposites_walk (A : Option Addr) (n c : Nat) (xs : Rd) (w : World) (h : Row w A n c xs) :
    Calls Try.prog 14 #[.slice A n c] w fun e w' => e = .returned (.bool true) ∧ Below w.heap.size w w' := by
  have HR := hide h
  have hl := h.length
  by_cases hn : 100 < n
  · clear h hl
    go_enter Try.func14, Try.ntmps14
    go_wp2_with (first | (go_at_call 18; refine (Long_yes _ _ _ _ hn).mono ?_; rintro e w' ⟨rfl, rfl⟩) | (go_at_call 19; refine (known_any _).mono ?_; rintro e w1 ⟨rfl, hb⟩))
    go_ret
    exact ⟨rfl, hb⟩
  · have hn' : n ≤ 100 := by omega
    have HL := hide hl
    clear h hl hn
    go_enter Try.func14, Try.ntmps14
    go_wp2_with fail
    refine (Long_no _ _ _ _ hn').mono ?_
    rintro e w' ⟨rfl, rfl⟩
    go_wp2_with fail
    refine (Opposite_any _ _ _ xs _ HR.out (by omega)).mono ?_
    rintro e w1 ⟨A1, n1, c1, rfl, o1, b1⟩
    have O1 := hide o1
    have HR1 := hide (HR.out.below b1 (Nat.le_refl _))
    clear o1
    go_wp2_with fail
    refine (rOpposite_any _ _ _ xs _ HR1.out (by omega)).mono ?_
    rintro e w2 ⟨A2, n2, c2, rfl, o2, b2⟩
    have O2 := hide o2
    have O1' := hide (O1.out.below b2 (Nat.le_refl _))
    have HR2 := hide (HR1.out.below b2 (Nat.le_refl _))
    have B2 := b1.trans (b2.mono b1.size)
    clear o2 b1 b2 O1 HR1
    go_wp2_with fail
    refine (SameReadings_any _ _ _ _ _ _ _ _ _ O1'.out.row O2.out.row).mono ?_
    rw [eqL_self]
    rintro e w3 ⟨rfl, m3, rfl⟩
    have HR3 := hide (HR2.out.drewN m3)
    have B3 := below_drewN B2 m3
    generalize w2.drewN m3 = w3 at *
    clear O1' O2 HR2 B2
    go_wp2_with fail
    refine (Turn_any _ _ _ xs _ HR3.out (by omega)).mono ?_
    rintro e w4 ⟨A3, n3, c3, rfl, o3, b3⟩
    have O3 := hide o3
    have HR4 := hide (HR3.out.below b3 (Nat.le_refl _))
    have B4 := B3.trans (b3.mono B3.size)
    clear o3 b3 B3 HR3
    go_wp2_with fail
    have hn3 : n3 ≤ 1000 := by
      have := O3.out.len
      split at this
      · rw [List.length_reverse, HL.out] at this; omega
      · simp at this; omega
    generalize hys : (if errH xs = 0 then xs.reverse else []) = ys at *
    have HYS := hide hys
    clear hys
    refine (Opposite_any _ _ _ ys _ O3.out.row hn3).mono ?_
    rintro e w5 ⟨A6, n6, c6, rfl, o6, b6⟩
    have O6 := hide o6
    have HR5 := hide (HR4.out.below b6 (Nat.le_refl _))
    have B5 := B4.trans (b6.mono B4.size)
    have hn6 : n6 ≤ 1000 := by
      have h1 := O6.out.len
      have h2 := O3.out.len
      split at h1
      · rw [opL_len] at h1; omega
      · simp at h1; omega
    clear o6 b6 B4 HR4 O3
    go_wp2_with fail
    refine (Best_any _ _ _ xs _ HR5.out (by omega)).mono ?_
    rintro e w6 ⟨A4, n4, c4, rfl, o4, b4⟩
    have O4 := hide o4
    have O6' := hide (O6.out.below b4 (Nat.le_refl _))
    have B6 := B5.trans (b4.mono B5.size)
    clear o4 b4 B5 HR5 O6
    go_wp2_with fail
    generalize hzs : (if errH ys = 0 then opL ys else []) = zs at *
    have HZS := hide hzs
    clear hzs
    refine (Best_any _ _ _ zs _ O6'.out.row hn6).mono ?_
    rintro e w7 ⟨A5, n5, c5, rfl, o5, b5⟩
    have O5 := hide o5
    have O4' := hide (O4.out.below b5 (Nat.le_refl _))
    have B7 := B6.trans (b5.mono B6.size)
    have z7 := B7.size
    clear o5 b5 B6 O4 O6'
    by_cases he : errH xs = 0
    · obtain ⟨e1, e2, e3⟩ := errH_zero he
      rw [HL.out] at e1 e2
      have her := errH_rev he
      have hys : ys = xs.reverse := by rw [← HYS.out, if_pos he]
      have heo := errH_op her
      have hzs : zs = opL xs.reverse := by rw [← HZS.out, hys, if_pos her]
      rw [hzs, heo, if_pos rfl] at O5
      rw [he, if_pos rfl] at O4'
      rw [hzs, heo, hys, her, he]
      have hn4 : n4 = n := by have := O4'.out.len; rw [best_len, HL.out] at this; exact this.symm
      have hn5 : n5 = n := by have := O5.out.len; rw [best_len, opL_len, List.length_reverse, HL.out] at this; exact this.symm
      subst hn4 hn5
      have HF4 := hide (fair_best e3 (by rw [HL.out]; exact e2) HL.out)
      have HX := hide O4'.out.row
      have HY := hide O5.out.row
      have HO := hide e3
      clear he her heo hys hzs HYS HZS e3
      go_wp2_with (first | (go_at_call 35; refine (fair_any _ _ _ _ _ HX.out (by omega) HF4.out).mono ?_; rintro e w8 ⟨rfl, rfl⟩))
      obtain ⟨bx, ox, rx⟩ := HX.out
      obtain ⟨by2, oy, ry⟩ := HY.out
      obtain rfl := rx.at_ (by omega)
      obtain rfl := ry.at_ (by omega)
      have hcx := rx.cap
      have hcy := ry.cap
      have hmx := rx.max
      have hmy := ry.max
      have RX := hide rx
      have RY := hide ry
      clear rx ry HX HY O4' O5
      go_loopw [15] (fun t wr => ∃ i : Nat, i ≤ n5 ∧ t = .int .i64 i ∧ RowAt wr (some ⟨bx, ox, none⟩) n5 c4 (best xs) bx ox ∧ RowAt wr (some ⟨by2, oy, none⟩) n5 c5 (best (opL xs.reverse)) by2 oy ∧ Below w.heap.size w wr) (fun t _ => n5 - (intOf t).toNat)
      case atStart => exact ⟨0, Nat.zero_le _, rfl, RX.out, RY.out, B7⟩
      case round =>
        obtain ⟨i, hi, rfl, ra, rb, hbel⟩ := hrel
        have RA := hide ra
        have RB := hide rb
        by_cases hlt : i < n5
        · have hix : i < xs.length := by rw [HL.out]; exact hlt
          have hjx : n5 - 1 - i < xs.length := by rw [HL.out]; omega
          obtain ⟨c1, c2⟩ := ra.cell (n5 - 1 - i) (by omega)
          obtain ⟨d1, d2⟩ := rb.cell i hlt
          rw [best_get xs hjx] at c1 c2
          rw [best_get _ (by rw [opL_len, List.length_reverse]; exact hix), rr_opp HO.out hix, HL.out] at d1 d2
          simp only at c1 c2 d1 d2
          have hbx : bx < wr.heap.size := ra.lt (by omega)
          have hby : by2 < wr.heap.size := rb.lt (by omega)
          obtain ⟨s1, s2, s3, s4⟩ := small_rr HO.out (by rw [HL.out]; omega) (i := n5 - 1 - i) hjx
          have HRT := fun W => Ratio_any (100 * de (rr xs (n5 - 1 - i)) - nu (rr xs (n5 - 1 - i))) (de (rr xs (n5 - 1 - i))) W (by omega) (by omega) (by omega) (by omega)
          rw [rt_minus] at HRT
          have HRT' := hide HRT
          clear ra rb HRT
          generalize (100 : Rat) - rr xs (n5 - 1 - i) = q' at *
          generalize nu (rr xs (n5 - 1 - i)) = a1 at *
          generalize de (rr xs (n5 - 1 - i)) = a2 at *
          generalize nu q' = a3 at *
          generalize de q' = a4 at *
          have l0 : (0 : Int) ≤ i := by omega
          have l1 : (i : Int) < n5 := by omega
          have l2 : (0 : Int) ≤ (n5 : Int) - 1 - i := by omega
          have l3 : (n5 : Int) - 1 - i < n5 := by omega
          have l4 : ((n5 : Int) - 1 - (i : Int)).toNat = n5 - 1 - i := by omega
          have l5 : (i : Int) ≤ (n5 : Int) - 1 := by omega
          have hw1 : IntKind.i64.wrap (100 * a2) = 100 * a2 := IntWalk.i64_in _ (by omega)
          have hw2 : IntKind.i64.wrap (100 * a2 - a1) = 100 * a2 - a1 := IntWalk.i64_in _ (by omega)
          go_wp2_with fail
          have K := hide (Bk.born wr 26 #[.int .i64 a1, .int .i64 a2])
          have RA2 := hide (RA.out.below ((Below.refl wr.heap.size wr).alloc (Nat.le_refl _) (.cells #[.int .i64 a1, .int .i64 a2] 26)) (Nat.le_refl _))
          have RB2 := hide (RB.out.below ((Below.refl wr.heap.size wr).alloc (Nat.le_refl _) (.cells #[.int .i64 a1, .int .i64 a2] 26)) (Nat.le_refl _))
          have hbel2 := hbel.alloc hbel.size (.cells #[.int .i64 a1, .int .i64 a2] 26)
          have hv : wr.heap.size < (wr.alloc (.cells #[.int .i64 a1, .int .i64 a2] 26)).heap.size := by simp
          obtain ⟨k0, k1, _, _, _⟩ := K.out.two
          have d1' := (((Below.refl wr.heap.size wr).alloc (Nat.le_refl _) (.cells #[.int .i64 a1, .int .i64 a2] 26)).cell (p := ⟨by2, oy + i * 2, none⟩) hby).trans d1
          have d2' := (((Below.refl wr.heap.size wr).alloc (Nat.le_refl _) (.cells #[.int .i64 a1, .int .i64 a2] 26)).cell (p := ⟨by2, oy + i * 2 + 1, none⟩) hby).trans d2
          have hby9 : by2 < (wr.alloc (.cells #[.int .i64 a1, .int .i64 a2] 26)).heap.size := by simp; omega
          clear c1 c2 d1 d2 RA RB hbel
          generalize wr.alloc (.cells #[.int .i64 a1, .int .i64 a2] 26) = w9 at *
          generalize wr.heap.size = g9 at *
          go_region_held3 (fun w' => w'.cell? ⟨g9, 0, none⟩ = some (.int .i64 a1) ∧ w'.cell? ⟨g9, 1, none⟩ = some (.int .i64 a2) ∧ w'.cell? ⟨by2, oy + i * 2, none⟩ = some (.int .i64 a3) ∧ w'.cell? ⟨by2, oy + i * 2 + 1, none⟩ = some (.int .i64 a4))
            (first
              | go_keep
              | (go_split_ands
                 refine ⟨?_, ?_, ?_, ?_⟩ <;> (rw [hb8.cell (by simp; omega)]; assumption)))
            (first
              | (go_at_call 51; refine (HRT'.out _).mono ?_; rintro e w8 ⟨rfl, hb8⟩))
          all_goals
            clear hw1 hw2 k0 k1 d1' d2' l2 l3 l4 l5
            go_wp2_with fail
            go_roundw
            case rel => exact ⟨i + 1, by omega, by go_num, (RA2.out.below ((Below.refl w9.heap.size w9).drew) (Nat.le_refl _)).below hb8 (Nat.le_refl _), (RB2.out.below ((Below.refl w9.heap.size w9).drew) (Nat.le_refl _)).below hb8 (Nat.le_refl _), (hbel2.drew).trans (hb8.mono hbel2.size)⟩
            case measure => simp [intOf]; omega
        · go_wp2_with (first | (go_at_call 19; refine (known_any _).mono ?_; rintro e w8 ⟨rfl, hb8⟩))
          go_ret
          exact ⟨rfl, hbel.trans (hb8.mono hbel.size)⟩
    · have he' := errH_ne he
      clear O4' O5
      go_wp2_with (first | (go_at_call 19; refine (known_any _).mono ?_; rintro e w8 ⟨rfl, hb8⟩))
      go_ret
      exact ⟨rfl, B7.trans (hb8.mono z7)⟩

end Go.Proofs.Ytnngafndlgnclaa
