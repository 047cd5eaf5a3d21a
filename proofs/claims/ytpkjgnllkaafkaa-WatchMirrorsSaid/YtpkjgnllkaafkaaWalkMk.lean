/- The walk of WatchMirrors. -/
import Derived.Test.YtpkjgnllkaafkaaWalkMj
namespace Go.Proofs.Ytpkjgnllkaafkaa
open Go.RowKit

set_option maxHeartbeats 2000000 in
theorem WatchMirrors_walk (A : Option Addr) (n c : Nat) (xs : Ls) (w : World) (h : R E3 w A n c xs) :
    Calls Try.prog 15 #[.slice A n c] w fun e w' => e = .returned (.bool true) ∧ Below w.heap.size w w' := by
  have HLX := hide h.length
  have HX := hide h
  clear h
  by_cases hn : 50 < n
  · have hb : decide (50 < n) = true := by simpa using hn
    have HB := hide hb
    clear hb
    go_enter Try.func15, Try.ntmps15
    go_wp2_with fail
    refine (Long0_any _ _ _ _ _ HB.out).mono ?_
    rintro e w' ⟨rfl, rfl⟩
    go_wp2_with fail
    refine (sane_any _).mono ?_
    rintro e w1 ⟨rfl, b1⟩
    go_wp2_with fail
    go_ret
    exact ⟨rfl, b1⟩
  · have hb : decide (50 < n) = false := by simpa using hn
    have HB := hide hb
    have hn2 : n ≤ 1000 := by omega
    clear hb hn
    by_cases he : errV xs = 0
    · have HE := hide he
      clear he
      go_enter Try.func15, Try.ntmps15
      go_wp2_with (first
        | (go_at_call 19; refine (Long0_any _ _ _ _ _ HB.out).mono ?_; rintro e w' ⟨rfl, rfl⟩)
        | (at_builtin; refine wpList_appX (E := E3) _ (.agg #[.int .i64 0, .int .i64 0, .int .i64 0]) 24 rfl (.tmp 12) (.tmp 13) 22 57 rfl Try.underlying22 info_shift rfl (by decide) (by omega) w.heap.size w.heap.size A n c xs rfl rfl (Own.lit w [] (Nat.le_refl _) (by simp)) (HX.out.below ((Below.refl _ w).alloc (Nat.le_refl _) _) (Nat.le_refl _)) (by omega) (by simp) ?_; intro A1 c1 w1 o1 b1; have O1 := hide o1; have B1 := hide (((Below.refl _ w).alloc (Nat.le_refl _) (.cells #[] 57)).trans b1); clear o1 b1))
      refine (Mirror_any _ _ _ xs _ O1.out.row hn2).mono ?_
      rintro e w2 ⟨A2, n2, c2, P, rfl, hP, _, o2, b2⟩
      rw [HE.out]
      obtain rfl := hP HE.out
      obtain rfl : n2 = n := by have h1 := o2.len; rw [mirL_len, HLX.out] at h1; exact h1.symm
      have O2 := hide o2
      have B12 := hide b2
      have B2 := hide (B1.out.trans (b2.mono B1.out.size))
      clear hP o2 b2
      go_wp2_with fail
      refine (rMirror_any _ _ _ xs _ (HX.out.below B2.out (Nat.le_refl _)) hn2).mono ?_
      rintro e w3 ⟨A3, n3, c3, P, rfl, hP, _, o3, b3⟩
      rw [HE.out]
      obtain rfl := hP HE.out
      obtain rfl : n3 = n2 := by have h1 := o3.len; rw [mirL_len, HLX.out] at h1; exact h1.symm
      have O3 := hide o3
      have O23 := hide (O2.out.below b3 (Nat.le_refl _))
      have B13 := hide (B12.out.trans (b3.mono B12.out.size))
      have B3 := hide (B2.out.trans (b3.mono B2.out.size)); clear b3
      clear hP o3
      go_wp2_with (first
        | (go_at_call 49; refine (SameShifts_self _ _ _ _ _ _ (mirL xs) _ O23.out.row O3.out.row (by omega)).mono ?_; rintro e w4 ⟨rfl, b4⟩; have O24 := hide (O23.out.below b4 (Nat.le_refl _)); have B14 := hide (B13.out.trans (b4.mono B13.out.size)); have B4 := hide (B3.out.trans (b4.mono B3.out.size)); clear b4)
        | (go_at_call 52; refine (same_any _ _ _ xs _ _ _ _ (HX.out.below B4.out (Nat.le_refl _)) O24.out.row hn2 hn2 HE.out).mono ?_; rintro e w5 ⟨rfl, b5⟩; have O25 := hide (O24.out.below b5 (Nat.le_refl _)); have B15 := hide (B14.out.trans (b5.mono B14.out.size)); have B5 := hide (B4.out.trans (b5.mono B4.out.size)); clear b5))
      go_loopw [8] (fun i wr => ∃ (k : Nat) (P : Ls), k ≤ n3 ∧ i = .int .i64 k ∧ Hid (Own E3 wr w1.heap.size 57 A2 n3 c2 P) ∧ Hid (Below w1.heap.size w1 wr)) (fun i _ => n3 - (intOf i).toNat)
      case atStart => exact ⟨0, _, Nat.zero_le _, rfl, O25, B15⟩
      case round =>
        obtain ⟨k, P, hk, rfl, HO, HB2⟩ := hrel
        by_cases hlt : k < n3
        · obtain ⟨g, rfl, hg1, hg2, hg3, hg4⟩ := HO.out.addr (by omega)
          have hg4' : c2 ≤ 9223372036854775807 := hg4
          obtain ⟨d1, d2, d3⟩ := own3 HO.out hlt
          have f2 := HO.out.frozen (k * 3 + 2)
          have HS := hide (HO.out.stored (j := 2) hlt (by decide) (.int .i64 (-1)) ((P.getD k sh0).1, (P.getD k sh0).2.1, -1) rfl)
          generalize P.getD k sh0 = z at *
          obtain ⟨z1, z2, z3⟩ := z
          dsimp only at *
          clear hg4
          have i1 : (k : Int) < (n3 : Int) := by omega
          go_wp2_with fail
          go_roundw
          case rel => exact ⟨k + 1, _, by omega, by go_num, HS, hide (HB2.out.setCell (p := ⟨g, k * 3 + 2, none⟩) (by simp; omega) _)⟩
          case measure => simp [intOf]; omega
        · obtain rfl : k = n3 := by omega
          have O6 := hide (O1.out.below HB2.out (Nat.le_refl _))
          have B6 := hide (B1.out.trans (HB2.out.mono B1.out.size))
          go_wp2_with (first
        | (go_at_call 49; refine (SameShifts_self _ _ _ _ _ _ xs _ O6.out.row (HX.out.below B6.out (Nat.le_refl _)) (by omega)).mono ?_; rintro e w7 ⟨rfl, b7⟩; have B7 := hide (B6.out.trans (b7.mono B6.out.size)); clear b7)
        | (go_at_call 20; refine (sane_any _).mono ?_; rintro e w8 ⟨rfl, b8⟩; have B8 := hide (B7.out.trans (b8.mono B7.out.size)); clear b8))
          go_ret
          exact ⟨rfl, B8.out⟩
    · have HE := hide he
      have hne : (errV xs != 0) = true := by simpa using he
      clear he
      go_enter Try.func15, Try.ntmps15
      go_wp2_with (first
        | (go_at_call 19; refine (Long0_any _ _ _ _ _ HB.out).mono ?_; rintro e w' ⟨rfl, rfl⟩)
        | (at_builtin; refine wpList_appX (E := E3) _ (.agg #[.int .i64 0, .int .i64 0, .int .i64 0]) 24 rfl (.tmp 12) (.tmp 13) 22 57 rfl Try.underlying22 info_shift rfl (by decide) (by omega) w.heap.size w.heap.size A n c xs rfl rfl (Own.lit w [] (Nat.le_refl _) (by simp)) (HX.out.below ((Below.refl _ w).alloc (Nat.le_refl _) _) (Nat.le_refl _)) (by omega) (by simp) ?_; intro A1 c1 w1 o1 b1; have O1 := hide o1; have B1 := hide (((Below.refl _ w).alloc (Nat.le_refl _) (.cells #[] 57)).trans b1); clear o1 b1))
      refine (Mirror_any _ _ _ xs _ O1.out.row hn2).mono ?_
      rintro e w2 ⟨A2, n2, c2, P, rfl, _, hP, o2, b2⟩
      obtain rfl := hP HE.out
      obtain rfl : n2 = 0 := by have h1 := o2.len; exact h1.symm
      have O2 := hide o2
      have O12 := hide (O1.out.below b2 (Nat.le_refl _))
      have B2 := hide (B1.out.trans (b2.mono B1.out.size))
      clear hP o2 b2
      go_wp2_with fail
      refine (rMirror_any _ _ _ xs _ (HX.out.below B2.out (Nat.le_refl _)) hn2).mono ?_
      rintro e w3 ⟨A3, n3, c3, P, rfl, _, hP, o3, b3⟩
      obtain rfl := hP HE.out
      have O3 := hide o3
      have O23 := hide (O2.out.below b3 (Nat.le_refl _))
      have O13 := hide (O12.out.below b3 (Nat.le_refl _))
      have B3 := hide (B2.out.trans (b3.mono B2.out.size)); clear b3
      clear hP o3
      generalize errV xs = ev at *
      go_wp2_with (first
        | (go_at_call 49; refine (SameShifts_self _ _ _ _ _ _ [] _ O23.out.row O3.out.row (by omega)).mono ?_; rintro e w4 ⟨rfl, b4⟩; have O14 := hide (O13.out.below b4 (Nat.le_refl _)); have B4 := hide (B3.out.trans (b4.mono B3.out.size)); clear b4))
      go_loopw [8] (fun i wr => i = .int .i64 0 ∧ w4 = wr) (fun _ _ => 0)
      case atStart => exact ⟨rfl, rfl⟩
      case round =>
        obtain ⟨rfl, rfl⟩ := hrel
        go_wp2_with (first
        | (go_at_call 49; refine (SameShifts_self _ _ _ _ _ _ xs _ O14.out.row (HX.out.below B4.out (Nat.le_refl _)) (by omega)).mono ?_; rintro e w7 ⟨rfl, b7⟩; have B7 := hide (B4.out.trans (b7.mono B4.out.size)); clear b7)
        | (go_at_call 20; refine (sane_any _).mono ?_; rintro e w8 ⟨rfl, b8⟩; have B8 := hide (B7.out.trans (b8.mono B7.out.size)); clear b8))
        go_ret
        exact ⟨rfl, B8.out⟩
end Go.Proofs.Ytpkjgnllkaafkaa
