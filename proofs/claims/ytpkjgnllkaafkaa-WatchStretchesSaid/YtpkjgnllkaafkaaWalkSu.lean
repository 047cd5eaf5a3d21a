/- The walk of WatchStretches. -/
import Derived.Test.YtpkjgnllkaafkaaWalkSt
namespace Go.Proofs.Ytpkjgnllkaafkaa
open Go.RowKit

theorem str_peak {xs : Ls} {i b : Int} (h : errSt xs i b = 0) : errV xs = 0 ∧ errV (strL xs i.toNat b) = 0 ∧ (0 ≤ b → (peak xs).2 ≤ (peak (strL xs i.toNat b)).2) := by
  have he : errN xs [i] = 0 := by
    refine Classical.byContradiction fun hh => ?_
    rw [errSt_n hh] at h
    exact hh h
  have ho : okS (stS xs i b) = true := by
    refine Classical.byContradiction fun hh => ?_
    rw [errSt_no he hh] at h
    cases h
  obtain ⟨hv, h0, h1⟩ := errN_o he
  have hs : errV (strL xs i.toNat b) = 0 := by
    unfold strL
    rw [set_err hv (by omega), if_pos]
    exact ho
  refine ⟨hv, hs, fun hb => ?_⟩
  unfold peak
  rw [if_pos hv, if_pos hs]
  exact strL_peak hb

set_option maxRecDepth 100000 in
set_option maxHeartbeats 1000000 in
theorem WatchStretches_walk (A : Option Addr) (n c : Nat) (xs : Ls) (i b : Int) (w : World) (h : R E3 w A n c xs) (_ : (Lit.int .i64 i).wf = true) (hwf : (Lit.int .i64 b).wf = true) :
    Calls Try.prog 17 #[.slice A n c, .int .i64 i, .int .i64 b] w fun e w' => e = .returned (.bool true) ∧ Below w.heap.size w w' := by
  have HLX := hide h.length
  have HX := hide h
  clear h
  by_cases hn : 50 < n
  · have hb : decide (50 < n) = true := by simpa using hn
    have HB := hide hb
    clear hb
    go_enter Try.func17, Try.ntmps17
    go_wp2_with fail
    refine (Long0_any _ _ _ _ _ HB.out).mono ?_
    rintro e w' ⟨rfl, rfl⟩
    go_wp2_with fail
    refine (sane_any _).mono ?_
    rintro e w1 ⟨rfl, b1⟩
    go_wp2_with fail
    go_ret
    exact ⟨rfl, b1⟩
  · have hb : decide (50 < n) = false := by simpa using hn
    have HB := hide hb
    have hn2 : n ≤ 1000 := by omega
    clear hb hn
    by_cases he : errSt xs i b = 0
    · have HES := hide he
      have HPK := hide (str_peak he)
      have HV := hide HPK.out.1
      have HVS := hide HPK.out.2.1
      clear he
      by_cases hb0 : b < 0
      · have hb1 : ¬ (0 ≤ b) := by omega
        clear HPK
        go_enter Try.func17, Try.ntmps17
        go_wp2_with (first
          | (go_at_call 19; refine (Long0_any _ _ _ _ _ HB.out).mono ?_; rintro e w' ⟨rfl, rfl⟩)
          | (at_builtin; refine wpList_appX (E := E3) _ (.agg #[.int .i64 0, .int .i64 0, .int .i64 0]) 24 rfl (.tmp 21) (.tmp 22) 22 57 rfl Try.underlying22 info_shift rfl (by decide) (by omega) w.heap.size w.heap.size A n c xs rfl rfl (Own.lit w [] (Nat.le_refl _) (by simp)) (HX.out.below ((Below.refl _ w).alloc (Nat.le_refl _) _) (Nat.le_refl _)) (by omega) (by simp) ?_; intro A1 c1 w1 o1 b1; have O1 := hide o1; have B1 := hide (((Below.refl _ w).alloc (Nat.le_refl _) (.cells #[] 57)).trans b1); clear o1 b1))
        refine (Stretch_any _ _ _ xs i b _ O1.out.row hn2 hwf).mono ?_
        rintro e w2 ⟨A2, n2, c2, P, rfl, hP, _, o2, b2⟩
        rw [HES.out]
        obtain rfl := hP HES.out
        have O2 := hide o2
        have O12 := hide (O1.out.below b2 (Nat.le_refl _))
        have B2 := hide (B1.out.trans (b2.mono B1.out.size))
        clear b2
        clear hP o2
        go_wp2_with fail
        refine (rStretch_any _ _ _ xs i b _ (HX.out.below B2.out (Nat.le_refl _)) hn2).mono ?_
        rintro e w3 ⟨A3, n3, c3, P, rfl, hP, _, o3, b3⟩
        rw [HES.out]
        obtain rfl := hP HES.out
        have O3 := hide o3
        have O23 := hide (O2.out.below b3 (Nat.le_refl _))
        have O13 := hide (O12.out.below b3 (Nat.le_refl _))
        have B3 := hide (B2.out.trans (b3.mono B2.out.size))
        clear b3
        clear hP o3
        have hn1 : n2 ≤ 1000 := by have h1 := O2.out.len; unfold strL at h1; rw [List.length_set] at h1; have h3 := HLX.out; omega
        generalize hst : strL xs i.toNat b = st at *
        clear hst
        go_wp2_with fail
        refine (SameShifts_self _ _ _ _ _ _ (st) _ O23.out.row O3.out.row (by omega)).mono ?_
        rintro e w4 ⟨rfl, b4⟩
        have O24 := hide (O23.out.below b4 (Nat.le_refl _))
        have O14 := hide (O13.out.below b4 (Nat.le_refl _))
        have B4 := hide (B3.out.trans (b4.mono B3.out.size))
        clear b4
        go_wp2_with fail
        refine (SameShifts_self _ _ _ _ _ _ xs _ O14.out.row (HX.out.below B4.out (Nat.le_refl _)) (by omega)).mono ?_
        rintro e w5 ⟨rfl, b5⟩
        have O25 := hide (O24.out.below b5 (Nat.le_refl _))
        have B5 := hide (B4.out.trans (b5.mono B4.out.size))
        clear b5
        go_wp2_with (first
          | (go_at_call 20; refine (sane_any _).mono ?_; rintro e w8 ⟨rfl, b8⟩; have B8 := hide (B5.out.trans (b8.mono B5.out.size)); clear b8))
        go_ret
        exact ⟨rfl, B8.out⟩
      · have hle := HPK.out.2.2 (by omega)
        have hb1 : 0 ≤ b := by omega
        clear HPK
        go_enter Try.func17, Try.ntmps17
        go_wp2_with (first
          | (go_at_call 19; refine (Long0_any _ _ _ _ _ HB.out).mono ?_; rintro e w' ⟨rfl, rfl⟩)
          | (at_builtin; refine wpList_appX (E := E3) _ (.agg #[.int .i64 0, .int .i64 0, .int .i64 0]) 24 rfl (.tmp 21) (.tmp 22) 22 57 rfl Try.underlying22 info_shift rfl (by decide) (by omega) w.heap.size w.heap.size A n c xs rfl rfl (Own.lit w [] (Nat.le_refl _) (by simp)) (HX.out.below ((Below.refl _ w).alloc (Nat.le_refl _) _) (Nat.le_refl _)) (by omega) (by simp) ?_; intro A1 c1 w1 o1 b1; have O1 := hide o1; have B1 := hide (((Below.refl _ w).alloc (Nat.le_refl _) (.cells #[] 57)).trans b1); clear o1 b1))
        refine (Stretch_any _ _ _ xs i b _ O1.out.row hn2 hwf).mono ?_
        rintro e w2 ⟨A2, n2, c2, P, rfl, hP, _, o2, b2⟩
        rw [HES.out]
        obtain rfl := hP HES.out
        have O2 := hide o2
        have O12 := hide (O1.out.below b2 (Nat.le_refl _))
        have B2 := hide (B1.out.trans (b2.mono B1.out.size))
        clear b2
        clear hP o2
        go_wp2_with fail
        refine (rStretch_any _ _ _ xs i b _ (HX.out.below B2.out (Nat.le_refl _)) hn2).mono ?_
        rintro e w3 ⟨A3, n3, c3, P, rfl, hP, _, o3, b3⟩
        rw [HES.out]
        obtain rfl := hP HES.out
        have O3 := hide o3
        have O23 := hide (O2.out.below b3 (Nat.le_refl _))
        have O13 := hide (O12.out.below b3 (Nat.le_refl _))
        have B3 := hide (B2.out.trans (b3.mono B2.out.size))
        clear b3
        clear hP o3
        have hn1 : n2 ≤ 1000 := by have h1 := O2.out.len; unfold strL at h1; rw [List.length_set] at h1; have h3 := HLX.out; omega
        generalize hst : strL xs i.toNat b = st at *
        clear hst
        go_wp2_with fail
        refine (SameShifts_self _ _ _ _ _ _ (st) _ O23.out.row O3.out.row (by omega)).mono ?_
        rintro e w4 ⟨rfl, b4⟩
        have O24 := hide (O23.out.below b4 (Nat.le_refl _))
        have O14 := hide (O13.out.below b4 (Nat.le_refl _))
        have B4 := hide (B3.out.trans (b4.mono B3.out.size))
        clear b4
        go_wp2_with fail
        refine (SameShifts_self _ _ _ _ _ _ xs _ O14.out.row (HX.out.below B4.out (Nat.le_refl _)) (by omega)).mono ?_
        rintro e w5 ⟨rfl, b5⟩
        have O25 := hide (O24.out.below b5 (Nat.le_refl _))
        have B5 := hide (B4.out.trans (b5.mono B4.out.size))
        clear b5
        go_wp2_with fail
        refine (Peak_any _ _ _ st _ O25.out.row (by omega)).mono ?_
        rintro e w6 ⟨rfl, b6⟩
        rw [HVS.out]
        have B6 := hide (B5.out.trans (b6.mono B5.out.size)); clear b6
        go_wp2_with fail
        refine (Peak_any _ _ _ xs _ (HX.out.below B6.out (Nat.le_refl _)) hn2).mono ?_
        rintro e w7 ⟨rfl, b7⟩
        rw [HV.out]
        have B7 := hide (B6.out.trans (b7.mono B6.out.size))
        clear b7
        generalize peak xs = pk1 at *
        generalize peak st = pk2 at *
        obtain ⟨pk11, pk12⟩ := pk1
        obtain ⟨pk21, pk22⟩ := pk2
        dsimp only at *
        go_wp2_with (first
          | (go_at_call 20; refine (sane_any _).mono ?_; rintro e w8 ⟨rfl, b8⟩; have B8 := hide (B7.out.trans (b8.mono B7.out.size)); clear b8))
        go_ret
        exact ⟨rfl, B8.out⟩
    · have HES := hide he
      have hne : (errSt xs i b != 0) = true := by simpa using he
      clear he
      go_enter Try.func17, Try.ntmps17
      go_wp2_with (first
        | (go_at_call 19; refine (Long0_any _ _ _ _ _ HB.out).mono ?_; rintro e w' ⟨rfl, rfl⟩)
        | (at_builtin; refine wpList_appX (E := E3) _ (.agg #[.int .i64 0, .int .i64 0, .int .i64 0]) 24 rfl (.tmp 21) (.tmp 22) 22 57 rfl Try.underlying22 info_shift rfl (by decide) (by omega) w.heap.size w.heap.size A n c xs rfl rfl (Own.lit w [] (Nat.le_refl _) (by simp)) (HX.out.below ((Below.refl _ w).alloc (Nat.le_refl _) _) (Nat.le_refl _)) (by omega) (by simp) ?_; intro A1 c1 w1 o1 b1; have O1 := hide o1; have B1 := hide (((Below.refl _ w).alloc (Nat.le_refl _) (.cells #[] 57)).trans b1); clear o1 b1))
      refine (Stretch_any _ _ _ xs i b _ O1.out.row hn2 hwf).mono ?_
      rintro e w2 ⟨A2, n2, c2, P, rfl, _, hP, o2, b2⟩
      obtain rfl := hP HES.out
      have O2 := hide o2
      have O12 := hide (O1.out.below b2 (Nat.le_refl _))
      have B2 := hide (B1.out.trans (b2.mono B1.out.size))
      clear b2
      clear hP o2
      go_wp2_with fail
      refine (rStretch_any _ _ _ xs i b _ (HX.out.below B2.out (Nat.le_refl _)) hn2).mono ?_
      rintro e w3 ⟨A3, n3, c3, P, rfl, _, hP, o3, b3⟩
      obtain rfl := hP HES.out
      have O3 := hide o3
      have O23 := hide (O2.out.below b3 (Nat.le_refl _))
      have O13 := hide (O12.out.below b3 (Nat.le_refl _))
      have B3 := hide (B2.out.trans (b3.mono B2.out.size))
      clear b3
      clear hP o3
      have hn1 : n2 ≤ 1000 := by have h1 := O2.out.len; simp at h1; omega
      generalize errSt xs i b = ev at *
      go_wp2_with fail
      refine (SameShifts_self _ _ _ _ _ _ ([]) _ O23.out.row O3.out.row (by omega)).mono ?_
      rintro e w4 ⟨rfl, b4⟩
      have O24 := hide (O23.out.below b4 (Nat.le_refl _))
      have O14 := hide (O13.out.below b4 (Nat.le_refl _))
      have B4 := hide (B3.out.trans (b4.mono B3.out.size))
      clear b4
      go_wp2_with fail
      refine (SameShifts_self _ _ _ _ _ _ xs _ O14.out.row (HX.out.below B4.out (Nat.le_refl _)) (by omega)).mono ?_
      rintro e w5 ⟨rfl, b5⟩
      have O25 := hide (O24.out.below b5 (Nat.le_refl _))
      have B5 := hide (B4.out.trans (b5.mono B4.out.size))
      clear b5
      go_wp2_with (first
        | (go_at_call 20; refine (sane_any _).mono ?_; rintro e w8 ⟨rfl, b8⟩; have B8 := hide (B5.out.trans (b8.mono B5.out.size)); clear b8))
      go_ret
      exact ⟨rfl, B8.out⟩
end Go.Proofs.Ytpkjgnllkaafkaa
