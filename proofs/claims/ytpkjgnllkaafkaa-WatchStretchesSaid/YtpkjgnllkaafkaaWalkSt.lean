/- A longer shift, on both sides, and the walk of WatchStretches. -/
import Derived.Test.YtpkjgnllkaafkaaWalkMj
namespace Go.Proofs.Ytpkjgnllkaafkaa
open Go.RowKit

theorem wrap_case {t b : Int} (h1 : 1 ≤ t) (h2 : t ≤ 1000) (hb : (Lit.int .i64 b).wf = true) : IntKind.i64.wrap (t + b) = t + b ∨ (IntKind.i64.wrap (t + b) < 0 ∧ 1000 < t + b) := by
  have hr : -9223372036854775808 ≤ b ∧ b ≤ 9223372036854775807 := by
    have hh := hb
    simp only [Lit.wf, Bool.and_eq_true, decide_eq_true_eq] at hh
    exact hh
  rw [IntKind.wrap_i64]
  omega
theorem errN_o {xs : Ls} {i : Int} (h : errN xs [i] = 0) : errV xs = 0 ∧ 0 ≤ i ∧ i < xs.length := by
  obtain ⟨h1, h2⟩ := errN_nz h
  have := inB_iff.1 (List.all_eq_true.1 h2 i (by simp))
  exact ⟨h1, this⟩
def stS (xs : Ls) (i by_ : Int) : Sh := lon (shAt xs i) by_
def errSt (xs : Ls) (i by_ : Int) : Int := if errN xs [i] = 0 then (if okS (stS xs i by_) = true then 0 else 1) else errN xs [i]
theorem errSt_n {xs : Ls} {i b : Int} (h : errN xs [i] ≠ 0) : errSt xs i b = errN xs [i] := if_neg h
theorem errSt_no {xs : Ls} {i b : Int} (h : errN xs [i] = 0) (h1 : ¬ okS (stS xs i b) = true) : errSt xs i b = 1 := by unfold errSt; rw [if_pos h, if_neg h1]
theorem errSt_ok {xs : Ls} {i b : Int} (h : errN xs [i] = 0) (h1 : okS (stS xs i b) = true) : errSt xs i b = 0 := by unfold errSt; rw [if_pos h, if_pos h1]
theorem set_err {xs : Ls} (he : errV xs = 0) {j : Nat} (hj : j < xs.length) (s : Sh) : errV (xs.set j s) = if okS s = true then 0 else 1 := by
  obtain ⟨h1, h2⟩ := errV_ok.1 he
  by_cases h : okS s = true
  · rw [if_pos h]
    refine errV_ok.2 ⟨by rw [List.length_set]; exact h1, fun t ht => ?_⟩
    rcases List.mem_or_eq_of_mem_set ht with ht | rfl
    · exact h2 t ht
    · exact h
  · rw [if_neg h]
    unfold errV
    rw [if_neg (by rw [List.length_set]; omega), if_neg]
    intro hh
    rw [List.all_eq_true] at hh
    refine h (hh s ?_)
    exact List.mem_iff_getElem.2 ⟨j, by rw [List.length_set]; exact hj, by simp⟩
/-- The shifts with one that ends at another time, and an error. -/
def StPost (xs : Ls) (i b : Int) (w : World) (e : Ending) (w' : World) : Prop :=
  ∃ (A : Option Addr) (n c : Nat) (P : Ls), e = .returned (.tuple #[.slice A n c, .int .i64 (errSt xs i b)]) ∧ (errSt xs i b = 0 → P = strL xs i.toNat b) ∧ (errSt xs i b ≠ 0 → P = []) ∧ Own E3 w' w.heap.size 57 A n c P ∧ Below w.heap.size w w'
theorem Own.ends {w : World} {B n c g : Nat} {e : TypeId} {xs : Ls} {j : Nat} {x y z v : Int} (h : Own E3 w B e (some ⟨g, 0, none⟩) n c xs) (hj : j < n) (hx : xs.getD j sh0 = (x, y, z)) :
    Own E3 (w.setCell ⟨g, j * 3 + 1, none⟩ (.int .i64 v)) B e (some ⟨g, 0, none⟩) n c (xs.set j (x, v, z)) :=
  h.stored (j := 1) hj (by decide) (.int .i64 v) (x, v, z) (by
    have e : xs.getD j E3.d = (x, y, z) := hx
    rw [e]; rfl)

set_option maxHeartbeats 2000000 in
theorem Stretch_any (A : Option Addr) (n c : Nat) (xs : Ls) (i b : Int) (w : World) (h : R E3 w A n c xs) (hn : n ≤ 1000) (hb : (Lit.int .i64 b).wf = true) :
    Calls Try.prog 55 #[.slice A n c, .int .i64 i, .int .i64 b] w (StPost xs i b w) := by
  have HX := hide h
  have HLX := hide h.length
  clear h
  have HR1 := hide (show R E1 (w.alloc (.cells #[.int .i64 i] 3)) (some ⟨w.heap.size, 0, none⟩) 1 1 [i] from (Own.lit (E := E1) (e := 3) w [i] (Nat.le_refl w.heap.size) (by unfold maxLen; simp)).row)
  have B0 := hide ((Below.refl w.heap.size w).alloc (Nat.le_refl _) (.cells #[.int .i64 i] 3))
  by_cases he : errN xs [i] = 0
  · have HE := hide he
    obtain ⟨hv, hi0, hi1⟩ := errN_o he
    have HV := hide hv
    have hn12 : n ≤ 12 := by have := errV_le hv; have := HLX.out; omega
    rw [HLX.out] at hi1
    obtain ⟨j, rfl⟩ : ∃ j : Nat, i = j := ⟨i.toNat, by omega⟩
    have hjn : j < n := by omega
    have hok := okS_iff.1 (shs_ok' (errV_ok.1 hv).2 (k := j) (by rw [HLX.out]; exact hjn))
    have hy : ∃ y, xs.getD j sh0 = y := ⟨_, rfl⟩
    obtain ⟨y, hy⟩ := hy
    rw [hy] at hok
    have HY := hide hy
    have HST := hide (show stS xs (j : Int) b = lon y b by unfold stS; rw [shAt_nat, hy])
    clear he hv hy
    obtain ⟨y1, y2, y3⟩ := y
    dsimp only at hok
    have hwc := wrap_case (t := y2) (b := b) (by omega) (by omega) hb
    have hq : ∃ v, IntKind.i64.wrap (y2 + b) = v := ⟨_, rfl⟩
    obtain ⟨v, hq⟩ := hq
    rw [hq] at hwc
    have HSE := hide (set_err HV.out (j := j) (by rw [HLX.out]; exact hjn) (y1, v, y3))
    have HEQ := hide (show okS (y1, v, y3) = okS (lon (y1, y2, y3) b) by
      rw [Bool.eq_iff_iff, okS_iff, okS_iff]
      simp only [lon]
      omega)
    have HPO := hide (fun hh : okS (y1, v, y3) = true => show xs.set j (y1, v, y3) = strL xs (j : Int).toNat b by
      have := okS_iff.1 hh
      unfold strL
      rw [Int.toNat_natCast, HY.out]
      have e : v = y2 + b := by simp only at this; omega
      rw [e]
      rfl)
    clear hwc
    have i1 : (j : Int) < (n : Int) := by omega
    have i2 : (0 : Int) ≤ (j : Int) := by omega
    by_cases ho : okS (y1, v, y3) = true
    · have HES := hide (show errSt xs (j : Int) b = 0 from errSt_ok HE.out (by rw [HST.out, ← HEQ.out]; exact ho))
      have HVE := hide (show errV (xs.set j (y1, v, y3)) = 0 by rw [HSE.out, if_pos ho])
      have HPP := hide (HPO.out ho)
      clear ho HEQ HSE HPO
      go_enter Try.func55, Try.ntmps55
      go_wp2_with (first
        | (go_at_call 58; refine (validateNumbers_any _ _ _ xs _ _ _ [(j : Int)] _ (HX.out.below B0.out (Nat.le_refl _)) hn HR1.out (by omega) (by omega)).mono ?_; rintro e w1 ⟨rfl, b1⟩; rw [HE.out]; have B1 := hide (B0.out.trans (b1.mono B0.out.size)); clear b1)
        | (go_at_call 86; refine (CloneS_any _ _ _ xs _ (HX.out.below B1.out (Nat.le_refl _)) hn).mono ?_; rintro e w2 ⟨A2, c2, rfl, o2, b2⟩; obtain ⟨g, rfl, hg1, hg2, hg3, hg4⟩ := o2.addr (by omega); have hg4' : c2 ≤ 9223372036854775807 := hg4; obtain ⟨d1, d2, d3⟩ := own3 o2 hjn; rw [HY.out] at d1 d2 d3; have f1 := o2.frozen (j * 3 + 1); have O3 := hide (o2.ends (v := v) hjn HY.out); have B2 := hide (B1.out.trans (b2.mono B1.out.size)); have B3 := hide (B2.out.setCell (p := ⟨g, j * 3 + 1, none⟩) (Nat.le_trans B1.out.size hg1) (.int .i64 v)); clear o2 b2 hg4)
        | (go_at_call 23; refine (Validate_any _ _ _ (xs.set j (y1, v, y3)) _ O3.out.row hn).mono ?_; rintro e w3 ⟨rfl, b3⟩; rw [HVE.out]))
      go_ret2
      exact ⟨some ⟨g, 0, none⟩, n, c2, _, by rw [HES.out]; rfl, fun _ => HPP.out, fun h => absurd HES.out h, (O3.out.below b3 (Nat.le_refl _)).more B1.out.size, B3.out.trans (b3.mono B3.out.size)⟩
    · have HES := hide (show errSt xs (j : Int) b = 1 from errSt_no HE.out (by rw [HST.out, ← HEQ.out]; exact ho))
      have HVE := hide (show errV (xs.set j (y1, v, y3)) = 1 by rw [HSE.out, if_neg ho])
      clear ho HEQ HSE HPO
      go_enter Try.func55, Try.ntmps55
      go_wp2_with (first
        | (go_at_call 58; refine (validateNumbers_any _ _ _ xs _ _ _ [(j : Int)] _ (HX.out.below B0.out (Nat.le_refl _)) hn HR1.out (by omega) (by omega)).mono ?_; rintro e w1 ⟨rfl, b1⟩; rw [HE.out]; have B1 := hide (B0.out.trans (b1.mono B0.out.size)); clear b1)
        | (go_at_call 86; refine (CloneS_any _ _ _ xs _ (HX.out.below B1.out (Nat.le_refl _)) hn).mono ?_; rintro e w2 ⟨A2, c2, rfl, o2, b2⟩; obtain ⟨g, rfl, hg1, hg2, hg3, hg4⟩ := o2.addr (by omega); have hg4' : c2 ≤ 9223372036854775807 := hg4; obtain ⟨d1, d2, d3⟩ := own3 o2 hjn; rw [HY.out] at d1 d2 d3; have f1 := o2.frozen (j * 3 + 1); have O3 := hide (o2.ends (v := v) hjn HY.out); have B2 := hide (B1.out.trans (b2.mono B1.out.size)); have B3 := hide (B2.out.setCell (p := ⟨g, j * 3 + 1, none⟩) (Nat.le_trans B1.out.size hg1) (.int .i64 v)); clear o2 b2 hg4)
        | (go_at_call 23; refine (Validate_any _ _ _ (xs.set j (y1, v, y3)) _ O3.out.row hn).mono ?_; rintro e w3 ⟨rfl, b3⟩; rw [HVE.out]))
      go_ret2
      exact ⟨none, 0, 0, [], by rw [HES.out]; rfl, (fun h => by rw [HES.out] at h; cases h), fun _ => rfl, Own.nil _ _ _ _, B3.out.trans (b3.mono B3.out.size)⟩
  · have HE := hide he
    have HES := hide (errSt_n (b := b) he)
    have hne : (errN xs [i] != 0) = true := by simpa using he
    clear he
    go_enter Try.func55, Try.ntmps55
    go_wp2_with (go_at_call 58; refine (validateNumbers_any _ _ _ xs _ _ _ [i] _ (HX.out.below B0.out (Nat.le_refl _)) hn HR1.out (by omega) (by omega)).mono ?_; rintro e w1 ⟨rfl, b1⟩; have B1 := hide (B0.out.trans (b1.mono B0.out.size)); clear b1)
    go_ret2
    exact ⟨none, 0, 0, [], by rw [HES.out]; rfl, fun h => by rw [HES.out] at h; exact absurd h HE.out, fun _ => rfl, Own.nil _ _ _ _, B1.out⟩

theorem within_lon' {y1 y2 y3 b : Int} (h1 : 1 ≤ y2) (h2 : y2 ≤ 1000) (h : okS (lon (y1, y2, y3) b) = true) : -1000 ≤ b ∧ b ≤ 1000 := by
  have := okS_iff.1 h
  simp only [lon] at this
  omega
set_option maxHeartbeats 2000000 in
theorem rStretch_any (A : Option Addr) (n c : Nat) (xs : Ls) (i b : Int) (w : World) (h : R E3 w A n c xs) (hn : n ≤ 1000) :
    Calls Try.prog 56 #[.slice A n c, .int .i64 i, .int .i64 b] w (StPost xs i b w) := by
  have HX := hide h
  have HLX := hide h.length
  clear h
  by_cases he : errN xs [i] = 0
  · have HE := hide he
    obtain ⟨hv, hi0, hi1⟩ := errN_o he
    have HV := hide hv
    have hn12 : n ≤ 12 := by have := errV_le hv; have := HLX.out; omega
    rw [HLX.out] at hi1
    obtain ⟨j, rfl⟩ : ∃ j : Nat, i = j := ⟨i.toNat, by omega⟩
    have hjn : j < n := by omega
    have hok := okS_iff.1 (shs_ok' (errV_ok.1 hv).2 (k := j) (by rw [HLX.out]; exact hjn))
    have hy : ∃ y, xs.getD j sh0 = y := ⟨_, rfl⟩
    obtain ⟨y, hy⟩ := hy
    rw [hy] at hok
    have HY := hide hy
    have HST := hide (show stS xs (j : Int) b = lon y b by unfold stS; rw [shAt_nat, hy])
    clear he hv hy
    obtain ⟨y1, y2, y3⟩ := y
    dsimp only at hok
    have HWL := hide (@within_lon' y1 y2 y3 b (by omega) (by omega))
    have HPO := hide (show xs.set j (y1, y2 + b, y3) = strL xs (j : Int).toNat b by unfold strL; rw [Int.toNat_natCast, HY.out]; rfl)
    have i1 : (j : Int) < (n : Int) := by omega
    have i2 : (0 : Int) ≤ (j : Int) := by omega
    by_cases hbb : -1000 ≤ b ∧ b ≤ 1000
    · have HW := hide (withinB_true hbb.1 hbb.2)
      have hq : IntKind.i64.wrap (y2 + b) = y2 + b := IntWalk.i64_in _ (by omega)
      by_cases ho : okS (lon (y1, y2, y3) b) = true
      · have HES := hide (show errSt xs (j : Int) b = 0 from errSt_ok HE.out (by rw [HST.out]; exact ho))
        have HOO : Hid (okS (y1, y2 + b, y3) = true) := hide ho
        clear ho HWL hbb
        go_enter Try.func56, Try.ntmps56
        go_wp2_with (first
          | (go_at_call 60; refine (one_any _ _ _ xs _ _ HX.out hn).mono ?_; rintro e w2 ⟨rfl, b2⟩; rw [HE.out]; have B2 := hide b2; clear b2)
          | (go_at_call 64; refine (within_any _ _ _ _).mono ?_; rintro e w2' ⟨rfl, rfl⟩; rw [HW.out])
          | (at_builtin; refine wpList_appX (E := E3) _ (.agg #[.int .i64 0, .int .i64 0, .int .i64 0]) 24 rfl (.tmp 19) (.tmp 20) 22 57 rfl Try.underlying22 info_shift rfl (by decide) (by omega) w2.heap.size w2.heap.size A n c xs rfl rfl (Own.lit w2 [] (Nat.le_refl _) (by simp)) (HX.out.below ((B2.out).alloc B2.out.size _) (Nat.le_refl _)) (by omega) (by simp) ?_; intro A1 c1 w1 o1 b1; obtain ⟨g, rfl, hg1, hg2, hg3, hg4⟩ := o1.addr (by omega); have hg4' : c1 ≤ 9223372036854775807 := hg4; obtain ⟨d1, d2, d3⟩ := own3 o1 hjn; rw [HY.out] at d1 d2 d3; have f1 := o1.frozen (j * 3 + 1); have O3 := hide (o1.ends (v := y2 + b) hjn HY.out); have B3 := hide (((B2.out.alloc B2.out.size (.cells #[] 57)).trans (b1.mono B2.out.size)).setCell (p := ⟨g, j * 3 + 1, none⟩) (Nat.le_trans B2.out.size hg1) (.int .i64 (y2 + b))); have hk3 := hjn; clear o1 b1 hg4)
          | (go_at_call 62; refine (right_any _ _ _ _).mono ?_; rintro e w4 ⟨rfl, b4⟩; rw [HOO.out]))
        go_ret2
        exact ⟨some ⟨g, 0, none⟩, n, c1, _, by rw [HES.out]; rfl, fun _ => HPO.out, fun h => absurd HES.out h, (O3.out.below b4 (Nat.le_refl _)).more B2.out.size, B3.out.trans (b4.mono B3.out.size)⟩
      · have HES := hide (show errSt xs (j : Int) b = 1 from errSt_no HE.out (by rw [HST.out]; exact ho))
        have HOO : Hid (okS (y1, y2 + b, y3) = false) := hide (Bool.eq_false_iff.2 ho)
        clear ho HWL hbb
        go_enter Try.func56, Try.ntmps56
        go_wp2_with (first
          | (go_at_call 60; refine (one_any _ _ _ xs _ _ HX.out hn).mono ?_; rintro e w2 ⟨rfl, b2⟩; rw [HE.out]; have B2 := hide b2; clear b2)
          | (go_at_call 64; refine (within_any _ _ _ _).mono ?_; rintro e w2' ⟨rfl, rfl⟩; rw [HW.out])
          | (at_builtin; refine wpList_appX (E := E3) _ (.agg #[.int .i64 0, .int .i64 0, .int .i64 0]) 24 rfl (.tmp 19) (.tmp 20) 22 57 rfl Try.underlying22 info_shift rfl (by decide) (by omega) w2.heap.size w2.heap.size A n c xs rfl rfl (Own.lit w2 [] (Nat.le_refl _) (by simp)) (HX.out.below ((B2.out).alloc B2.out.size _) (Nat.le_refl _)) (by omega) (by simp) ?_; intro A1 c1 w1 o1 b1; obtain ⟨g, rfl, hg1, hg2, hg3, hg4⟩ := o1.addr (by omega); have hg4' : c1 ≤ 9223372036854775807 := hg4; obtain ⟨d1, d2, d3⟩ := own3 o1 hjn; rw [HY.out] at d1 d2 d3; have f1 := o1.frozen (j * 3 + 1); have O3 := hide (o1.ends (v := y2 + b) hjn HY.out); have B3 := hide (((B2.out.alloc B2.out.size (.cells #[] 57)).trans (b1.mono B2.out.size)).setCell (p := ⟨g, j * 3 + 1, none⟩) (Nat.le_trans B2.out.size hg1) (.int .i64 (y2 + b))); have hk3 := hjn; clear o1 b1 hg4)
          | (go_at_call 62; refine (right_any _ _ _ _).mono ?_; rintro e w4 ⟨rfl, b4⟩; rw [HOO.out]))
        go_ret2
        exact ⟨none, 0, 0, [], by rw [HES.out]; rfl, (fun h => by rw [HES.out] at h; cases h), fun _ => rfl, Own.nil _ _ _ _, B3.out.trans (b4.mono B3.out.size)⟩
    · have HW := hide (withinB_false' hbb)
      have HES := hide (show errSt xs (j : Int) b = 1 from errSt_no HE.out (by rw [HST.out]; exact fun hh => hbb (HWL.out hh)))
      clear HWL hbb
      go_enter Try.func56, Try.ntmps56
      go_wp2_with (first
        | (go_at_call 60; refine (one_any _ _ _ xs _ _ HX.out hn).mono ?_; rintro e w1 ⟨rfl, b1⟩; rw [HE.out]; have B1 := hide b1; clear b1)
        | (go_at_call 64; refine (within_any _ _ _ _).mono ?_; rintro e w2 ⟨rfl, rfl⟩; rw [HW.out]))
      go_ret2
      exact ⟨none, 0, 0, [], by rw [HES.out]; rfl, (fun h => by rw [HES.out] at h; cases h), fun _ => rfl, Own.nil _ _ _ _, B1.out⟩
  · have HE := hide he
    have HES := hide (errSt_n (b := b) he)
    have hne : (errN xs [i] != 0) = true := by simpa using he
    clear he
    go_enter Try.func56, Try.ntmps56
    go_wp2_with (go_at_call 60; refine (one_any _ _ _ xs _ _ HX.out hn).mono ?_; rintro e w1 ⟨rfl, b1⟩; have B1 := hide b1; clear b1)
    go_ret2
    exact ⟨none, 0, 0, [], by rw [HES.out]; rfl, fun h => by rw [HES.out] at h; exact absurd h HE.out, fun _ => rfl, Own.nil _ _ _ _, B1.out⟩

theorem within_lon {y1 y2 y3 b : Int} (h1 : 1 ≤ y2) (h2 : y2 ≤ 1000) (h : okS (lon (y1, y2, y3) b) = true) : -1000 ≤ b ∧ b ≤ 1000 := by
  have := okS_iff.1 h
  simp only [lon] at this
  omega
end Go.Proofs.Ytpkjgnllkaafkaa
