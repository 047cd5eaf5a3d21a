/- The greatest weights first: on both sides. -/
import Derived.Test.YtlhlcchimammlaaWalkM
import Derived.Test.YtlhlcchimammlaaMX
namespace Go.Proofs.Ytlhlcchimammlaa
open Go.RowKit Go.Shelf

theorem gtl {w : World} {B n c g : Nat} {e : TypeId} {L : List Int} (h : Own E1 w B e (some ⟨g, 0, none⟩) n c L) : g < w.heap.size := by
  rcases h.form with ⟨hh, _⟩ | ⟨g', hA, _, hlt, _⟩
  · cases hh
  · injection hA with hA; injection hA with hA; omega
/-- It comes out even. -/
def grB (xs : List Int) (m : Int) : Bool := decide (errA xs m = 0) && decide (glS xs m xs.length = 0)
def grL (xs : List Int) (m : Int) : List Int := if grB xs m = true then gdL xs m else []
def GrPost (xs : List Int) (m : Int) (w : World) (e : Ending) (w' : World) : Prop :=
  ∃ A n c, e = .returned (.tuple #[.slice A n c, .bool (grB xs m), .int .i64 (errA xs m)]) ∧ Own E1 w' w.heap.size 3 A n c (grL xs m) ∧ Below w.heap.size w w'
theorem grB_no {xs : List Int} {m : Int} (h : errA xs m ≠ 0) : grB xs m = false := by simp [grB, h]
theorem grB_ok {xs : List Int} {m : Int} (h : errA xs m = 0) : grB xs m = decide (glS xs m xs.length = 0) := by simp [grB, h]
theorem grL_no {xs : List Int} {m : Int} (h : grB xs m = false) : grL xs m = [] := by simp [grL, h]
theorem grL_ok {xs : List Int} {m : Int} (h : grB xs m = true) : grL xs m = gdL xs m := by simp [grL, h]
theorem grL_len (xs : List Int) (m : Int) : (grL xs m).length ≤ xs.length := by
  unfold grL
  split
  · rw [gdL_len]; exact Nat.le_refl _
  · simp
set_option maxRecDepth 100000 in
set_option maxHeartbeats 4000000 in
theorem Greedy_any (A : Option Addr) (n c : Nat) (xs : List Int) (m : Int) (w : World) (h : R E1 w A n c xs) :
    Calls Try.prog 34 #[.slice A n c, .int .i64 m] w (GrPost xs m w) := by
  have H := hide h
  by_cases he : errA xs m = 0
  · have HE := hide he
    obtain ⟨hV, hm0, hm1⟩ := errA_ok.1 he
    have hm2 : 0 ≤ m ∧ m ≤ 2000 := ⟨hm0, hm1⟩
    have HV := hide hV
    have hl := h.length
    have hn1 : 1 ≤ n := by rw [← hl]; exact hV.1
    have hn4 : n ≤ 4 := by rw [← hl]; exact hV.2.1
    have HL := hide hl
    have HGO := hide (grB_ok he)
    obtain ⟨b, off, hr⟩ := h
    obtain rfl := hr.at_ (by omega)
    have hbl := hr.lt (by omega)
    have HRR := hide hr
    clear he hV hr hl
    go_enter Try.func34, Try.ntmps34
    go_wp2_with (first
      | (go_at_call 60; refine (validateAmount_any _ _ _ xs _ _ H.out).mono ?_; rintro e w1 ⟨rfl, rfl⟩; rw [HE.out])
      | (at_make; refine wpList_mk _ rfl (.tmp 18) (.tmp 18) rfl w.heap.size n rfl rfl (by omega) (Nat.le_refl _) ?_; intro w2 o2 b2 s2; have HO2 := hide o2; have B2 := hide (b2); clear o2 b2 s2))
    go_loopw [9, 10] (fun v i wr => ∃ (k : Nat) (L : List Int), k ≤ n ∧ i = .int .i64 ((k : Int) - 1) ∧ v = .int .i64 (glS xs m (n - k)) ∧ Hid (Own E1 wr w.heap.size 3 (some ⟨w.heap.size, 0, none⟩) n n L) ∧ Hid (∀ i, k ≤ i → i < n → L.getD i 0 = gdV xs m i) ∧ Hid (Below w.heap.size w wr)) (fun _ i _ => (intOf i + 1).toNat)
    case atStart => exact ⟨n, _, Nat.le_refl _, rfl, by rw [Nat.sub_self]; rfl, HO2, hide (fun i h1 h2 => by omega), B2⟩
    case round =>
      obtain ⟨k, L, hk, rfl, rfl, HO, HK, HB⟩ := hrel
      by_cases hlt : 1 ≤ k
      · obtain ⟨j, rfl⟩ : ∃ j, k = j + 1 := ⟨k - 1, by omega⟩
        rw [show n - (j + 1) = n - 1 - j by omega]
        have HGS2 := hide (show glS xs m (n - j) = glS xs m (n - 1 - j + 1) from by rw [show n - j = n - 1 - j + 1 by omega])
        have hx := HV.out.wt.at_ (k := j) (by rw [HL.out]; omega)
        have hgb := glS_bd HV.out.wt hm2 (n - 1 - j) (by rw [HL.out]; omega)
        have hdv := glS_div HV.out.wt hm2 (t := n - 1 - j) (by rw [HL.out]; omega)
        have HGS := hide (show glS xs m (n - 1 - j + 1) = glS xs m (n - 1 - j) % xs.getD j 0 from by
          show glS xs m (n - 1 - j) % xs.getD (xs.length - 1 - (n - 1 - j)) 0 = _
          rw [HL.out, show n - 1 - (n - 1 - j) = j by omega])
        rw [HL.out, show n - 1 - (n - 1 - j) = j by omega] at hdv
        have HGD := hide (show gdV xs m j = glS xs m (n - 1 - j) / xs.getD j 0 from by unfold gdV; rw [HL.out])
        have a1 := c1 (HRR.out.under HB.out fun _ => hbl) (k := j) (by omega)
        have o1 := own1 HO.out (k := j) (by omega)
        have hfz := HO.out.frozen j
        have hgl := gtl HO.out
        generalize xs.getD j 0 = x at *
        generalize glS xs m (n - 1 - j) = l at *
        have hjn : (j : Int) < (n : Int) := by omega
        have hdz : (j : Int) + 1 - 1 = (j : Int) := by omega
        have hmod := Int.emod_nonneg l (b := x) (by omega)
        have hmod2 := Int.emod_lt_of_pos l (b := x) (by omega)
        obtain ⟨hd1, hd2, hd3⟩ := hdv
        have HD3 := hide hd3
        clear hd3
        go_wp2_with fail
        go_roundw
        case rel => exact ⟨j, L.set j (l / x), by omega, by go_num, by rw [HGS2.out, HGS.out], hide (HO.out.stored1 (by omega) (l / x)), hide (fun i h1 h2 => by rw [getD_set_pos (by rw [HO.out.len]; omega)]; by_cases e : i = j; (rw [if_pos e, e, HGD.out]); (rw [if_neg e]; exact HK.out i (by omega) h2)), hide (HB.out.setCell (Nat.le_refl _) _)⟩
        case measure => simp [intOf] <;> omega
      · obtain rfl : k = 0 := by omega
        have hgb := glS_bd HV.out.wt hm2 n (by rw [HL.out]; omega)
        have HLE := hide (show L = gdL xs m from sameTo_end (by rw [HO.out.len, gdL_len, HL.out]) (fun i hi => by rw [HO.out.len] at hi; rw [gdL_at (by rw [HL.out]; exact hi)]; exact HK.out i (by omega) hi))
        rw [Nat.sub_zero]
        have HG0 := hide (show glS xs m n = glS xs m xs.length from by rw [HL.out])
        generalize glS xs m n = l at *
        by_cases hl0 : l = 0
        · have HGV := hide (show grB xs m = true from by rw [HGO.out, ← HG0.out, hl0]; rfl)
          have HGL := hide (grL_ok (xs := xs) (m := m) HGV.out)
          subst hl0
          go_wp2_with fail
          go_ret3
          exact ⟨_, _, _, by rw [HGV.out, HE.out]; rfl, by rw [HGL.out, ← HLE.out]; exact HO.out, HB.out⟩
        · have HGV := hide (show grB xs m = false from by rw [HGO.out, ← HG0.out]; simpa using hl0)
          have HGL := hide (grL_no (xs := xs) (m := m) HGV.out)
          have hl1 : 0 < l := by omega
          go_wp2_with fail
          go_ret3
          exact ⟨none, 0, 0, by rw [HGV.out, HE.out]; rfl, by rw [HGL.out]; exact Own.nil _ _ _ _, HB.out⟩
  · have HG := hide (grB_no he)
    have HG2 := hide (grL_no (grB_no he))
    have hne : (errA xs m != 0) = true := by simpa using he
    clear he h
    go_enter Try.func34, Try.ntmps34
    go_wp2_with (go_at_call 60; refine (validateAmount_any _ _ _ xs _ _ H.out).mono ?_; rintro e w1 ⟨rfl, rfl⟩)
    go_ret3
    exact ⟨none, 0, 0, by rw [HG.out]; rfl, by rw [HG2.out]; exact Own.nil _ _ _ _, (Below.refl _ _)⟩
set_option maxRecDepth 100000 in
set_option maxHeartbeats 4000000 in
theorem rGreedy_any (A : Option Addr) (n c : Nat) (xs : List Int) (m : Int) (w : World) (h : R E1 w A n c xs) :
    Calls Try.prog 35 #[.slice A n c, .int .i64 m] w (GrPost xs m w) := by
  have H := hide h
  by_cases he : errA xs m = 0
  · have HE := hide he
    obtain ⟨hV, hm0, hm1⟩ := errA_ok.1 he
    have hm2 : 0 ≤ m ∧ m ≤ 2000 := ⟨hm0, hm1⟩
    have HV := hide hV
    have hl := h.length
    have hn1 : 1 ≤ n := by rw [← hl]; exact hV.1
    have hn4 : n ≤ 4 := by rw [← hl]; exact hV.2.1
    have HL := hide hl
    have HGO := hide (grB_ok he)
    obtain ⟨b, off, hr⟩ := h
    obtain rfl := hr.at_ (by omega)
    have hbl := hr.lt (by omega)
    have HRR := hide hr
    clear he hV hr hl
    go_enter Try.func35, Try.ntmps35
    go_wp2_with (first
      | (go_at_call 64; refine (asked_any _ _ _ xs _ _ H.out).mono ?_; rintro e w1 ⟨rfl, q1, rfl⟩; rw [HE.out])
      | (at_make; refine wpList_mk _ rfl (.tmp 17) (.tmp 17) rfl w.heap.size n rfl rfl (by omega) (Nat.le_refl _) ?_; intro w2 o2 b2 s2; have HO2 := hide o2; have B2 := hide ((below_drewN (Below.refl w.heap.size w) q1).trans b2); clear o2 b2 s2))
    go_loopw [1, 9] (fun v i wr => ∃ (k : Nat) (L : List Int), k ≤ n ∧ i = .int .i64 ((k : Int) - 1) ∧ v = .int .i64 (glS xs m (n - k)) ∧ Hid (Own E1 wr w.heap.size 3 (some ⟨w.heap.size, 0, none⟩) n n L) ∧ Hid (∀ i, k ≤ i → i < n → L.getD i 0 = gdV xs m i) ∧ Hid (Below w.heap.size w wr)) (fun _ i _ => (intOf i + 1).toNat)
    case atStart => exact ⟨n, _, Nat.le_refl _, rfl, by rw [Nat.sub_self]; rfl, HO2, hide (fun i h1 h2 => by omega), B2⟩
    case round =>
      obtain ⟨k, L, hk, rfl, rfl, HO, HK, HB⟩ := hrel
      by_cases hlt : 1 ≤ k
      · obtain ⟨j, rfl⟩ : ∃ j, k = j + 1 := ⟨k - 1, by omega⟩
        rw [show n - (j + 1) = n - 1 - j by omega]
        have HGS2 := hide (show glS xs m (n - j) = glS xs m (n - 1 - j + 1) from by rw [show n - j = n - 1 - j + 1 by omega])
        have hx := HV.out.wt.at_ (k := j) (by rw [HL.out]; omega)
        have hgb := glS_bd HV.out.wt hm2 (n - 1 - j) (by rw [HL.out]; omega)
        have hdv := glS_div HV.out.wt hm2 (t := n - 1 - j) (by rw [HL.out]; omega)
        have HGS := hide (show glS xs m (n - 1 - j + 1) = glS xs m (n - 1 - j) % xs.getD j 0 from by
          show glS xs m (n - 1 - j) % xs.getD (xs.length - 1 - (n - 1 - j)) 0 = _
          rw [HL.out, show n - 1 - (n - 1 - j) = j by omega])
        rw [HL.out, show n - 1 - (n - 1 - j) = j by omega] at hdv
        have HGD := hide (show gdV xs m j = glS xs m (n - 1 - j) / xs.getD j 0 from by unfold gdV; rw [HL.out])
        have a1 := c1 (HRR.out.under HB.out fun _ => hbl) (k := j) (by omega)
        have o1 := own1 HO.out (k := j) (by omega)
        have hfz := HO.out.frozen j
        have hgl := gtl HO.out
        generalize xs.getD j 0 = x at *
        generalize glS xs m (n - 1 - j) = l at *
        have hjn : (j : Int) < (n : Int) := by omega
        have hdz : (j : Int) + 1 - 1 = (j : Int) := by omega
        have hmod := Int.emod_nonneg l (b := x) (by omega)
        have hmod2 := Int.emod_lt_of_pos l (b := x) (by omega)
        obtain ⟨hd1, hd2, hd3⟩ := hdv
        have HD3 := hide hd3
        clear hd3
        have hsub : l - l / x * x = l % x := by have := HD3.out; have := HGS.out; omega
        have hp1 : 0 ≤ l / x * x ∧ l / x * x ≤ 2000 := by
          have := Int.mul_nonneg hd1 (show 0 ≤ x by omega)
          omega
        have w1' : IntKind.i64.wrap (l / x * x) = l / x * x := IntWalk.i64_in _ (by omega)
        have w2' : IntKind.i64.wrap (l - l / x * x) = l % x := by rw [hsub]; exact IntWalk.i64_in _ (by omega)
        clear hsub
        go_wp2_with fail
        go_quiet (fail)
        clear w1' w2'
        go_wp2_with fail
        go_roundw
        case rel => exact ⟨j, L.set j (l / x), by omega, by go_num, by rw [HGS2.out, HGS.out], hide ((HO.out.stored1 (by omega) (l / x)).drewN _), hide (fun i h1 h2 => by rw [getD_set_pos (by rw [HO.out.len]; omega)]; by_cases e : i = j; (rw [if_pos e, e, HGD.out]); (rw [if_neg e]; exact HK.out i (by omega) h2)), hide (below_drewN (HB.out.setCell (Nat.le_refl _) _) _)⟩
        case measure => simp [intOf] <;> omega
      · obtain rfl : k = 0 := by omega
        have hgb := glS_bd HV.out.wt hm2 n (by rw [HL.out]; omega)
        have HLE := hide (show L = gdL xs m from sameTo_end (by rw [HO.out.len, gdL_len, HL.out]) (fun i hi => by rw [HO.out.len] at hi; rw [gdL_at (by rw [HL.out]; exact hi)]; exact HK.out i (by omega) hi))
        rw [Nat.sub_zero]
        have HG0 := hide (show glS xs m n = glS xs m xs.length from by rw [HL.out])
        generalize glS xs m n = l at *
        by_cases hl0 : l = 0
        · have HGV := hide (show grB xs m = true from by rw [HGO.out, ← HG0.out, hl0]; rfl)
          have HGL := hide (grL_ok (xs := xs) (m := m) HGV.out)
          subst hl0
          go_wp2_with fail
          go_ret3
          exact ⟨_, _, _, by rw [HGV.out, HE.out]; rfl, by rw [HGL.out, ← HLE.out]; exact HO.out, HB.out⟩
        · have HGV := hide (show grB xs m = false from by rw [HGO.out, ← HG0.out]; simpa using hl0)
          have HGL := hide (grL_no (xs := xs) (m := m) HGV.out)
          have hl1 : 0 < l := by omega
          go_wp2_with fail
          go_ret3
          exact ⟨none, 0, 0, by rw [HGV.out, HE.out]; rfl, by rw [HGL.out]; exact Own.nil _ _ _ _, HB.out⟩
  · have HG := hide (grB_no he)
    have HG2 := hide (grL_no (grB_no he))
    have hne : (errA xs m != 0) = true := by simpa using he
    clear he h
    go_enter Try.func35, Try.ntmps35
    go_wp2_with (go_at_call 64; refine (asked_any _ _ _ xs _ _ H.out).mono ?_; rintro e w1 ⟨rfl, q1, rfl⟩)
    go_ret3
    exact ⟨none, 0, 0, by rw [HG.out]; rfl, by rw [HG2.out]; exact Own.nil _ _ _ _, (below_drewN (Below.refl _ _) q1)⟩
end Go.Proofs.Ytlhlcchimammlaa
