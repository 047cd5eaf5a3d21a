/- Overlap, on both sides. -/
import Derived.Test.YtpkjgnllkaafkaaWalkOv
namespace Go.Proofs.Ytpkjgnllkaafkaa
open Go.RowKit

def ovV (xs : Ls) (i j : Int) : Bool := if errN xs [i, j] = 0 then ovB (shAt xs i) (shAt xs j) else false
theorem ovV_ok {xs : Ls} {i j : Int} (h : errN xs [i, j] = 0) : ovV xs i j = ovB (shAt xs i) (shAt xs j) := by unfold ovV; rw [if_pos h]
theorem ovV_no {xs : Ls} {i j e : Int} (h : errN xs [i, j] = e) (he : e ≠ 0) : ovV xs i j = false := by unfold ovV; rw [if_neg (by rw [h]; exact he)]
def OvPost (xs : Ls) (i j : Int) (w : World) (e : Ending) (w' : World) : Prop := e = .returned (.tuple #[.bool (ovV xs i j), .int .i64 (errN xs [i, j])]) ∧ Below w.heap.size w w'
theorem shAt_nat (xs : Ls) (a : Nat) : shAt xs (a : Int) = xs.getD a sh0 := rfl

set_option maxHeartbeats 1000000 in
theorem Overlap_any (A : Option Addr) (n c : Nat) (xs : Ls) (i j : Int) (w : World) (h : R E3 w A n c xs) (hn : n ≤ 1000) :
    Calls Try.prog 21 #[.slice A n c, .int .i64 i, .int .i64 j] w (OvPost xs i j w) := by
  have HLX := hide h.length
  have HX := hide h
  have B0 := hide ((Below.refl w.heap.size w).alloc (Nat.le_refl _) (.cells #[.int .i64 i, .int .i64 j] 3))
  have HO := hide (show R E1 (w.alloc (.cells #[.int .i64 i, .int .i64 j] 3)) (some ⟨w.heap.size, 0, none⟩) 2 2 [i, j] from (Own.lit (E := E1) (e := 3) (B := w.heap.size) w [i, j] (Nat.le_refl _) (by simp [maxLen])).row)
  clear h
  by_cases he : errN xs [i, j] = 0
  · have HE := hide he
    have HV := hide (ovV_ok he)
    obtain ⟨hv, hin⟩ := errN_nz he
    simp only [List.all_cons, List.all_nil, Bool.and_true, Bool.and_eq_true, inB_iff] at hin
    obtain ⟨⟨i0, i1⟩, j0, j1⟩ := hin
    obtain ⟨a, rfl⟩ : ∃ a : Nat, i = a := ⟨i.toNat, by omega⟩
    obtain ⟨d, rfl⟩ : ∃ a : Nat, j = a := ⟨j.toNat, by omega⟩
    rw [HLX.out] at i1 j1
    rw [shAt_nat, shAt_nat] at HV
    have ha : a < n := by omega
    have hd : d < n := by omega
    clear he hv i0 j0
    go_enter Try.func21, Try.ntmps21
    go_wp2_with fail
    refine (validateNumbers_any _ _ _ xs _ _ _ [(a : Int), (d : Int)] _ (HX.out.below B0.out (Nat.le_refl _)) hn HO.out (by decide) (by decide)).mono ?_
    rintro e w1 ⟨rfl, b1⟩
    rw [HE.out]
    have HB1 := hide (B0.out.trans (b1.mono B0.out.size))
    clear b1
    go_wp2_with fail
    obtain ⟨b, off, hr⟩ := HX.out.below HB1.out (Nat.le_refl _)
    obtain rfl := hr.at_ (by omega)
    have hbl := hr.lt (by omega)
    have hcap := hr.cap
    have hmax := hr.max
    obtain ⟨a1, a2, a3⟩ := c3 hr ha
    obtain ⟨d1, d2, d3⟩ := c3 hr hd
    clear hr
    generalize xs.getD a sh0 = x at *
    generalize xs.getD d sh0 = y at *
    obtain ⟨x1, x2, x3⟩ := x
    obtain ⟨y1, y2, y3⟩ := y
    dsimp only at a1 a2 a3 d1 d2 d3
    go_region_held3 (fun w' => w'.cell? ⟨b, off + a * 3, none⟩ = some (.int .i64 x1) ∧ w'.cell? ⟨b, off + a * 3 + 1, none⟩ = some (.int .i64 x2) ∧ w'.cell? ⟨b, off + a * 3 + 2, none⟩ = some (.int .i64 x3) ∧ w'.cell? ⟨b, off + d * 3, none⟩ = some (.int .i64 y1) ∧ w'.cell? ⟨b, off + d * 3 + 1, none⟩ = some (.int .i64 y2) ∧ w'.cell? ⟨b, off + d * 3 + 2, none⟩ = some (.int .i64 y3))
      (first
        | go_keep
        | (go_split_ands
           refine ⟨?_, ?_, ?_, ?_, ?_, ?_⟩ <;> (rw [hb8.cell (by simp; omega)]; assumption)))
      (first
        | (go_at_call 59; refine (overlap_any _ _ _ _ _ _ _).mono ?_; rintro e8 w8 ⟨rfl, hb8⟩))
    all_goals
      have B8 := hide ((below_drewN HB1.out 1).trans (hb8.mono (by simp; exact HB1.out.size)))
      clear hb8
      go_wp2_with fail
      go_ret2
      exact ⟨by rw [HV.out, HE.out]; rfl, B8.out⟩
  · have HV := hide (ovV_no (xs := xs) (i := i) (j := j) rfl he)
    have hne : (errN xs [i, j] != 0) = true := by simpa using he
    clear he
    go_enter Try.func21, Try.ntmps21
    go_wp2_with fail
    refine (validateNumbers_any _ _ _ xs _ _ _ [i, j] _ (HX.out.below B0.out (Nat.le_refl _)) hn HO.out (by decide) (by decide)).mono ?_
    rintro e w1 ⟨rfl, b1⟩
    have HB1 := hide (B0.out.trans (b1.mono B0.out.size))
    clear b1
    go_wp2_with fail
    go_ret2
    exact ⟨by rw [HV.out]; rfl, HB1.out⟩
theorem errN_two {xs : Ls} {i j : Int} (hi : errN xs [i] ≠ 0) : errN xs [i, j] = errN xs [i] := by
  by_cases he : errV xs = 0
  · by_cases h1 : inB xs i = true
    · exact absurd (errN_ok he (by simp [h1])) hi
    · rw [errN_no he (by simp [h1]), errN_no he (by simp [h1])]
  · rw [errN_v he, errN_v he]
theorem errN_two' {xs : Ls} {i j : Int} (hi : errN xs [i] = 0) : errN xs [i, j] = errN xs [j] := by
  obtain ⟨he, h1⟩ := errN_nz hi
  have h1' : inB xs i = true := by simpa using h1
  by_cases h2 : inB xs j = true
  · rw [errN_ok he (by simp [h1', h2]), errN_ok he (by simp [h2])]
  · rw [errN_no he (by simp [h2]), errN_no he (by simp [h2])]
set_option maxHeartbeats 1000000 in
theorem rOverlap_any (A : Option Addr) (n c : Nat) (xs : Ls) (i j : Int) (w : World) (h : R E3 w A n c xs) (hn : n ≤ 1000) :
    Calls Try.prog 22 #[.slice A n c, .int .i64 i, .int .i64 j] w (OvPost xs i j w) := by
  have HLX := hide h.length
  have HX := hide h
  clear h
  by_cases hi : errN xs [i] = 0
  · have HI := hide hi
    have HT := hide (errN_two' (j := j) hi)
    clear hi
    by_cases hj : errN xs [j] = 0
    · have HJ := hide hj
      have he : errN xs [i, j] = 0 := by rw [HT.out]; exact hj
      have HE := hide he
      have HV := hide (ovV_ok he)
      obtain ⟨hv, hin⟩ := errN_nz he
      have hok := (errV_ok.1 hv).2
      simp only [List.all_cons, List.all_nil, Bool.and_true, Bool.and_eq_true, inB_iff] at hin
      obtain ⟨⟨i0, i1⟩, j0, j1⟩ := hin
      obtain ⟨a, rfl⟩ : ∃ a : Nat, i = a := ⟨i.toNat, by omega⟩
      obtain ⟨d, rfl⟩ : ∃ a : Nat, j = a := ⟨j.toNat, by omega⟩
      have hx1 := okS_iff.1 (shAt_ok hok i0 i1)
      have hy1 := okS_iff.1 (shAt_ok hok j0 j1)
      rw [HLX.out] at i1 j1
      rw [shAt_nat, shAt_nat] at HV
      rw [shAt_nat] at hx1 hy1
      have ha : a < n := by omega
      have hd : d < n := by omega
      clear he hv i0 j0 hj hok
      go_enter Try.func22, Try.ntmps22
      go_wp2_with fail
      refine (one_any _ _ _ xs _ _ HX.out hn).mono ?_
      rintro e w1 ⟨rfl, b1⟩
      rw [HI.out]
      have HB1 := hide b1
      clear b1
      go_wp2_with fail
      refine (one_any _ _ _ xs _ _ (HX.out.below HB1.out (Nat.le_refl _)) hn).mono ?_
      rintro e w2 ⟨rfl, b2⟩
      rw [HJ.out]
      have HB2 := hide (HB1.out.trans (b2.mono HB1.out.size))
      clear b2
      go_wp2_with fail
      obtain ⟨b, off, hr⟩ := HX.out.below HB2.out (Nat.le_refl _)
      obtain rfl := hr.at_ (by omega)
      have hbl := hr.lt (by omega)
      have hcap := hr.cap
      have hmax := hr.max
      obtain ⟨a1, a2, a3⟩ := c3 hr ha
      obtain ⟨d1, d2, d3⟩ := c3 hr hd
      clear hr
      generalize xs.getD a sh0 = x at *
      generalize xs.getD d sh0 = y at *
      obtain ⟨x1, x2, x3⟩ := x
      obtain ⟨y1, y2, y3⟩ := y
      dsimp only at a1 a2 a3 d1 d2 d3 hx1 hy1
      have hfin : x1 < x2 ∧ y1 < y2 := by omega
      clear hx1 hy1
      go_region_held3 (fun w' => w'.cell? ⟨b, off + a * 3, none⟩ = some (.int .i64 x1) ∧ w'.cell? ⟨b, off + a * 3 + 1, none⟩ = some (.int .i64 x2) ∧ w'.cell? ⟨b, off + a * 3 + 2, none⟩ = some (.int .i64 x3) ∧ w'.cell? ⟨b, off + d * 3, none⟩ = some (.int .i64 y1) ∧ w'.cell? ⟨b, off + d * 3 + 1, none⟩ = some (.int .i64 y2) ∧ w'.cell? ⟨b, off + d * 3 + 2, none⟩ = some (.int .i64 y3))
        (first
          | go_keep
          | (go_split_ands
             refine ⟨?_, ?_, ?_, ?_, ?_, ?_⟩ <;> (rw [hb8.cell (by simp; omega)]; assumption)))
        (first
          | (go_at_call 61; refine (roverlap_any _ _ _ _ _ _ hfin _).mono ?_; rintro e8 w8 ⟨rfl, hb8⟩))
      all_goals
        have B8 := hide ((below_drewN HB2.out 1).trans (hb8.mono (by simp; exact HB2.out.size)))
        clear hb8
        go_wp2_with fail
        go_ret2
        exact ⟨by rw [HV.out, HE.out]; rfl, B8.out⟩
    · have HV := hide (ovV_no (xs := xs) (i := i) (j := j) HT.out hj)
      have hne : (errN xs [j] != 0) = true := by simpa using hj
      clear hj
      go_enter Try.func22, Try.ntmps22
      go_wp2_with fail
      refine (one_any _ _ _ xs _ _ HX.out hn).mono ?_
      rintro e w1 ⟨rfl, b1⟩
      rw [HI.out]
      have HB1 := hide b1
      clear b1
      go_wp2_with fail
      refine (one_any _ _ _ xs _ _ (HX.out.below HB1.out (Nat.le_refl _)) hn).mono ?_
      rintro e w2 ⟨rfl, b2⟩
      have HB2 := hide (HB1.out.trans (b2.mono HB1.out.size))
      clear b2
      go_wp2_with fail
      go_ret2
      exact ⟨by rw [HV.out, HT.out]; rfl, HB2.out⟩
  · have HT := hide (errN_two (j := j) hi)
    have HV := hide (ovV_no (xs := xs) (i := i) (j := j) HT.out hi)
    have hne : (errN xs [i] != 0) = true := by simpa using hi
    clear hi
    go_enter Try.func22, Try.ntmps22
    go_wp2_with fail
    refine (one_any _ _ _ xs _ _ HX.out hn).mono ?_
    rintro e w1 ⟨rfl, b1⟩
    have HB1 := hide b1
    clear b1
    go_wp2_with fail
    go_ret2
    exact ⟨by rw [HV.out, HT.out]; rfl, HB1.out⟩
end Go.Proofs.Ytpkjgnllkaafkaa
