/- In how many ways: on both sides. -/
import Derived.Test.YtlhlcchimammlaaWalkP
import Derived.Test.YtlhlcchimammlaaWalkR
import Derived.RegionTactic
namespace Go.Proofs.Ytlhlcchimammlaa
open Go.RowKit Go.Shelf
attribute [local go_sem] Oper.semAt_some

def errY (xs : List Int) (m : Int) : Int := if errA xs m = 0 then (if m ≤ 200 then 0 else 3) else errA xs m
def waysV (xs : List Int) (m : Int) : Int := if errY xs m = 0 then wy xs xs.length m.toNat else 0
theorem errY_no {xs : List Int} {m : Int} (h : errA xs m ≠ 0) : errY xs m = errA xs m := if_neg h
theorem errY_big {xs : List Int} {m : Int} (h : errA xs m = 0) (hm : ¬ m ≤ 200) : errY xs m = 3 := by unfold errY; rw [if_pos h, if_neg hm]
theorem errY_fine {xs : List Int} {m : Int} (h : errA xs m = 0) (hm : m ≤ 200) : errY xs m = 0 := by unfold errY; rw [if_pos h, if_pos hm]
theorem waysV_ok {xs : List Int} {m : Int} (h : errY xs m = 0) : waysV xs m = wy xs xs.length m.toNat := if_pos h
theorem waysV_no {xs : List Int} {m : Int} (h : errY xs m ≠ 0) : waysV xs m = 0 := if_neg h
theorem errY_ok {xs : List Int} {m : Int} (h : errY xs m = 0) : errA xs m = 0 ∧ m ≤ 200 := by
  unfold errY at h
  split at h
  · rename_i h1
    split at h
    · rename_i h2; exact ⟨h1, h2⟩
    · omega
  · contradiction
/-- The table where the weight k has come to s. -/
def WyAt (xs L : List Int) (k s : Nat) : Prop := ∀ i, i < L.length → L.getD i 0 = if i < s then wy xs (k + 1) i else wy xs k i
theorem wyAt_start (xs L : List Int) (k : Nat) (h : ∀ i, i < L.length → L.getD i 0 = wy xs k i) {y : Nat} (hy : (xs.getD k 0).toNat = y) : WyAt xs L k y := fun i hi => by
  rw [h i hi]
  by_cases hlt : i < y
  · rw [if_pos hlt, wy_low (by omega)]
  · rw [if_neg hlt]
theorem wyAt_step {xs L : List Int} {k s y : Nat} (h : WyAt xs L k s) (hs : s < L.length) (hy0 : 1 ≤ y) (hy : (xs.getD k 0).toNat = y) (hys : y ≤ s) : WyAt xs (L.set s (L.getD s 0 + L.getD (s - y) 0)) k (s + 1) := fun i hi => by
  rw [List.length_set] at hi
  rw [getD_set_pos hs]
  by_cases e : i = s
  · subst e
    rw [if_pos rfl, if_pos (by omega), h i hi, h (i - y) (by omega), if_neg (by omega), if_pos (by omega)]
    have := wy_up (w := xs) (k := k) (n := i) (by omega) (by omega)
    rw [hy] at this
    rw [this]
  · rw [if_neg e, h i hi]
    by_cases hlt : i < s
    · rw [if_pos hlt, if_pos (by omega)]
    · rw [if_neg hlt, if_neg (by omega)]
set_option maxRecDepth 100000 in
set_option maxHeartbeats 4000000 in
theorem Ways_any (A : Option Addr) (n c : Nat) (xs : List Int) (m : Int) (w : World) (h : R E1 w A n c xs) :
    Calls Try.prog 32 #[.slice A n c, .int .i64 m] w fun e w' => e = .returned (.tuple #[.int .i64 (waysV xs m), .int .i64 (errY xs m)]) ∧ Below w.heap.size w w' := by
  have H := hide h
  by_cases he : errA xs m = 0
  · have HE := hide he
    have hV := (errA_ok.1 he).1
    obtain ⟨N, rfl, hN, hw⟩ := errA_am he
    by_cases hm : N ≤ 200
    · have hY := errY_fine he (by omega)
      have HY := hide hY
      have HWV := hide (waysV_ok hY)
      have HW := hide hw
      have hl := h.length
      have HL := hide hl
      have hn4 : n ≤ 4 := by rw [← hl]; exact hV.2.1
      have hle := h.le
      have HRR := hide h
      have hN2 : (N : Int) ≤ 200 := by omega
      clear he hV hw hl h hY
      go_enter Try.func32, Try.ntmps32
      go_wp2_with (first
        | (go_at_call 60; refine (validateAmount_any _ _ _ xs _ _ H.out).mono ?_; rintro e w1 ⟨rfl, rfl⟩; rw [HE.out])
        | (at_make; refine wpList_mk _ rfl (.tmp 20) (.tmp 20) rfl w.heap.size (N + 1) rfl rfl (by omega) (Nat.le_refl _) ?_; intro w2 o2 b2 s2; have r0 := own1 o2 (k := 0) (by omega); have f0 := o2.frozen 0; have HO2 := hide o2; have B2 := hide b2; clear o2 b2))
      go_loopw [26] (fun i wr => ∃ (k : Nat) (L : List Int), k ≤ n ∧ i = .int .i64 k ∧ Hid (Own E1 wr w.heap.size 3 (some ⟨w.heap.size, 0, none⟩) (N + 1) (N + 1) L) ∧ Hid (∀ i, i < L.length → L.getD i 0 = wy xs k i) ∧ Hid (Below w.heap.size w wr)) (fun i _ => n - (intOf i).toNat)
      case atStart => exact ⟨0, _, Nat.zero_le _, rfl, hide (HO2.out.stored1 (k := 0) (by omega) 1), hide (fun i hi => by
        rw [List.length_set, List.length_replicate] at hi
        rw [getD_set_pos (by simp), wy_zero]
        by_cases e : i = 0
        · rw [if_pos e, if_pos e]
        · rw [if_neg e, if_neg e, List.getD_eq_getElem?_getD, List.getElem?_replicate, if_pos hi]; rfl), hide (B2.out.setCell (Nat.le_refl _) _)⟩
      case round =>
        obtain ⟨k, L, hk, rfl, HO, HK, HB⟩ := hrel
        by_cases hlt : k < n
        · obtain ⟨b, off, hr⟩ := HRR.out
          obtain rfl := hr.at_ (by omega)
          have a1 := c1 (hr.below HB.out (Nat.le_refl _)) hlt
          have hx := HW.out.at_ (k := k) (by rw [HL.out]; exact hlt)
          have HST := hide (wyAt_start xs L k HK.out (y := (xs.getD k 0).toNat) rfl)
          have HSP := hide (fun (L : List Int) (s y : Nat) => wyAt_step (xs := xs) (L := L) (k := k) (s := s) (y := y))
          clear hr
          obtain ⟨y, hy⟩ : ∃ y : Nat, xs.getD k 0 = (y : Int) := ⟨(xs.getD k 0).toNat, by omega⟩
          have HYY := hide (show (xs.getD k 0).toNat = y from by omega)
          have HST2 := hide (show WyAt xs L k y from by have := HST.out; rwa [HYY.out] at this)
          rw [hy] at a1 hx
          clear HST hy
          go_wp2_with fail
          go_loopw [10] (fun i wr => ∃ (s : Nat) (L : List Int), y ≤ s ∧ s ≤ 231 ∧ i = .int .i64 s ∧ Hid (Own E1 wr w.heap.size 3 (some ⟨w.heap.size, 0, none⟩) (N + 1) (N + 1) L) ∧ Hid (WyAt xs L k s) ∧ Hid (Below w.heap.size w wr)) (fun i _ => N + 1 - (intOf i).toNat)
          case atStart => exact ⟨y, L, Nat.le_refl _, by omega, rfl, HO, HST2, HB⟩
          case round =>
            clear HO HK HB HST2 a1
            obtain ⟨s, L, hys, hs231, rfl, HO, HK, HB⟩ := hrel
            by_cases hls : s ≤ N
            · have hls2 : (s : Int) ≤ (N : Int) := by omega
              have o1 := own1 HO.out (k := s) (by omega)
              have o2 := own1 HO.out (k := s - y) (by omega)
              have hfz := HO.out.frozen s
              have hgl := gtl HO.out
              have hLL := HO.out.len
              have hb1 : 0 ≤ L.getD s 0 ∧ L.getD s 0 ≤ 1632240801 := by
                rw [HK.out s (by omega)]
                split
                · exact ⟨wy_nn _ _ _, wy_max (by omega) (by omega)⟩
                · exact ⟨wy_nn _ _ _, wy_max (by omega) (by omega)⟩
              have hb2 : 0 ≤ L.getD (s - y) 0 ∧ L.getD (s - y) 0 ≤ 1632240801 := by
                rw [HK.out (s - y) (by omega)]
                split
                · exact ⟨wy_nn _ _ _, wy_max (by omega) (by omega)⟩
                · exact ⟨wy_nn _ _ _, wy_max (by omega) (by omega)⟩
              have HSS := hide (HSP.out L s y HK.out (by omega) (by omega) HYY.out hys)
              have HLL := hide hLL
              clear hLL
              generalize L.getD s 0 = v1 at *
              generalize L.getD (s - y) 0 = v2 at *
              have d1 : ((s : Int) - (y : Int)) = ((s - y : Nat) : Int) := by omega
              have w1' : IntKind.i64.wrap ((s : Int) - (y : Int)) = ((s - y : Nat) : Int) := by rw [d1]; exact IntWalk.i64_in _ (by omega)
              have w2' : IntKind.i64.wrap (v1 + v2) = v1 + v2 := IntWalk.i64_in _ (by omega)
              have i1 : ((s - y : Nat) : Int) < (N : Int) + 1 := by omega
              have i2 : (s : Int) < (N : Int) + 1 := by omega
              have i3 : (0 : Int) ≤ ((s - y : Nat) : Int) := by omega
              have i4 : ((s - y : Nat) : Int) < ((N + 1 : Nat) : Int) := by omega
              have i5 : (s : Int) < ((N + 1 : Nat) : Int) := by omega
              clear d1
              have d1 : World.cell? { heap := wr.heap, tape := wr.tape, drawn := wr.drawn + 1, os := wr.os, output := wr.output } ⟨w.heap.size, s, none⟩ = some (.int .i64 v1) := o1
              have d2 : World.cell? { heap := wr.heap, tape := wr.tape, drawn := wr.drawn + 1, os := wr.os, output := wr.output } ⟨w.heap.size, s - y, none⟩ = some (.int .i64 v2) := o2
              go_wp2_with fail
              go_still_tail 11, (by kernel_rfl)
              clear d1 d2 w1' w2'
              change wpList _ _ _ _ _ wr.drew
              have HOd := hide HO.out.drew
              have HBd := hide HB.out.drew
              have fd := HO.out.drew.frozen s
              have od : wr.drew.cell? ⟨w.heap.size, s, none⟩ = some (.int .i64 v1) := o1
              have gd : w.heap.size < wr.drew.heap.size := hgl
              clear o1 o2 hfz hgl HO HB
              generalize wr.drew = wd at *
              go_wp2_with fail
              go_roundw
              case rel => exact ⟨s + 1, L.set s (v1 + v2), by omega, by omega, by go_num, hide (HOd.out.stored1 (by omega) (v1 + v2)), HSS, hide (HBd.out.setCell (Nat.le_refl _) _)⟩
              case measure => simp [intOf]; omega
            · have HKE := hide (fun i (hi : i < L.length) => (show L.getD i 0 = wy xs (k + 1) i from by rw [HK.out i hi, if_pos (by rw [HO.out.len] at hi; omega)]))
              go_wp2_with fail
              go_roundw
              case rel => exact ⟨k + 1, L, by omega, by go_num, HO, HKE, HB⟩
              case measure => simp [intOf]; omega
        · obtain rfl : k = n := by omega
          have r1 := own1 HO.out (k := N) (by omega)
          rw [HK.out N (by rw [HO.out.len]; omega)] at r1
          have HWV2 := hide (show waysV xs (N : Int) = wy xs k N from by rw [HWV.out, HL.out, Int.toNat_natCast])
          go_wp2_with fail
          go_ret2
          exact ⟨by rw [HWV2.out, HY.out]; rfl, HB.out⟩
    · have hY := errY_big he (by omega)
      have HY := hide hY
      have HWV := hide (waysV_no (xs := xs) (m := (N : Int)) (by rw [hY]; decide))
      have hN2 : (200 : Int) < (N : Int) := by omega
      clear he h hY
      go_enter Try.func32, Try.ntmps32
      go_wp2_with (go_at_call 60; refine (validateAmount_any _ _ _ xs _ _ H.out).mono ?_; rintro e w1 ⟨rfl, rfl⟩; rw [HE.out])
      go_ret2
      exact ⟨by rw [HWV.out, HY.out]; rfl, Below.refl _ _⟩
  · have HY := hide (errY_no he)
    have HWV := hide (waysV_no (xs := xs) (m := m) (by rw [errY_no he]; exact he))
    have hne : (errA xs m != 0) = true := by simpa using he
    clear he h
    go_enter Try.func32, Try.ntmps32
    go_wp2_with (go_at_call 60; refine (validateAmount_any _ _ _ xs _ _ H.out).mono ?_; rintro e w1 ⟨rfl, rfl⟩)
    go_ret2
    exact ⟨by rw [HWV.out, HY.out]; rfl, Below.refl _ _⟩
end Go.Proofs.Ytlhlcchimammlaa
