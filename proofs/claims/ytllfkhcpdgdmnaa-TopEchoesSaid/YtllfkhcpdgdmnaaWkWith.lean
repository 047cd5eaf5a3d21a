/- EchoWith: the walk. -/
import Derived.Test.YtllfkhcpdgdmnaaWith
namespace Go.Proofs.Ytllfkhcpdgdmnaa
open Go.RowKit

def farL (p : Int) (xs : List Int) : List Int := xs.map fun x => max (x - p) (p - x)
theorem wit_perm {p : Int} {xs : List Int} (h : errC xs = 0) : (dif (sortZ (xs ++ [p]))).Perm (dif xs ++ farL p xs) := by
  rw [List.perm_iff_count]
  intro d
  have h1 := ad_dif d _ (sortZ (xs ++ [p])) rfl (sortZ_sorted _)
  have h2 := ad_dif d _ xs rfl (errC_sorted h)
  rw [ad_perm d (sortZ_perm _), ad_snoc, h2, sortZ_len, List.length_append, List.length_singleton] at h1
  have h3 : (farL p xs).count d = Su (hit d p) xs := by
    unfold farL
    rw [Su_count]
    refine Su_congr fun x _ => ?_
    unfold hit
    have : ((p - x).natAbs : Int) = max (x - p) (p - x) := by omega
    rw [this]
  have h4 : hit d p p = if d = 0 then 1 else 0 := by
    unfold hit
    by_cases e : d = 0
    · simp [e]
    · simp [e, Ne.symm e]
  rw [List.count_append, h3]
  rw [h4] at h1
  by_cases e : d = 0
  · simp only [e, if_true] at h1 ⊢
    omega
  · simp only [e, if_false] at h1
    omega
/-- What is known where one more place is right. -/
theorem wit_ok {p : Int} {xs : List Int} (h : witE p xs = 0) : errC xs = 0 ∧ errC (witV p xs) = 0 ∧ heE p xs = 0 ∧ delV xs = sortZ (dif xs) ∧ delV (witV p xs) = sortZ (dif (witV p xs)) ∧
    heV p xs = (sortZ (farL p xs)).map (fun d => 2 * d) ∧ (sortZ (dif (witV p xs))).Perm (sortZ (dif xs) ++ sortZ (farL p xs)) ∧ ∀ d ∈ sortZ (dif (witV p xs)), -120 ≤ d ∧ d ≤ 120 := by
  have hc : errC xs = 0 := by
    by_cases e : errC xs = 0
    · exact e
    · unfold witE at h
      rw [if_neg e] at h
      exact h
  have hct : xs.contains p = false := by
    rw [← Bool.not_eq_true]
    intro hh
    rw [(wit_twice hc hh).1] at h
    cases h
  obtain ⟨e1, e2⟩ := wit_new hc hct
  rw [e1] at h
  have hv : witV p xs = sortZ (xs ++ [p]) := by rw [e2]; unfold chkV; rw [if_pos h]
  have hp : -60 ≤ p ∧ p ≤ 60 := by
    have hm : p ∈ sortZ (xs ++ [p]) := (sortZ_perm _).mem_iff.2 (by simp)
    obtain ⟨k, hk, e⟩ := List.getElem_of_mem hm
    have := okTo_bd (errC_ok.1 h).2.2.1 hk
    rw [List.getD_eq_getElem?_getD, List.getElem?_eq_getElem hk, Option.getD_some, e] at this
    exact this
  rw [hv]
  have hs : -1000 ≤ p ∧ p ≤ 1000 := by omega
  refine ⟨hc, h, ?_, delV_ok hc, delV_ok h, ?_, ?_, fun d hd => ?_⟩
  · unfold heE; rw [if_pos hc, if_pos hs]
  · unfold heV
    rw [if_pos ⟨hc, hs⟩, ← sortZ_map 2 (by omega)]
    congr 1
    unfold heL farL
    rw [List.map_map]
    rfl
  · exact ((sortZ_perm _).trans (wit_perm hc)).trans ((sortZ_perm _).symm.append (sortZ_perm _).symm)
  · exact dif_bd (errC_ok.1 h).2.2.1 d ((sortZ_perm _).mem_iff.1 hd)
theorem drop_at {l : List Int} {k : Nat} (h : k < l.length) : l.drop k = l.getD k 0 :: l.drop (k + 1) := by
  rw [List.drop_eq_getElem_cons h, List.getD_eq_getElem?_getD, List.getElem?_eq_getElem h]
  rfl
theorem drop_min {l : List Int} (hs : l.Pairwise (· ≤ ·)) {k : Nat} (h : k < l.length) : ∀ x ∈ l.drop k, l.getD k 0 ≤ x := by
  intro x hx
  obtain ⟨j, hj, rfl⟩ := List.getElem_of_mem hx
  rw [List.getElem_drop]
  have hj' : k + j < l.length := by rw [List.length_drop] at hj; omega
  have := srt_le hs (i := k) (j := k + j) (by omega) hj'
  rwa [List.getD_eq_getElem?_getD (i := k + j), List.getElem?_eq_getElem hj', Option.getD_some] at this
/-- One step of a merge. -/
theorem mg_step {X F Y : List Int} (hX : X.Pairwise (· ≤ ·)) (hF : F.Pairwise (· ≤ ·)) (hY : Y.Pairwise (· ≤ ·)) {k l r : Nat} (h : (Y.drop k).Perm (X.drop l ++ F.drop r)) (hk : k < Y.length) :
    (l < X.length → Y.getD k 0 ≤ X.getD l 0) ∧ (r < F.length → Y.getD k 0 ≤ F.getD r 0) ∧
    ((l < X.length ∧ X.getD l 0 = Y.getD k 0 ∧ (Y.drop (k + 1)).Perm (X.drop (l + 1) ++ F.drop r)) ∨
     (¬ (l < X.length ∧ X.getD l 0 = Y.getD k 0) ∧ r < F.length ∧ F.getD r 0 = Y.getD k 0 ∧ (Y.drop (k + 1)).Perm (X.drop l ++ F.drop (r + 1)))) := by
  have hmin := drop_min hY hk
  have hl : l < X.length → Y.getD k 0 ≤ X.getD l 0 := fun hlt => hmin _ (h.mem_iff.2 (List.mem_append.2 (.inl (by rw [drop_at hlt]; simp))))
  have hr : r < F.length → Y.getD k 0 ≤ F.getD r 0 := fun hlt => hmin _ (h.mem_iff.2 (List.mem_append.2 (.inr (by rw [drop_at hlt]; simp))))
  refine ⟨hl, hr, ?_⟩
  rw [drop_at hk] at h
  by_cases e : l < X.length ∧ X.getD l 0 = Y.getD k 0
  · left
    refine ⟨e.1, e.2, ?_⟩
    rw [drop_at e.1, e.2] at h
    exact h.cons_inv
  · right
    have hm : Y.getD k 0 ∈ X.drop l ++ F.drop r := h.mem_iff.1 (by simp)
    rcases List.mem_append.1 hm with hm | hm
    · exfalso
      have hlt : l < X.length := by
        apply Classical.byContradiction
        intro hh
        rw [List.drop_eq_nil_of_le (by omega)] at hm
        simp at hm
      have h1 := drop_min hX hlt _ hm
      have h2 := hl hlt
      exact e ⟨hlt, by omega⟩
    · have hlt : r < F.length := by
        apply Classical.byContradiction
        intro hh
        rw [List.drop_eq_nil_of_le (by omega)] at hm
        simp at hm
      have h1 := drop_min hF hlt _ hm
      have h2 := hr hlt
      have e2 : F.getD r 0 = Y.getD k 0 := by omega
      refine ⟨e, hlt, e2, ?_⟩
      rw [drop_at hlt, e2] at h
      exact (h.trans List.perm_middle).cons_inv
set_option maxRecDepth 100000 in
set_option maxHeartbeats 8000000 in
theorem EchoWith_walk (A : Option Addr) (n c : Nat) (xs : List Int) (p : Int) (w : World) (h : R E1 w A n c xs) (_ : (Lit.int .i64 p).wf = true) :
    Calls Try.prog 16 #[.slice A n c, .int .i64 p] w fun e w' => e = .returned (.bool true) ∧ Below w.heap.size w w' := by
  have HX := hide h
  have HL := hide h.length
  have hm9 := h.le
  have HSL := hide (witV_len p xs)
  clear h
  by_cases hn : 100 < n
  · have HLn := hide (show decide (100 < n) = true from by simpa using hn)
    go_enter Try.func16, Try.ntmps16
    go_wp2_with (first
      | (go_at_call 18; refine (Long1_any A n c w hm9).mono ?_; rintro e w1 ⟨rfl, b1⟩; have D1 := hide b1; clear b1; rw [HLn.out])
      | (go_at_call 19; refine (sane_any _).mono ?_; rintro e w2 ⟨rfl, b2⟩; have D2 := hide b2; clear b2))
    go_ret
    exact ⟨rfl, (le_call D1.out D2.out)⟩
  · have HLn := hide (show decide (100 < n) = false from by simpa using hn)
    by_cases hz : witE p xs = 0
    · have HE0 := hide hz
      obtain ⟨q1, q2, q3, q4, q5, q6, q7, q8⟩ := wit_ok hz
      have HEC := hide q1
      have HEW := hide q2
      have HHE := hide q3
      have HXV := hide q4
      have HYV := hide q5
      have HFV := hide q6
      have HPM := hide q7
      have HBD := hide q8
      have hn6 := (errC_ok.1 q1).2.1
      rw [HL.out] at hn6
      have HLF := hide (show ((sortZ (farL p xs)).map fun d => 2 * d).length = n from by rw [List.length_map, sortZ_len, farL, List.length_map, HL.out])
      have HLF2 := hide (show (sortZ (farL p xs)).length = n from by rw [sortZ_len, farL, List.length_map, HL.out])
      have HLY := hide (show (sortZ (dif (witV p xs))).length = (sortZ (dif xs)).length + ((sortZ (farL p xs)).map fun d => 2 * d).length from by rw [q7.length_eq, List.length_append, List.length_map])
      have HSX := hide (sortZ_sorted (dif xs))
      have HSF := hide (sortZ_sorted (farL p xs))
      have HSY := hide (sortZ_sorted (dif (witV p xs)))
      have HQ := hide (dif_len (xs := xs) (by rw [HL.out]; exact hn6))
      have HLX := hide (sortZ_len (dif xs))
      clear q1 q2 q3 q4 q5 q6 q7 q8 hz
      generalize sortZ (dif xs) = X at *
      generalize sortZ (farL p xs) = F at *
      generalize sortZ (dif (witV p xs)) = Y at *
      go_enter Try.func16, Try.ntmps16
      go_wp2_with (first
        | (go_at_call 18; refine (Long1_any A n c w hm9).mono ?_; rintro e w1 ⟨rfl, b1⟩; have D1 := hide b1; clear b1; rw [HLn.out])
        | (go_at_call 56; refine (With_any A n c xs p _ (HX.out.below D1.out (Nat.le_refl _)) (by omega)).mono ?_; rw [HE0.out]; rintro e w2 ⟨A2, n2, c2, rfl, o2, b2⟩; have D2 := hide b2; have O2 := hide o2; have HN2 := hide o2.len; clear o2 b2)
        | (go_at_call 57; refine (rWith_any A n c xs p _ ((HX.out.below D1.out (Nat.le_refl _)).below D2.out (Nat.le_refl _)) (by omega)).mono ?_; rw [HE0.out]; rintro e w3 ⟨A3, n3, c3, rfl, o3, b3⟩; have D3 := hide b3; have O3 := hide o3; have HN3 := hide o3.len; clear o3 b3)
        | (go_at_call 26; refine (SameInts_any A2 n2 c2 A3 n3 c3 (witV p xs) (witV p xs) _ (O2.out.row.below D3.out (Nat.le_refl _)) O3.out.row (by have h1 := HN2.out; have h2 := HSL.out; omega) (by have h1 := HN3.out; have h2 := HSL.out; omega)).mono ?_; rintro e w4 ⟨rfl, q4, hw4⟩; have D4 := hide (show Below w3.heap.size w3 w4 from by rw [hw4]; exact below_drewN (Below.refl _ _) q4); clear hw4; rw [beq_self_eq_true])
        | (go_at_call_of 20 (Value.slice A n c); refine (Delays_any A n c xs _ ((((HX.out.below D1.out (Nat.le_refl _)).below D2.out (Nat.le_refl _)).below D3.out (Nat.le_refl _)).below D4.out (Nat.le_refl _)) (by omega)).mono ?_; rw [HEC.out, HXV.out]; rintro e w5 ⟨A5, n5, c5, rfl, o5, b5⟩; have D5 := hide b5; have O5 := hide o5; have HN5 := hide o5.len; clear o5 b5)
        | (go_at_call_of 20 (Value.slice A2 n2 c2); refine (Delays_any A2 n2 c2 (witV p xs) _ (((O2.out.row.below D3.out (Nat.le_refl _)).below D4.out (Nat.le_refl _)).below D5.out (Nat.le_refl _)) (by have h1 := HN2.out; have h2 := HSL.out; omega)).mono ?_; rw [HEW.out, HYV.out]; rintro e w6 ⟨A6, n6, c6, rfl, o6, b6⟩; have D6 := hide b6; have O6 := hide o6; have HN6 := hide o6.len; clear o6 b6)
        | (go_at_call 46; refine (Heard_any A n c xs p _ ((((((HX.out.below D1.out (Nat.le_refl _)).below D2.out (Nat.le_refl _)).below D3.out (Nat.le_refl _)).below D4.out (Nat.le_refl _)).below D5.out (Nat.le_refl _)).below D6.out (Nat.le_refl _)) (by omega)).mono ?_; rw [HHE.out, HFV.out]; rintro e w7 ⟨A7, n7, c7, rfl, o7, b7⟩; have D7 := hide b7; have O7 := hide o7; have HN7 := hide o7.len; clear o7 b7; obtain rfl : n7 = n := (by rw [← HN7.out]; exact HLF.out); have hs6 : n6 = n5 + n7 := (by rw [← HN6.out, ← HN5.out]; exact HLY.out.trans (by rw [HN7.out])); have HS6 := hide hs6; have hn5 : n5 ≤ 36 := (by have h1 := HN5.out; have h2 := HLX.out; have h3 := HQ.out; omega); have e6 : ((n6 : Int) != (n5 : Int) + (n7 : Int)) = false := (by rw [hs6]; simp); clear hs6; have w6' : IntKind.i64.wrap ((n5 : Int) + (n7 : Int)) = (n5 : Int) + (n7 : Int) := IntWalk.i64_in _ (by omega)))
      have HRx := hide (((O5.out.row.below D6.out (Nat.le_refl _)).below D7.out (Nat.le_refl _)))
      have HRy := hide ((O6.out.row.below D7.out (Nat.le_refl _)))
      have HRf := hide (O7.out.row)
      go_loopw [15, 16, 17] (fun a b i wr => ∃ (k l r : Nat), k ≤ n6 ∧ k = l + r ∧ a = .int .i64 l ∧ b = .int .i64 r ∧ i = .int .i64 k ∧ Hid ((Y.drop k).Perm (X.drop l ++ F.drop r)) ∧ Hid (Below w7.heap.size w7 wr)) (fun _ _ i _ => n6 - (intOf i).toNat)
      case atStart => exact ⟨0, 0, 0, Nat.zero_le _, rfl, rfl, rfl, rfl, HPM, hide (Below.refl _ _)⟩
      case round =>
        obtain ⟨k, l, r, hk, hklr, rfl, rfl, rfl, HP, HD⟩ := hrel
        have HKL := hide hklr
        clear hklr
        by_cases hlt : k < n6
        · obtain ⟨hl, hr, hst⟩ := mg_step HSX.out HSF.out HSY.out HP.out (by rw [HN6.out]; exact hlt)
          rw [HN5.out] at hl hst
          rw [HLF2.out] at hr hst
          have hyb : -120 ≤ Y.getD k 0 ∧ Y.getD k 0 ≤ 120 := by
            have hk' : k < Y.length := by rw [HN6.out]; exact hlt
            refine HBD.out _ ?_
            rw [List.getD_eq_getElem?_getD, List.getElem?_eq_getElem hk']
            exact List.getElem_mem hk'
          obtain ⟨gy, oy, ry⟩ := HRy.out
          obtain rfl := ry.at_ (by omega)
          have ly := ry.lt (by omega)
          have ky := ry.cap
          have my := ry.max
          have ay := c1 (ry.below HD.out (Nat.le_refl _)) hlt
          have ik : (k : Int) < (n6 : Int) := by omega
          clear ry
          generalize Y.getD k 0 = y at *
          have w2y : IntKind.i64.wrap (2 * y) = 2 * y := IntWalk.i64_in _ (by omega)
          rcases hst with ⟨hL, heX, hpn⟩ | ⟨hnX, hR, heF, hpn⟩
          · have HPn := hide hpn
            obtain ⟨gx, ox, rx⟩ := HRx.out
            obtain rfl := rx.at_ (by omega)
            have lx := rx.lt (by omega)
            have kx := rx.cap
            have mx := rx.max
            have ax := c1 (rx.below HD.out (Nat.le_refl _)) hL
            have il : (l : Int) < (n5 : Int) := by omega
            rw [heX] at ax
            clear rx hpn heX
            by_cases hR : r < n7
            · have hge := hr hR
              obtain ⟨gf, of, rf⟩ := HRf.out
              obtain rfl := rf.at_ (by omega)
              have lf := rf.lt (by omega)
              have kf := rf.cap
              have mf := rf.max
              have af := c1 (rf.below HD.out (Nat.le_refl _)) hR
              rw [map_getD (by rw [HLF2.out]; exact hR)] at af
              have ir : (r : Int) < (n7 : Int) := by omega
              have hgf : ¬ 2 * F.getD r 0 < 2 * y := by omega
              clear rf hl hr hge
              generalize 2 * F.getD r 0 = fr at *
              go_wp2_with fail
              go_quiet (fail)
              go_wp2_with fail
              go_quiet (fail)
              go_wp2_with fail
              go_roundw
              case rel => exact ⟨k + 1, l + 1, r, by omega, (by have := HKL.out; omega), by go_num, by go_num, by go_num, HPn, hide (below_drewN HD.out _)⟩
              case measure => simp [intOf]; omega
            · have ir : ¬ (r : Int) < (n7 : Int) := by omega
              clear hl hr
              go_wp2_with fail
              go_quiet (fail)
              go_wp2_with fail
              go_quiet (fail)
              go_wp2_with fail
              go_roundw
              case rel => exact ⟨k + 1, l + 1, r, by omega, (by have := HKL.out; omega), by go_num, by go_num, by go_num, HPn, hide (below_drewN HD.out _)⟩
              case measure => simp [intOf]; omega
          · have HPn := hide hpn
            obtain ⟨gf, of, rf⟩ := HRf.out
            obtain rfl := rf.at_ (by omega)
            have lf := rf.lt (by omega)
            have kf := rf.cap
            have mf := rf.max
            have af := c1 (rf.below HD.out (Nat.le_refl _)) hR
            rw [map_getD (by rw [HLF2.out]; exact hR), heF] at af
            have ir : (r : Int) < (n7 : Int) := by omega
            clear rf hpn heF
            by_cases hL : l < n5
            · have hge := hl hL
              obtain ⟨gx, ox, rx⟩ := HRx.out
              obtain rfl := rx.at_ (by omega)
              have lx := rx.lt (by omega)
              have kx := rx.cap
              have mx := rx.max
              have ax := c1 (rx.below HD.out (Nat.le_refl _)) hL
              have il : (l : Int) < (n5 : Int) := by omega
              have hxne : (X.getD l 0 == y) = false := by rw [beq_eq_false_iff_ne]; exact fun e => hnX ⟨hL, e⟩
              have hxlt : ¬ X.getD l 0 < y := by omega
              clear rx hl hr hge hnX
              generalize X.getD l 0 = xl at *
              go_wp2_with fail
              go_quiet (fail)
              go_wp2_with fail
              go_quiet (fail)
              go_wp2_with fail
              go_quiet (fail)
              go_wp2_with fail
              go_roundw
              case rel => exact ⟨k + 1, l, r + 1, by omega, (by have := HKL.out; omega), by go_num, by go_num, by go_num, HPn, hide (below_drewN HD.out _)⟩
              case measure => simp [intOf]; omega
            · have il : ¬ (l : Int) < (n5 : Int) := by omega
              clear hl hr hnX
              go_wp2_with fail
              go_quiet (fail)
              go_wp2_with fail
              go_quiet (fail)
              go_wp2_with fail
              go_quiet (fail)
              go_wp2_with fail
              go_roundw
              case rel => exact ⟨k + 1, l, r + 1, by omega, (by have := HKL.out; omega), by go_num, by go_num, by go_num, HPn, hide (below_drewN HD.out _)⟩
              case measure => simp [intOf]; omega
        · obtain rfl : k = n6 := by omega
          have ik : ¬ (k : Int) < (k : Int) := by omega
          go_wp2_with (go_at_call 19; refine (sane_any _).mono ?_; rintro e w8 ⟨rfl, b8⟩; have D8 := hide b8; clear b8)
          go_ret
          exact ⟨rfl, le_call (le_call (le_call (le_call (le_call (le_call (le_call (le_call D1.out D2.out) D3.out) D4.out) D5.out) D6.out) D7.out) HD.out) D8.out⟩
    · have hne : (witE p xs != 0) = true := by simpa using hz
      clear hz
      go_enter Try.func16, Try.ntmps16
      go_wp2_with (first
        | (go_at_call 18; refine (Long1_any A n c w hm9).mono ?_; rintro e w1 ⟨rfl, b1⟩; have D1 := hide b1; clear b1; rw [HLn.out])
        | (go_at_call 56; refine (With_any A n c xs p _ (HX.out.below D1.out (Nat.le_refl _)) (by omega)).mono ?_; rintro e w2 ⟨A2, n2, c2, rfl, o2, b2⟩; have D2 := hide b2; have O2 := hide o2; have HN2 := hide o2.len; clear o2 b2)
        | (go_at_call 57; refine (rWith_any A n c xs p _ ((HX.out.below D1.out (Nat.le_refl _)).below D2.out (Nat.le_refl _)) (by omega)).mono ?_; rintro e w3 ⟨A3, n3, c3, rfl, o3, b3⟩; have D3 := hide b3; have O3 := hide o3; have HN3 := hide o3.len; clear o3 b3)
        | (go_at_call 26; refine (SameInts_any A2 n2 c2 A3 n3 c3 (witV p xs) (witV p xs) _ (O2.out.row.below D3.out (Nat.le_refl _)) O3.out.row (by have h1 := HN2.out; have h2 := HSL.out; omega) (by have h1 := HN3.out; have h2 := HSL.out; omega)).mono ?_; rintro e w4 ⟨rfl, q4, hw4⟩; have D4 := hide (show Below w3.heap.size w3 w4 from by rw [hw4]; exact below_drewN (Below.refl _ _) q4); clear hw4; rw [beq_self_eq_true])
        | (go_at_call 19; refine (sane_any _).mono ?_; rintro e w5 ⟨rfl, b5⟩; have D5 := hide b5; clear b5))
      go_ret
      exact ⟨ret_bool (by simp), (le_call (le_call (le_call (le_call D1.out D2.out) D3.out) D4.out) D5.out)⟩
end Go.Proofs.Ytllfkhcpdgdmnaa
