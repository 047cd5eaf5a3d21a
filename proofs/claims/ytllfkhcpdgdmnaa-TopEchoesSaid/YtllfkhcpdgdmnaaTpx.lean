/- TopEchoes: the walk for cliffs, to the first loop. -/
import Derived.Test.YtllfkhcpdgdmnaaTpw
namespace Go.Proofs.Ytllfkhcpdgdmnaa
open Go.RowKit

theorem Find_some (A : Option Addr) (n c : Nat) (xs : List Int) (w : World) (h : R E1 w A n c xs) (hn : n ≤ 1000) (h0 : errD xs = 0) {L : List Int} (hL : (allV xs).head? = some L) :
    Calls Try.prog 39 #[.slice A n c] w fun e w' => ∃ (A : Option Addr) (n c : Nat), e = .returned (.tuple #[.slice A n c, .bool true, .int .i64 0]) ∧ Own E1 w' w.heap.size 3 A n c L ∧ Below w.heap.size w w' := by
  have h := Find_any A n c xs w h hn
  rw [h0, hL] at h
  exact h
theorem head_at {l : List (List Int)} (h : l ≠ []) : l.head? = some (l.getD 0 []) ∧ 0 < l.length := by
  cases l with
  | nil => exact absurd rfl h
  | cons x l => exact ⟨rfl, by simp⟩
theorem wit_rul {p : Int} {xs : List Int} (h : witE p xs = 0) : errC (witV p xs) = 0 ∧ (rulV (witV p xs) = true → rulV xs = true) := by
  have hc : errC xs = 0 := by
    unfold witE at h
    split at h
    · assumption
    · exact absurd h (by assumption)
  have hm : errM (xs ++ [p]) = 0 := by
    unfold witE at h
    rwa [if_pos hc] at h
  obtain ⟨a1, a2⟩ := madV_at hm
  have e : witV p xs = sortZ (xs ++ [p]) := (if_pos hc).trans a1
  refine ⟨by rw [e]; exact a2, fun hr => ?_⟩
  rw [e, rulV_ok a2] at hr
  rw [rulV_ok hc, with_ruler hc (by simpa using hr)]
  rfl
theorem wit_none {p : Int} {xs : List Int} (hc : errC xs = 0) (h : witE p xs ≠ 0) : witV p xs = [] := by
  unfold witE at h
  rw [if_pos hc] at h
  exact (if_pos hc).trans (madV_no h)
set_option maxRecDepth 100000 in
set_option maxHeartbeats 8000000 in
theorem TopEchoes_ok (A : Option Addr) (n c : Nat) (xs : List Int) (A' : Option Addr) (n' c' : Nat) (ys : List Int) (p : Int) (w : World) (h : R E1 w A n c xs) (h' : R E1 w A' n' c' ys) (hn : ¬ (100 < n ∨ 100 < n')) (hc : errC xs = 0) :
    Calls Try.prog 17 #[.slice A n c, .slice A' n' c', .int .i64 p] w fun e w' => e = .returned (.bool true) ∧ Below w.heap.size w w' := by
  have HX := hide h
  have HL := hide h.length
  have HY := hide h'
  have HL' := hide h'.length
  have hm9 := h.le
  have hm9' := h'.le
  have HHE := hide (show heE 2 [0, 5] = 0 by decide +kernel)
  have HHV := hide heV_first
  clear h h'
  have HLn := hide (show (decide (100 < n) || decide (100 < n')) = false from by simp; omega)
  have HEC := hide hc
  have HDL := hide (delV_len xs)
  have HED := hide (show errD (delV xs) = 0 from by rw [delV_ok hc]; exact errD_own hc)
  have HCO := hide (chk_own hc)
  obtain ⟨q1, q2⟩ := head_at (all_some hc)
  have HFH := hide q1
  have HPOS := hide q2
  have HNV := hide (norV_ok hc)
  have HNL := hide (norV_len xs)
  have HRL := hide (all_row_at (delV xs))
  clear hc q1 q2
  go_enter Try.func17, Try.ntmps17
  go_wp2_with (first
    | (go_at_call 46; refine (Heard_any _ 2 2 [0, 5] 2 _ (lit_row w [0, 5] (by decide)) (by omega)).mono ?_; rw [HHE.out, HHV.out]; rintro e w1 ⟨A1, n1, c1, rfl, o1, b1⟩; obtain rfl : n1 = 2 := o1.len.symm; have D1 := hide (le_call ((Below.refl _ w).alloc (Nat.le_refl _) _) b1); have HR1 := hide o1.row; clear o1 b1)
    | (go_at_call_of 26 (Value.slice A1 2 c1); refine (SameInts_any A1 2 c1 _ 2 2 [4, 6] [4, 6] _ (HR1.out.below ((Below.refl _ w1).alloc (Nat.le_refl _) _) (Nat.le_refl _)) (lit_row w1 [4, 6] (by decide)) (by omega) (by omega)).mono ?_; rintro e w2 ⟨rfl, q2, hw2⟩; have D2 := hide (show Below w1.heap.size w1 w2 from by rw [hw2]; exact below_drewN ((Below.refl _ w1).alloc (Nat.le_refl _) _) q2); clear hw2; rw [beq_self_eq_true])
    | (go_at_call 18; refine (Long2_any A n c A' n' c' w2 hm9 hm9').mono ?_; rintro e w3 ⟨rfl, b3⟩; have D3 := hide (show Below w2.heap.size w2 w3 from b3); clear b3; rw [HLn.out])
    | (go_at_call 20; refine (Delays_any A n c xs _ (((HX.out.below D1.out (Nat.le_refl _)).below D2.out (Nat.le_refl _)).below D3.out (Nat.le_refl _)) (by omega)).mono ?_; rw [HEC.out]; rintro e w4 ⟨A4, n4, c4, rfl, o4, b4⟩; have D4 := hide b4; have O4 := hide o4; have HN4 := hide o4.len; clear o4 b4)
    | (go_at_call 35; refine (CheckCliffs_any A4 n4 c4 (delV xs) A n c xs _ O4.out.row ((((HX.out.below D1.out (Nat.le_refl _)).below D2.out (Nat.le_refl _)).below D3.out (Nat.le_refl _)).below D4.out (Nat.le_refl _)) (by have h1 := HN4.out; have h2 := HDL.out; omega) (by omega)).mono ?_; rw [HCO.out]; rintro e w5 ⟨rfl, b5⟩; have D5 := hide b5; clear b5)
    | (go_at_call 37; refine (All_any A4 n4 c4 (delV xs) _ (O4.out.row.below D5.out (Nat.le_refl _)) (by have h1 := HN4.out; have h2 := HDL.out; omega)).mono ?_; rw [HED.out]; rintro e w6 ⟨A6, n6, c6, hs6, rfl, o6, l6, r6, b6⟩; have D6 := hide b6; have HO6 := hide o6; have HL6 := hide l6; have HR6 := hide r6; have hn06 : 0 < n6 := (by rw [← l6]; exact HPOS.out); have e06 : ((n6 : Int) == 0) = false := (by simp; omega); clear b6 o6 l6 r6)
    | (go_at_call 39; refine (Find_some A4 n4 c4 (delV xs) _ ((O4.out.row.below D5.out (Nat.le_refl _)).below D6.out (Nat.le_refl _)) (by have h1 := HN4.out; have h2 := HDL.out; omega) HED.out HFH.out).mono ?_; rintro e w7 ⟨A7, n7, c7, rfl, o7, b7⟩; have D7 := hide b7; have O7 := hide o7; have HN7 := hide o7.len; clear o7 b7)
    | (go_at_call 27; refine (Normal_any A n c xs _ (((((((HX.out.below D1.out (Nat.le_refl _)).below D2.out (Nat.le_refl _)).below D3.out (Nat.le_refl _)).below D4.out (Nat.le_refl _)).below D5.out (Nat.le_refl _)).below D6.out (Nat.le_refl _)).below D7.out (Nat.le_refl _)) (by omega)).mono ?_; rw [HEC.out]; rintro e w8 ⟨A8, n8, c8, rfl, o8, b8⟩; have D8 := hide b8; have O8 := hide o8; have HN8 := hide o8.len; clear o8 b8; obtain ⟨gh, oh, rh⟩ := HO6.out.row; obtain rfl := rh.at_ hn06; have lh := rh.lt hn06; have a06 := cH ((rh.below D7.out (Nat.le_refl _)).below D8.out (Nat.le_refl _)) hn06; have kh := rh.cap; have mh := rh.max; have rr0 := (HR6.out 0 hn06).row; have hrl0 := rr0.length; have HRR0 := hide ((rr0.below D7.out (Nat.le_refl _)).below D8.out (Nat.le_refl _)); have i06 : (0 : Int) < (n6 : Int) := (by omega); have l06 := HRL.out 0; clear rr0 rh; rw [Nat.add_zero] at a06)
    | (go_at_call_of 26 (Value.slice A7 n7 c7); refine (SameInts_any A7 n7 c7 _ _ _ ((allV (delV xs)).getD 0 []) ((allV (delV xs)).getD 0 []) _ (O7.out.row.below D8.out (Nat.le_refl _)) HRR0.out (by have h1 := HN7.out; omega) (by omega)).mono ?_; rintro e w9 ⟨rfl, q9, hw9⟩; have D9 := hide (show Below w8.heap.size w8 w9 from by rw [hw9]; exact below_drewN (Below.refl _ _) q9); clear hw9; rw [beq_self_eq_true]))
  have HRC := hide ((((((((((HX.out.below D1.out (Nat.le_refl _)).below D2.out (Nat.le_refl _)).below D3.out (Nat.le_refl _)).below D4.out (Nat.le_refl _)).below D5.out (Nat.le_refl _)).below D6.out (Nat.le_refl _)).below D7.out (Nat.le_refl _)).below D8.out (Nat.le_refl _)).below D9.out (Nat.le_refl _)))
  have HRO := hide ((O8.out.row.below D9.out (Nat.le_refl _)))
  have HRD := hide ((((((((((HY.out.below D1.out (Nat.le_refl _)).below D2.out (Nat.le_refl _)).below D3.out (Nat.le_refl _)).below D4.out (Nat.le_refl _)).below D5.out (Nat.le_refl _)).below D6.out (Nat.le_refl _)).below D7.out (Nat.le_refl _)).below D8.out (Nat.le_refl _)).below D9.out (Nat.le_refl _)))
  have HRH := hide ((((HO6.out.row.below D7.out (Nat.le_refl _)).below D8.out (Nat.le_refl _)).below D9.out (Nat.le_refl _)))
  have HR6' := hide (fun i hi => (((HR6.out i hi).row.below D7.out (Nat.le_refl _)).below D8.out (Nat.le_refl _)).below D9.out (Nat.le_refl _))
  have HAM := hide (fun L (hL : L ∈ allV (delV xs)) => among_ok HEC.out hL)
  have HON := hide (among_once HEC.out)
  have HSF := hide (fun (h : errC ys = 0) => same_found HEC.out h)
  have HT := hide ((le_call (le_call (le_call (le_call (le_call (le_call (le_call (le_call D1.out D2.out) D3.out) D4.out) D5.out) D6.out) D7.out) D8.out) D9.out))
  clear a06 HRR0
  generalize hrows : allV (delV xs) = rows at *
  have hn6 := HRH.out.le
  go_loopw [16, 17] (fun t i wr => ∃ k : Nat, k ≤ n6 ∧ t = .int .i64 ((rows.take k).count (norF xs)) ∧ i = .int .i64 k ∧ Hid (Below w9.heap.size w9 wr)) (fun _ i _ => n6 - (intOf i).toNat)
  case atStart => exact ⟨0, Nat.zero_le _, by simp, rfl, hide (Below.refl _ _)⟩
  case round =>
    obtain ⟨k, hk, rfl, rfl, HD⟩ := hrel
    by_cases hlt : k < n6
    · obtain ⟨gh2, oh2, rh2⟩ := HRH.out
      obtain ⟨rfl, rfl⟩ : gh2 = gh ∧ oh2 = oh := by
        have := rh2.at_ (by omega)
        simp at this
        exact ⟨this.1.symm, this.2.symm⟩
      have a1 := cH (rh2.below HD.out (Nat.le_refl _)) hlt
      have HA1 := hide (fun (w10 w11 : World) (d1 : Below wr.heap.size wr w10) (d2 : Below w10.heap.size w10 w11) => cH (((rh2.below HD.out (Nat.le_refl _)).below d1 (Nat.le_refl _)).below d2 (Nat.le_refl _)) hlt)
      have a2 := fun (w10 : World) (d1 : Below wr.heap.size wr w10) => cH ((rh2.below HD.out (Nat.le_refl _)).below d1 (Nat.le_refl _)) hlt
      have HA2 := hide a2
      clear a2
      have i1 : (k : Int) < (n6 : Int) := by omega
      have r1 := HR6'.out k hlt
      have l1 := HRL.out k
      have hrn := r1.length
      have HRK := hide (r1.below HD.out (Nat.le_refl _))
      have hkl : k < rows.length := by rw [HL6.out]; exact hlt
      have hmem : rows.getD k [] ∈ rows := by
        rw [List.getD_eq_getElem?_getD, List.getElem?_eq_getElem hkl]
        exact List.getElem_mem hkl
      obtain ⟨m1, m2, m3⟩ := HAM.out _ hmem
      have HK2 := hide m2
      have HK3 := hide m3
      have HKB := hide (errB_of HEC.out m1)
      have hcl : (rows.take k).count (norF xs) ≤ k := Nat.le_trans List.count_le_length (by rw [List.length_take]; omega)
      have HTK := hide (show (rows.take (k + 1)).count (norF xs) = (rows.take k).count (norF xs) + if norF xs == rows.getD k [] then 1 else 0 from by
        rw [List.take_succ_eq_append_getElem hkl, List.count_append, List.getD_eq_getElem?_getD, List.getElem?_eq_getElem hkl, Option.getD_some, List.count_singleton]
        congr 1
        by_cases e : norF xs = rows[k]
        · simp [e]
        · have e' : ¬ rows[k] = norF xs := fun h => e h.symm
          simp [e, e'])
      have HRC' := HRC
      clear HRC
      have HRC := hide (HRC'.out.below HD.out (Nat.le_refl _))
      have HRO' := HRO
      clear HRO
      have HRO := hide (HRO'.out.below HD.out (Nat.le_refl _))
      clear r1 rh2 m1 m2 m3 hmem
      generalize hs6.getD k EH.d = hd at *
      obtain ⟨A1', n1', c1'⟩ := hd
      dsimp only at *
      generalize (rows.take k).count (norF xs) = t at *
      have hwt : IntKind.i64.wrap ((t : Int) + 1) = (t : Int) + 1 := IntWalk.i64_in _ (by omega)
      cases hv : (norF xs == rows.getD k []) with
      | true =>
        have HV := hide hv
        rw [hv] at HTK
        have HTK2 := hide (show ((t : Int) + 1) = ((rows.take (k + 1)).count (norF xs) : Nat) from by rw [HTK.out]; simp)
        clear hv HTK
        go_wp2_with (first
          | (go_at_call 29; refine (Same_any A n c xs A1' n1' c1' _ _ HRC.out HRK.out (by omega) (by omega)).mono ?_; rw [HK2.out, HKB.out]; rintro e w10 ⟨rfl, b10⟩; have D10 := hide b10; have a2 := HA2.out _ D10.out; clear b10)
          | (go_at_call 31; refine (Alike_any A n c xs A1' n1' c1' _ _ (HRC.out.below D10.out (Nat.le_refl _)) (HRK.out.below D10.out (Nat.le_refl _)) (by omega) (by omega)).mono ?_; rw [HK3.out, HKB.out, HV.out]; rintro e w11 ⟨rfl, b11⟩; have D11 := hide b11; have a3 := HA1.out _ _ D10.out D11.out; clear b11)
          | (go_at_call 26; refine (SameInts_any A8 n8 c8 A1' n1' c1' (norV xs) _ _ ((HRO.out.below D10.out (Nat.le_refl _)).below D11.out (Nat.le_refl _)) ((HRK.out.below D10.out (Nat.le_refl _)).below D11.out (Nat.le_refl _)) (by have h1 := HN8.out; have h2 := HNL.out; omega) (by omega)).mono ?_; rw [HNV.out, HV.out]; rintro e w12 ⟨rfl, q12, hw12⟩; have D12 := hide (show Below w11.heap.size w11 w12 from by rw [hw12]; exact below_drewN (Below.refl _ _) q12); clear hw12))
        go_roundw
        case rel => exact ⟨k + 1, by omega, by rw [← HTK2.out], by go_num, hide (le_call (le_call (le_call HD.out D10.out) D11.out) D12.out)⟩
        case measure => simp [intOf]; omega
      | false =>
        have HV := hide hv
        rw [hv] at HTK
        have HTK2 := hide (show (t : Int) = ((rows.take (k + 1)).count (norF xs) : Nat) from by rw [HTK.out]; simp)
        clear hv HTK
        go_wp2_with (first
          | (go_at_call 29; refine (Same_any A n c xs A1' n1' c1' _ _ HRC.out HRK.out (by omega) (by omega)).mono ?_; rw [HK2.out, HKB.out]; rintro e w10 ⟨rfl, b10⟩; have D10 := hide b10; have a2 := HA2.out _ D10.out; clear b10)
          | (go_at_call 31; refine (Alike_any A n c xs A1' n1' c1' _ _ (HRC.out.below D10.out (Nat.le_refl _)) (HRK.out.below D10.out (Nat.le_refl _)) (by omega) (by omega)).mono ?_; rw [HK3.out, HKB.out, HV.out]; rintro e w11 ⟨rfl, b11⟩; have D11 := hide b11; have a3 := HA1.out _ _ D10.out D11.out; clear b11)
          | (go_at_call 26; refine (SameInts_any A8 n8 c8 A1' n1' c1' (norV xs) _ _ ((HRO.out.below D10.out (Nat.le_refl _)).below D11.out (Nat.le_refl _)) ((HRK.out.below D10.out (Nat.le_refl _)).below D11.out (Nat.le_refl _)) (by have h1 := HN8.out; have h2 := HNL.out; omega) (by omega)).mono ?_; rw [HNV.out, HV.out]; rintro e w12 ⟨rfl, q12, hw12⟩; have D12 := hide (show Below w11.heap.size w11 w12 from by rw [hw12]; exact below_drewN (Below.refl _ _) q12); clear hw12))
        go_roundw
        case rel => exact ⟨k + 1, by omega, by rw [← HTK2.out], by go_num, hide (le_call (le_call (le_call HD.out D10.out) D11.out) D12.out)⟩
        case measure => simp [intOf]; omega
    · obtain rfl : k = n6 := by omega
      have hct : (rows.take k).count (norF xs) = 1 := by rw [← HL6.out, List.take_length]; exact HON.out
      rw [hct]
      by_cases hy : errC ys = 0
      · have HEY := hide hy
        have HSB := hide (errB_of HEC.out hy)
        have HSF2 := hide (HSF.out hy)
        have HNVY := hide (norV_ok hy)
        have HNLY := hide (norV_len ys)
        have HCP := hide (cmbV_len (fun x y => x + y) xs ys)
        have HCM := hide (cmbV_len (fun x y => x - y) xs ys)
        clear hy
        go_wp2_with (first
          | (go_at_call 24; refine (Validate_any A' n' c' ys _ (HRD.out.below HD.out (Nat.le_refl _)) (by omega)).mono ?_; rw [HEY.out]; rintro e w11 ⟨rfl, b11⟩; have D11 := hide b11; clear b11)
          | (go_at_call 29; refine (Same_any A n c xs A' n' c' ys _ ((HRC.out.below HD.out (Nat.le_refl _)).below D11.out (Nat.le_refl _)) ((HRD.out.below HD.out (Nat.le_refl _)).below D11.out (Nat.le_refl _)) (by omega) (by omega)).mono ?_; rw [HSB.out]; rintro e w12 ⟨rfl, b12⟩; have D12 := hide b12; clear b12)
          | (go_at_call 27; refine (Normal_any A' n' c' ys _ (((HRD.out.below HD.out (Nat.le_refl _)).below D11.out (Nat.le_refl _)).below D12.out (Nat.le_refl _)) (by omega)).mono ?_; rw [HEY.out]; rintro e w13 ⟨A13, n13, c13, rfl, o13, b13⟩; have D13 := hide b13; have O13 := hide o13; have HN13 := hide o13.len; clear o13 b13))
        have HRQ0 := hide (O13.out.row)
        have HRC2 := hide (((((HRC.out.below HD.out (Nat.le_refl _)).below D11.out (Nat.le_refl _)).below D12.out (Nat.le_refl _)).below D13.out (Nat.le_refl _)))
        have HRD2 := hide (((((HRD.out.below HD.out (Nat.le_refl _)).below D11.out (Nat.le_refl _)).below D12.out (Nat.le_refl _)).below D13.out (Nat.le_refl _)))
        have HRH2 := hide (((((HRH.out.below HD.out (Nat.le_refl _)).below D11.out (Nat.le_refl _)).below D12.out (Nat.le_refl _)).below D13.out (Nat.le_refl _)))
        have HR62 := hide (fun i hi => (((((HR6'.out i hi).below HD.out (Nat.le_refl _)).below D11.out (Nat.le_refl _)).below D12.out (Nat.le_refl _)).below D13.out (Nat.le_refl _)))
        go_loopw [24, 27] (fun f i wr => ∃ j : Nat, j ≤ k ∧ f = .bool ((rows.take j).any fun L => L == norF ys) ∧ i = .int .i64 j ∧ Hid (Below w13.heap.size w13 wr)) (fun _ i _ => k - (intOf i).toNat)
        case atStart => exact ⟨0, Nat.zero_le _, by simp, rfl, hide (Below.refl _ _)⟩
        case round =>
          obtain ⟨j, hj, rfl, rfl, HD2⟩ := hrel
          by_cases hlt2 : j < k
          · obtain ⟨gh2, oh2, rh2⟩ := HRH2.out
            obtain ⟨rfl, rfl⟩ : gh2 = gh ∧ oh2 = oh := by
              have := rh2.at_ (by omega)
              simp at this
              exact ⟨this.1.symm, this.2.symm⟩
            have a1 := cH (rh2.below HD2.out (Nat.le_refl _)) hlt2
            have i1 : (j : Int) < (k : Int) := by omega
            have r1 := HR62.out j hlt2
            have l1 := HRL.out j
            have hrn := r1.length
            have HRK := hide (r1.below HD2.out (Nat.le_refl _))
            have HRQ := hide (HRQ0.out.below HD2.out (Nat.le_refl _))
            have hkl : j < rows.length := by rw [HL6.out]; exact hlt2
            have HTK := hide (show ((rows.take (j + 1)).any fun L => L == norF ys) = (((rows.take j).any fun L => L == norF ys) || (rows.getD j [] == norF ys)) from by
              rw [List.take_succ_eq_append_getElem hkl, List.any_append, List.getD_eq_getElem?_getD, List.getElem?_eq_getElem hkl, Option.getD_some]
              simp)
            clear r1 rh2
            generalize hs6.getD j EH.d = hd at *
            obtain ⟨A1', n1', c1'⟩ := hd
            dsimp only at *
            cases hf : (rows.take j).any fun L => L == norF ys with
            | true =>
              rw [hf] at HTK
              have HTK2 := hide (show ((rows.take (j + 1)).any fun L => L == norF ys) = true from by rw [HTK.out]; rfl)
              clear hf HTK
              go_wp2_with fail
              go_roundw
              case rel => exact ⟨j + 1, by omega, by rw [HTK2.out], by go_num, HD2⟩
              case measure => simp [intOf]; omega
            | false =>
              cases hv : (rows.getD j [] == norF ys) with
              | true =>
                have HV := hide hv
                rw [hf, hv] at HTK
                have HTK2 := hide (show ((rows.take (j + 1)).any fun L => L == norF ys) = true from by rw [HTK.out]; rfl)
                clear hf hv HTK
                go_wp2_with (go_at_call 26; refine (SameInts_any A1' n1' c1' A13 n13 c13 _ (norV ys) _ HRK.out HRQ.out (by omega) (by have h1 := HN13.out; have h2 := HNLY.out; omega)).mono ?_; rw [HNVY.out, HV.out]; rintro e w14 ⟨rfl, q14, hw14⟩; have D14 := hide (show Below wr.heap.size wr w14 from by rw [hw14]; exact below_drewN (Below.refl _ _) q14); clear hw14)
                go_roundw
                case rel => exact ⟨j + 1, by omega, by rw [HTK2.out], by go_num, hide (le_call HD2.out D14.out)⟩
                case measure => simp [intOf]; omega
              | false =>
                have HV := hide hv
                rw [hf, hv] at HTK
                have HTK2 := hide (show ((rows.take (j + 1)).any fun L => L == norF ys) = false from by rw [HTK.out]; rfl)
                clear hf hv HTK
                go_wp2_with (go_at_call 26; refine (SameInts_any A1' n1' c1' A13 n13 c13 _ (norV ys) _ HRK.out HRQ.out (by omega) (by have h1 := HN13.out; have h2 := HNLY.out; omega)).mono ?_; rw [HNVY.out, HV.out]; rintro e w14 ⟨rfl, q14, hw14⟩; have D14 := hide (show Below wr.heap.size wr w14 from by rw [hw14]; exact below_drewN (Below.refl _ _) q14); clear hw14)
                go_roundw
                case rel => exact ⟨j + 1, by omega, by rw [HTK2.out], by go_num, hide (le_call HD2.out D14.out)⟩
                case measure => simp [intOf]; omega
          · obtain rfl : j = k := by omega
            have hfs : ((rows.take j).any fun L => L == norF ys) = samV xs ys := by rw [HSF2.out, ← HL6.out, List.take_length]
            rw [hfs]
            clear HSF2 HSF hfs
            generalize samV xs ys = sb at *
            cases sb with
            | true =>
              by_cases hp : errS (fun x y => x + y) xs ys = 0
              · have HP := hide hp
                by_cases hq : errS (fun x y => x - y) xs ys = 0
                · have HM := hide hq
                  have HH := hide (homes hp hq)
                  clear hp hq
                  by_cases hz : witE p xs = 0
                  · have HWE := hide hz
                    obtain ⟨hzc, hru⟩ := wit_rul hz
                    have HZC := hide hzc
                    have HRU := hide hru
                    clear hz hzc hru
                    have HWL := hide (witV_len p xs)
                    cases hb1 : rulV (witV p xs) with
                    | true =>
                      have HB1 := hide hb1
                      have HB2 := hide (HRU.out hb1)
                      clear hb1
                      go_wp2_with (first
                        | (go_at_call 48; refine (Plus_any A n c xs A' n' c' ys _ (HRC2.out.below HD2.out (Nat.le_refl _)) (HRD2.out.below HD2.out (Nat.le_refl _)) (by omega) (by omega)).mono ?_; rw [HP.out]; rintro e w14 ⟨A14, n14, c14, rfl, o14, b14⟩; have D14 := hide b14; have O14 := hide o14; have HN14 := hide o14.len; clear o14 b14)
                        | (go_at_call 50; refine (Minus_any A n c xs A' n' c' ys _ ((HRC2.out.below HD2.out (Nat.le_refl _)).below D14.out (Nat.le_refl _)) ((HRD2.out.below HD2.out (Nat.le_refl _)).below D14.out (Nat.le_refl _)) (by omega) (by omega)).mono ?_; rw [HM.out]; rintro e w15 ⟨A15, n15, c15, rfl, o15, b15⟩; have D15 := hide b15; have O15 := hide o15; have HN15 := hide o15.len; clear o15 b15)
                        | (go_at_call 29; refine (Same_any A14 n14 c14 (cmbV (fun x y => x + y) xs ys) A15 n15 c15 (cmbV (fun x y => x - y) xs ys) _ (O14.out.row.below D15.out (Nat.le_refl _)) O15.out.row (by have h1 := HN14.out; have h2 := HCP.out; omega) (by have h1 := HN15.out; have h2 := HCM.out; omega)).mono ?_; rw [HH.out.1, HH.out.2.1]; rintro e w16 ⟨rfl, b16⟩; have D16 := hide b16; clear b16)
                        | (go_at_call 56; refine (With_any A n c xs p _ ((((HRC2.out.below HD2.out (Nat.le_refl _)).below D14.out (Nat.le_refl _)).below D15.out (Nat.le_refl _)).below D16.out (Nat.le_refl _)) (by omega)).mono ?_; rw [HWE.out]; rintro e w17 ⟨A17, n17, c17, rfl, o17, b17⟩; have D17 := hide b17; have O17 := hide o17; have HN17 := hide o17.len; clear o17 b17)
                        | (go_at_call_of 22 (Value.slice A17 n17 c17); refine (IsRuler_any A17 n17 c17 (witV p xs) _ O17.out.row (by have h1 := HN17.out; have h2 := HWL.out; omega)).mono ?_; rw [HZC.out, HB1.out]; rintro e w18 ⟨rfl, b18⟩; have D18 := hide b18; clear b18)
                        | (go_at_call_of 22 (Value.slice A n c); refine (IsRuler_any A n c xs _ ((((((HRC2.out.below HD2.out (Nat.le_refl _)).below D14.out (Nat.le_refl _)).below D15.out (Nat.le_refl _)).below D16.out (Nat.le_refl _)).below D17.out (Nat.le_refl _)).below D18.out (Nat.le_refl _)) (by omega)).mono ?_; rw [HEC.out, HB2.out]; rintro e w19 ⟨rfl, b19⟩; have D19 := hide b19; clear b19))
                      go_ret
                      exact ⟨rfl, (le_call (le_call (le_call (le_call (le_call (le_call (le_call (le_call (le_call (le_call (le_call HT.out HD.out) D11.out) D12.out) D13.out) HD2.out) D14.out) D15.out) D16.out) D17.out) D18.out) D19.out)⟩
                    | false =>
                      have HB1 := hide hb1
                      clear hb1
                      cases hb2 : rulV xs with
                      | true =>
                        have HB2 := hide hb2
                        clear hb2
                        go_wp2_with (first
                          | (go_at_call 48; refine (Plus_any A n c xs A' n' c' ys _ (HRC2.out.below HD2.out (Nat.le_refl _)) (HRD2.out.below HD2.out (Nat.le_refl _)) (by omega) (by omega)).mono ?_; rw [HP.out]; rintro e w14 ⟨A14, n14, c14, rfl, o14, b14⟩; have D14 := hide b14; have O14 := hide o14; have HN14 := hide o14.len; clear o14 b14)
                          | (go_at_call 50; refine (Minus_any A n c xs A' n' c' ys _ ((HRC2.out.below HD2.out (Nat.le_refl _)).below D14.out (Nat.le_refl _)) ((HRD2.out.below HD2.out (Nat.le_refl _)).below D14.out (Nat.le_refl _)) (by omega) (by omega)).mono ?_; rw [HM.out]; rintro e w15 ⟨A15, n15, c15, rfl, o15, b15⟩; have D15 := hide b15; have O15 := hide o15; have HN15 := hide o15.len; clear o15 b15)
                          | (go_at_call 29; refine (Same_any A14 n14 c14 (cmbV (fun x y => x + y) xs ys) A15 n15 c15 (cmbV (fun x y => x - y) xs ys) _ (O14.out.row.below D15.out (Nat.le_refl _)) O15.out.row (by have h1 := HN14.out; have h2 := HCP.out; omega) (by have h1 := HN15.out; have h2 := HCM.out; omega)).mono ?_; rw [HH.out.1, HH.out.2.1]; rintro e w16 ⟨rfl, b16⟩; have D16 := hide b16; clear b16)
                          | (go_at_call 56; refine (With_any A n c xs p _ ((((HRC2.out.below HD2.out (Nat.le_refl _)).below D14.out (Nat.le_refl _)).below D15.out (Nat.le_refl _)).below D16.out (Nat.le_refl _)) (by omega)).mono ?_; rw [HWE.out]; rintro e w17 ⟨A17, n17, c17, rfl, o17, b17⟩; have D17 := hide b17; have O17 := hide o17; have HN17 := hide o17.len; clear o17 b17)
                          | (go_at_call_of 22 (Value.slice A17 n17 c17); refine (IsRuler_any A17 n17 c17 (witV p xs) _ O17.out.row (by have h1 := HN17.out; have h2 := HWL.out; omega)).mono ?_; rw [HZC.out, HB1.out]; rintro e w18 ⟨rfl, b18⟩; have D18 := hide b18; clear b18)
                          | (go_at_call_of 22 (Value.slice A n c); refine (IsRuler_any A n c xs _ ((((((HRC2.out.below HD2.out (Nat.le_refl _)).below D14.out (Nat.le_refl _)).below D15.out (Nat.le_refl _)).below D16.out (Nat.le_refl _)).below D17.out (Nat.le_refl _)).below D18.out (Nat.le_refl _)) (by omega)).mono ?_; rw [HEC.out, HB2.out]; rintro e w19 ⟨rfl, b19⟩; have D19 := hide b19; clear b19))
                        go_ret
                        exact ⟨rfl, (le_call (le_call (le_call (le_call (le_call (le_call (le_call (le_call (le_call (le_call (le_call HT.out HD.out) D11.out) D12.out) D13.out) HD2.out) D14.out) D15.out) D16.out) D17.out) D18.out) D19.out)⟩
                      | false =>
                        have HB2 := hide hb2
                        clear hb2
                        go_wp2_with (first
                          | (go_at_call 48; refine (Plus_any A n c xs A' n' c' ys _ (HRC2.out.below HD2.out (Nat.le_refl _)) (HRD2.out.below HD2.out (Nat.le_refl _)) (by omega) (by omega)).mono ?_; rw [HP.out]; rintro e w14 ⟨A14, n14, c14, rfl, o14, b14⟩; have D14 := hide b14; have O14 := hide o14; have HN14 := hide o14.len; clear o14 b14)
                          | (go_at_call 50; refine (Minus_any A n c xs A' n' c' ys _ ((HRC2.out.below HD2.out (Nat.le_refl _)).below D14.out (Nat.le_refl _)) ((HRD2.out.below HD2.out (Nat.le_refl _)).below D14.out (Nat.le_refl _)) (by omega) (by omega)).mono ?_; rw [HM.out]; rintro e w15 ⟨A15, n15, c15, rfl, o15, b15⟩; have D15 := hide b15; have O15 := hide o15; have HN15 := hide o15.len; clear o15 b15)
                          | (go_at_call 29; refine (Same_any A14 n14 c14 (cmbV (fun x y => x + y) xs ys) A15 n15 c15 (cmbV (fun x y => x - y) xs ys) _ (O14.out.row.below D15.out (Nat.le_refl _)) O15.out.row (by have h1 := HN14.out; have h2 := HCP.out; omega) (by have h1 := HN15.out; have h2 := HCM.out; omega)).mono ?_; rw [HH.out.1, HH.out.2.1]; rintro e w16 ⟨rfl, b16⟩; have D16 := hide b16; clear b16)
                          | (go_at_call 56; refine (With_any A n c xs p _ ((((HRC2.out.below HD2.out (Nat.le_refl _)).below D14.out (Nat.le_refl _)).below D15.out (Nat.le_refl _)).below D16.out (Nat.le_refl _)) (by omega)).mono ?_; rw [HWE.out]; rintro e w17 ⟨A17, n17, c17, rfl, o17, b17⟩; have D17 := hide b17; have O17 := hide o17; have HN17 := hide o17.len; clear o17 b17)
                          | (go_at_call_of 22 (Value.slice A17 n17 c17); refine (IsRuler_any A17 n17 c17 (witV p xs) _ O17.out.row (by have h1 := HN17.out; have h2 := HWL.out; omega)).mono ?_; rw [HZC.out, HB1.out]; rintro e w18 ⟨rfl, b18⟩; have D18 := hide b18; clear b18)
                          | (go_at_call_of 22 (Value.slice A n c); refine (IsRuler_any A n c xs _ ((((((HRC2.out.below HD2.out (Nat.le_refl _)).below D14.out (Nat.le_refl _)).below D15.out (Nat.le_refl _)).below D16.out (Nat.le_refl _)).below D17.out (Nat.le_refl _)).below D18.out (Nat.le_refl _)) (by omega)).mono ?_; rw [HEC.out, HB2.out]; rintro e w19 ⟨rfl, b19⟩; have D19 := hide b19; clear b19))
                        go_ret
                        exact ⟨rfl, (le_call (le_call (le_call (le_call (le_call (le_call (le_call (le_call (le_call (le_call (le_call HT.out HD.out) D11.out) D12.out) D13.out) HD2.out) D14.out) D15.out) D16.out) D17.out) D18.out) D19.out)⟩
                  · have hzn : (witE p xs != 0) = true := by simpa using hz
                    have HZV := hide (wit_none HEC.out hz)
                    clear hz
                    go_wp2_with (first
                      | (go_at_call 48; refine (Plus_any A n c xs A' n' c' ys _ (HRC2.out.below HD2.out (Nat.le_refl _)) (HRD2.out.below HD2.out (Nat.le_refl _)) (by omega) (by omega)).mono ?_; rw [HP.out]; rintro e w14 ⟨A14, n14, c14, rfl, o14, b14⟩; have D14 := hide b14; have O14 := hide o14; have HN14 := hide o14.len; clear o14 b14)
                      | (go_at_call 50; refine (Minus_any A n c xs A' n' c' ys _ ((HRC2.out.below HD2.out (Nat.le_refl _)).below D14.out (Nat.le_refl _)) ((HRD2.out.below HD2.out (Nat.le_refl _)).below D14.out (Nat.le_refl _)) (by omega) (by omega)).mono ?_; rw [HM.out]; rintro e w15 ⟨A15, n15, c15, rfl, o15, b15⟩; have D15 := hide b15; have O15 := hide o15; have HN15 := hide o15.len; clear o15 b15)
                      | (go_at_call 29; refine (Same_any A14 n14 c14 (cmbV (fun x y => x + y) xs ys) A15 n15 c15 (cmbV (fun x y => x - y) xs ys) _ (O14.out.row.below D15.out (Nat.le_refl _)) O15.out.row (by have h1 := HN14.out; have h2 := HCP.out; omega) (by have h1 := HN15.out; have h2 := HCM.out; omega)).mono ?_; rw [HH.out.1, HH.out.2.1]; rintro e w16 ⟨rfl, b16⟩; have D16 := hide b16; clear b16)
                      | (go_at_call 56; refine (With_any A n c xs p _ ((((HRC2.out.below HD2.out (Nat.le_refl _)).below D14.out (Nat.le_refl _)).below D15.out (Nat.le_refl _)).below D16.out (Nat.le_refl _)) (by omega)).mono ?_; rintro e w17 ⟨A17, n17, c17, rfl, o17, b17⟩; have D17 := hide b17; have O17 := hide o17; have HN17 := hide o17.len; clear o17 b17))
                    obtain rfl : n17 = 0 := by rw [← HN17.out, HZV.out]; rfl
                    go_ret
                    exact ⟨ret_bool (by simp), (le_call (le_call (le_call (le_call (le_call (le_call (le_call (le_call (le_call HT.out HD.out) D11.out) D12.out) D13.out) HD2.out) D14.out) D15.out) D16.out) D17.out)⟩
                · have hqn : (errS (fun x y => x - y) xs ys == 0) = false := by simpa using hq
                  clear hp hq
                  by_cases hz : witE p xs = 0
                  · have HWE := hide hz
                    obtain ⟨hzc, hru⟩ := wit_rul hz
                    have HZC := hide hzc
                    have HRU := hide hru
                    clear hz hzc hru
                    have HWL := hide (witV_len p xs)
                    cases hb1 : rulV (witV p xs) with
                    | true =>
                      have HB1 := hide hb1
                      have HB2 := hide (HRU.out hb1)
                      clear hb1
                      go_wp2_with (first
                        | (go_at_call 48; refine (Plus_any A n c xs A' n' c' ys _ (HRC2.out.below HD2.out (Nat.le_refl _)) (HRD2.out.below HD2.out (Nat.le_refl _)) (by omega) (by omega)).mono ?_; rw [HP.out]; rintro e w14 ⟨A14, n14, c14, rfl, o14, b14⟩; have D14 := hide b14; have O14 := hide o14; have HN14 := hide o14.len; clear o14 b14)
                        | (go_at_call 50; refine (Minus_any A n c xs A' n' c' ys _ ((HRC2.out.below HD2.out (Nat.le_refl _)).below D14.out (Nat.le_refl _)) ((HRD2.out.below HD2.out (Nat.le_refl _)).below D14.out (Nat.le_refl _)) (by omega) (by omega)).mono ?_; rintro e w15 ⟨A15, n15, c15, rfl, o15, b15⟩; have D15 := hide b15; have O15 := hide o15; have HN15 := hide o15.len; clear o15 b15)
                        | (go_at_call 56; refine (With_any A n c xs p _ (((HRC2.out.below HD2.out (Nat.le_refl _)).below D14.out (Nat.le_refl _)).below D15.out (Nat.le_refl _)) (by omega)).mono ?_; rw [HWE.out]; rintro e w16 ⟨A16, n16, c16, rfl, o16, b16⟩; have D16 := hide b16; have O16 := hide o16; have HN16 := hide o16.len; clear o16 b16)
                        | (go_at_call_of 22 (Value.slice A16 n16 c16); refine (IsRuler_any A16 n16 c16 (witV p xs) _ O16.out.row (by have h1 := HN16.out; have h2 := HWL.out; omega)).mono ?_; rw [HZC.out, HB1.out]; rintro e w17 ⟨rfl, b17⟩; have D17 := hide b17; clear b17)
                        | (go_at_call_of 22 (Value.slice A n c); refine (IsRuler_any A n c xs _ (((((HRC2.out.below HD2.out (Nat.le_refl _)).below D14.out (Nat.le_refl _)).below D15.out (Nat.le_refl _)).below D16.out (Nat.le_refl _)).below D17.out (Nat.le_refl _)) (by omega)).mono ?_; rw [HEC.out, HB2.out]; rintro e w18 ⟨rfl, b18⟩; have D18 := hide b18; clear b18))
                      go_ret
                      exact ⟨rfl, (le_call (le_call (le_call (le_call (le_call (le_call (le_call (le_call (le_call (le_call HT.out HD.out) D11.out) D12.out) D13.out) HD2.out) D14.out) D15.out) D16.out) D17.out) D18.out)⟩
                    | false =>
                      have HB1 := hide hb1
                      clear hb1
                      cases hb2 : rulV xs with
                      | true =>
                        have HB2 := hide hb2
                        clear hb2
                        go_wp2_with (first
                          | (go_at_call 48; refine (Plus_any A n c xs A' n' c' ys _ (HRC2.out.below HD2.out (Nat.le_refl _)) (HRD2.out.below HD2.out (Nat.le_refl _)) (by omega) (by omega)).mono ?_; rw [HP.out]; rintro e w14 ⟨A14, n14, c14, rfl, o14, b14⟩; have D14 := hide b14; have O14 := hide o14; have HN14 := hide o14.len; clear o14 b14)
                          | (go_at_call 50; refine (Minus_any A n c xs A' n' c' ys _ ((HRC2.out.below HD2.out (Nat.le_refl _)).below D14.out (Nat.le_refl _)) ((HRD2.out.below HD2.out (Nat.le_refl _)).below D14.out (Nat.le_refl _)) (by omega) (by omega)).mono ?_; rintro e w15 ⟨A15, n15, c15, rfl, o15, b15⟩; have D15 := hide b15; have O15 := hide o15; have HN15 := hide o15.len; clear o15 b15)
                          | (go_at_call 56; refine (With_any A n c xs p _ (((HRC2.out.below HD2.out (Nat.le_refl _)).below D14.out (Nat.le_refl _)).below D15.out (Nat.le_refl _)) (by omega)).mono ?_; rw [HWE.out]; rintro e w16 ⟨A16, n16, c16, rfl, o16, b16⟩; have D16 := hide b16; have O16 := hide o16; have HN16 := hide o16.len; clear o16 b16)
                          | (go_at_call_of 22 (Value.slice A16 n16 c16); refine (IsRuler_any A16 n16 c16 (witV p xs) _ O16.out.row (by have h1 := HN16.out; have h2 := HWL.out; omega)).mono ?_; rw [HZC.out, HB1.out]; rintro e w17 ⟨rfl, b17⟩; have D17 := hide b17; clear b17)
                          | (go_at_call_of 22 (Value.slice A n c); refine (IsRuler_any A n c xs _ (((((HRC2.out.below HD2.out (Nat.le_refl _)).below D14.out (Nat.le_refl _)).below D15.out (Nat.le_refl _)).below D16.out (Nat.le_refl _)).below D17.out (Nat.le_refl _)) (by omega)).mono ?_; rw [HEC.out, HB2.out]; rintro e w18 ⟨rfl, b18⟩; have D18 := hide b18; clear b18))
                        go_ret
                        exact ⟨rfl, (le_call (le_call (le_call (le_call (le_call (le_call (le_call (le_call (le_call (le_call HT.out HD.out) D11.out) D12.out) D13.out) HD2.out) D14.out) D15.out) D16.out) D17.out) D18.out)⟩
                      | false =>
                        have HB2 := hide hb2
                        clear hb2
                        go_wp2_with (first
                          | (go_at_call 48; refine (Plus_any A n c xs A' n' c' ys _ (HRC2.out.below HD2.out (Nat.le_refl _)) (HRD2.out.below HD2.out (Nat.le_refl _)) (by omega) (by omega)).mono ?_; rw [HP.out]; rintro e w14 ⟨A14, n14, c14, rfl, o14, b14⟩; have D14 := hide b14; have O14 := hide o14; have HN14 := hide o14.len; clear o14 b14)
                          | (go_at_call 50; refine (Minus_any A n c xs A' n' c' ys _ ((HRC2.out.below HD2.out (Nat.le_refl _)).below D14.out (Nat.le_refl _)) ((HRD2.out.below HD2.out (Nat.le_refl _)).below D14.out (Nat.le_refl _)) (by omega) (by omega)).mono ?_; rintro e w15 ⟨A15, n15, c15, rfl, o15, b15⟩; have D15 := hide b15; have O15 := hide o15; have HN15 := hide o15.len; clear o15 b15)
                          | (go_at_call 56; refine (With_any A n c xs p _ (((HRC2.out.below HD2.out (Nat.le_refl _)).below D14.out (Nat.le_refl _)).below D15.out (Nat.le_refl _)) (by omega)).mono ?_; rw [HWE.out]; rintro e w16 ⟨A16, n16, c16, rfl, o16, b16⟩; have D16 := hide b16; have O16 := hide o16; have HN16 := hide o16.len; clear o16 b16)
                          | (go_at_call_of 22 (Value.slice A16 n16 c16); refine (IsRuler_any A16 n16 c16 (witV p xs) _ O16.out.row (by have h1 := HN16.out; have h2 := HWL.out; omega)).mono ?_; rw [HZC.out, HB1.out]; rintro e w17 ⟨rfl, b17⟩; have D17 := hide b17; clear b17)
                          | (go_at_call_of 22 (Value.slice A n c); refine (IsRuler_any A n c xs _ (((((HRC2.out.below HD2.out (Nat.le_refl _)).below D14.out (Nat.le_refl _)).below D15.out (Nat.le_refl _)).below D16.out (Nat.le_refl _)).below D17.out (Nat.le_refl _)) (by omega)).mono ?_; rw [HEC.out, HB2.out]; rintro e w18 ⟨rfl, b18⟩; have D18 := hide b18; clear b18))
                        go_ret
                        exact ⟨rfl, (le_call (le_call (le_call (le_call (le_call (le_call (le_call (le_call (le_call (le_call HT.out HD.out) D11.out) D12.out) D13.out) HD2.out) D14.out) D15.out) D16.out) D17.out) D18.out)⟩
                  · have hzn : (witE p xs != 0) = true := by simpa using hz
                    have HZV := hide (wit_none HEC.out hz)
                    clear hz
                    go_wp2_with (first
                      | (go_at_call 48; refine (Plus_any A n c xs A' n' c' ys _ (HRC2.out.below HD2.out (Nat.le_refl _)) (HRD2.out.below HD2.out (Nat.le_refl _)) (by omega) (by omega)).mono ?_; rw [HP.out]; rintro e w14 ⟨A14, n14, c14, rfl, o14, b14⟩; have D14 := hide b14; have O14 := hide o14; have HN14 := hide o14.len; clear o14 b14)
                      | (go_at_call 50; refine (Minus_any A n c xs A' n' c' ys _ ((HRC2.out.below HD2.out (Nat.le_refl _)).below D14.out (Nat.le_refl _)) ((HRD2.out.below HD2.out (Nat.le_refl _)).below D14.out (Nat.le_refl _)) (by omega) (by omega)).mono ?_; rintro e w15 ⟨A15, n15, c15, rfl, o15, b15⟩; have D15 := hide b15; have O15 := hide o15; have HN15 := hide o15.len; clear o15 b15)
                      | (go_at_call 56; refine (With_any A n c xs p _ (((HRC2.out.below HD2.out (Nat.le_refl _)).below D14.out (Nat.le_refl _)).below D15.out (Nat.le_refl _)) (by omega)).mono ?_; rintro e w16 ⟨A16, n16, c16, rfl, o16, b16⟩; have D16 := hide b16; have O16 := hide o16; have HN16 := hide o16.len; clear o16 b16))
                    obtain rfl : n16 = 0 := by rw [← HN16.out, HZV.out]; rfl
                    go_ret
                    exact ⟨ret_bool (by simp), (le_call (le_call (le_call (le_call (le_call (le_call (le_call (le_call HT.out HD.out) D11.out) D12.out) D13.out) HD2.out) D14.out) D15.out) D16.out)⟩
              · have hpn : (errS (fun x y => x + y) xs ys == 0) = false := by simpa using hp
                clear hp
                by_cases hz : witE p xs = 0
                · have HWE := hide hz
                  obtain ⟨hzc, hru⟩ := wit_rul hz
                  have HZC := hide hzc
                  have HRU := hide hru
                  clear hz hzc hru
                  have HWL := hide (witV_len p xs)
                  cases hb1 : rulV (witV p xs) with
                  | true =>
                    have HB1 := hide hb1
                    have HB2 := hide (HRU.out hb1)
                    clear hb1
                    go_wp2_with (first
                      | (go_at_call 48; refine (Plus_any A n c xs A' n' c' ys _ (HRC2.out.below HD2.out (Nat.le_refl _)) (HRD2.out.below HD2.out (Nat.le_refl _)) (by omega) (by omega)).mono ?_; rintro e w14 ⟨A14, n14, c14, rfl, o14, b14⟩; have D14 := hide b14; have O14 := hide o14; have HN14 := hide o14.len; clear o14 b14)
                      | (go_at_call 50; refine (Minus_any A n c xs A' n' c' ys _ ((HRC2.out.below HD2.out (Nat.le_refl _)).below D14.out (Nat.le_refl _)) ((HRD2.out.below HD2.out (Nat.le_refl _)).below D14.out (Nat.le_refl _)) (by omega) (by omega)).mono ?_; rintro e w15 ⟨A15, n15, c15, rfl, o15, b15⟩; have D15 := hide b15; have O15 := hide o15; have HN15 := hide o15.len; clear o15 b15)
                      | (go_at_call 56; refine (With_any A n c xs p _ (((HRC2.out.below HD2.out (Nat.le_refl _)).below D14.out (Nat.le_refl _)).below D15.out (Nat.le_refl _)) (by omega)).mono ?_; rw [HWE.out]; rintro e w16 ⟨A16, n16, c16, rfl, o16, b16⟩; have D16 := hide b16; have O16 := hide o16; have HN16 := hide o16.len; clear o16 b16)
                      | (go_at_call_of 22 (Value.slice A16 n16 c16); refine (IsRuler_any A16 n16 c16 (witV p xs) _ O16.out.row (by have h1 := HN16.out; have h2 := HWL.out; omega)).mono ?_; rw [HZC.out, HB1.out]; rintro e w17 ⟨rfl, b17⟩; have D17 := hide b17; clear b17)
                      | (go_at_call_of 22 (Value.slice A n c); refine (IsRuler_any A n c xs _ (((((HRC2.out.below HD2.out (Nat.le_refl _)).below D14.out (Nat.le_refl _)).below D15.out (Nat.le_refl _)).below D16.out (Nat.le_refl _)).below D17.out (Nat.le_refl _)) (by omega)).mono ?_; rw [HEC.out, HB2.out]; rintro e w18 ⟨rfl, b18⟩; have D18 := hide b18; clear b18))
                    go_ret
                    exact ⟨rfl, (le_call (le_call (le_call (le_call (le_call (le_call (le_call (le_call (le_call (le_call HT.out HD.out) D11.out) D12.out) D13.out) HD2.out) D14.out) D15.out) D16.out) D17.out) D18.out)⟩
                  | false =>
                    have HB1 := hide hb1
                    clear hb1
                    cases hb2 : rulV xs with
                    | true =>
                      have HB2 := hide hb2
                      clear hb2
                      go_wp2_with (first
                        | (go_at_call 48; refine (Plus_any A n c xs A' n' c' ys _ (HRC2.out.below HD2.out (Nat.le_refl _)) (HRD2.out.below HD2.out (Nat.le_refl _)) (by omega) (by omega)).mono ?_; rintro e w14 ⟨A14, n14, c14, rfl, o14, b14⟩; have D14 := hide b14; have O14 := hide o14; have HN14 := hide o14.len; clear o14 b14)
                        | (go_at_call 50; refine (Minus_any A n c xs A' n' c' ys _ ((HRC2.out.below HD2.out (Nat.le_refl _)).below D14.out (Nat.le_refl _)) ((HRD2.out.below HD2.out (Nat.le_refl _)).below D14.out (Nat.le_refl _)) (by omega) (by omega)).mono ?_; rintro e w15 ⟨A15, n15, c15, rfl, o15, b15⟩; have D15 := hide b15; have O15 := hide o15; have HN15 := hide o15.len; clear o15 b15)
                        | (go_at_call 56; refine (With_any A n c xs p _ (((HRC2.out.below HD2.out (Nat.le_refl _)).below D14.out (Nat.le_refl _)).below D15.out (Nat.le_refl _)) (by omega)).mono ?_; rw [HWE.out]; rintro e w16 ⟨A16, n16, c16, rfl, o16, b16⟩; have D16 := hide b16; have O16 := hide o16; have HN16 := hide o16.len; clear o16 b16)
                        | (go_at_call_of 22 (Value.slice A16 n16 c16); refine (IsRuler_any A16 n16 c16 (witV p xs) _ O16.out.row (by have h1 := HN16.out; have h2 := HWL.out; omega)).mono ?_; rw [HZC.out, HB1.out]; rintro e w17 ⟨rfl, b17⟩; have D17 := hide b17; clear b17)
                        | (go_at_call_of 22 (Value.slice A n c); refine (IsRuler_any A n c xs _ (((((HRC2.out.below HD2.out (Nat.le_refl _)).below D14.out (Nat.le_refl _)).below D15.out (Nat.le_refl _)).below D16.out (Nat.le_refl _)).below D17.out (Nat.le_refl _)) (by omega)).mono ?_; rw [HEC.out, HB2.out]; rintro e w18 ⟨rfl, b18⟩; have D18 := hide b18; clear b18))
                      go_ret
                      exact ⟨rfl, (le_call (le_call (le_call (le_call (le_call (le_call (le_call (le_call (le_call (le_call HT.out HD.out) D11.out) D12.out) D13.out) HD2.out) D14.out) D15.out) D16.out) D17.out) D18.out)⟩
                    | false =>
                      have HB2 := hide hb2
                      clear hb2
                      go_wp2_with (first
                        | (go_at_call 48; refine (Plus_any A n c xs A' n' c' ys _ (HRC2.out.below HD2.out (Nat.le_refl _)) (HRD2.out.below HD2.out (Nat.le_refl _)) (by omega) (by omega)).mono ?_; rintro e w14 ⟨A14, n14, c14, rfl, o14, b14⟩; have D14 := hide b14; have O14 := hide o14; have HN14 := hide o14.len; clear o14 b14)
                        | (go_at_call 50; refine (Minus_any A n c xs A' n' c' ys _ ((HRC2.out.below HD2.out (Nat.le_refl _)).below D14.out (Nat.le_refl _)) ((HRD2.out.below HD2.out (Nat.le_refl _)).below D14.out (Nat.le_refl _)) (by omega) (by omega)).mono ?_; rintro e w15 ⟨A15, n15, c15, rfl, o15, b15⟩; have D15 := hide b15; have O15 := hide o15; have HN15 := hide o15.len; clear o15 b15)
                        | (go_at_call 56; refine (With_any A n c xs p _ (((HRC2.out.below HD2.out (Nat.le_refl _)).below D14.out (Nat.le_refl _)).below D15.out (Nat.le_refl _)) (by omega)).mono ?_; rw [HWE.out]; rintro e w16 ⟨A16, n16, c16, rfl, o16, b16⟩; have D16 := hide b16; have O16 := hide o16; have HN16 := hide o16.len; clear o16 b16)
                        | (go_at_call_of 22 (Value.slice A16 n16 c16); refine (IsRuler_any A16 n16 c16 (witV p xs) _ O16.out.row (by have h1 := HN16.out; have h2 := HWL.out; omega)).mono ?_; rw [HZC.out, HB1.out]; rintro e w17 ⟨rfl, b17⟩; have D17 := hide b17; clear b17)
                        | (go_at_call_of 22 (Value.slice A n c); refine (IsRuler_any A n c xs _ (((((HRC2.out.below HD2.out (Nat.le_refl _)).below D14.out (Nat.le_refl _)).below D15.out (Nat.le_refl _)).below D16.out (Nat.le_refl _)).below D17.out (Nat.le_refl _)) (by omega)).mono ?_; rw [HEC.out, HB2.out]; rintro e w18 ⟨rfl, b18⟩; have D18 := hide b18; clear b18))
                      go_ret
                      exact ⟨rfl, (le_call (le_call (le_call (le_call (le_call (le_call (le_call (le_call (le_call (le_call HT.out HD.out) D11.out) D12.out) D13.out) HD2.out) D14.out) D15.out) D16.out) D17.out) D18.out)⟩
                · have hzn : (witE p xs != 0) = true := by simpa using hz
                  have HZV := hide (wit_none HEC.out hz)
                  clear hz
                  go_wp2_with (first
                    | (go_at_call 48; refine (Plus_any A n c xs A' n' c' ys _ (HRC2.out.below HD2.out (Nat.le_refl _)) (HRD2.out.below HD2.out (Nat.le_refl _)) (by omega) (by omega)).mono ?_; rintro e w14 ⟨A14, n14, c14, rfl, o14, b14⟩; have D14 := hide b14; have O14 := hide o14; have HN14 := hide o14.len; clear o14 b14)
                    | (go_at_call 50; refine (Minus_any A n c xs A' n' c' ys _ ((HRC2.out.below HD2.out (Nat.le_refl _)).below D14.out (Nat.le_refl _)) ((HRD2.out.below HD2.out (Nat.le_refl _)).below D14.out (Nat.le_refl _)) (by omega) (by omega)).mono ?_; rintro e w15 ⟨A15, n15, c15, rfl, o15, b15⟩; have D15 := hide b15; have O15 := hide o15; have HN15 := hide o15.len; clear o15 b15)
                    | (go_at_call 56; refine (With_any A n c xs p _ (((HRC2.out.below HD2.out (Nat.le_refl _)).below D14.out (Nat.le_refl _)).below D15.out (Nat.le_refl _)) (by omega)).mono ?_; rintro e w16 ⟨A16, n16, c16, rfl, o16, b16⟩; have D16 := hide b16; have O16 := hide o16; have HN16 := hide o16.len; clear o16 b16))
                  obtain rfl : n16 = 0 := by rw [← HN16.out, HZV.out]; rfl
                  go_ret
                  exact ⟨ret_bool (by simp), (le_call (le_call (le_call (le_call (le_call (le_call (le_call (le_call HT.out HD.out) D11.out) D12.out) D13.out) HD2.out) D14.out) D15.out) D16.out)⟩
            | false =>
              by_cases hp : errS (fun x y => x + y) xs ys = 0
              · have HP := hide hp
                by_cases hq : errS (fun x y => x - y) xs ys = 0
                · have HM := hide hq
                  have HH := hide (homes hp hq)
                  clear hp hq
                  by_cases hz : witE p xs = 0
                  · have HWE := hide hz
                    obtain ⟨hzc, hru⟩ := wit_rul hz
                    have HZC := hide hzc
                    have HRU := hide hru
                    clear hz hzc hru
                    have HWL := hide (witV_len p xs)
                    cases hb1 : rulV (witV p xs) with
                    | true =>
                      have HB1 := hide hb1
                      have HB2 := hide (HRU.out hb1)
                      clear hb1
                      go_wp2_with (first
                        | (go_at_call 48; refine (Plus_any A n c xs A' n' c' ys _ (HRC2.out.below HD2.out (Nat.le_refl _)) (HRD2.out.below HD2.out (Nat.le_refl _)) (by omega) (by omega)).mono ?_; rw [HP.out]; rintro e w14 ⟨A14, n14, c14, rfl, o14, b14⟩; have D14 := hide b14; have O14 := hide o14; have HN14 := hide o14.len; clear o14 b14)
                        | (go_at_call 50; refine (Minus_any A n c xs A' n' c' ys _ ((HRC2.out.below HD2.out (Nat.le_refl _)).below D14.out (Nat.le_refl _)) ((HRD2.out.below HD2.out (Nat.le_refl _)).below D14.out (Nat.le_refl _)) (by omega) (by omega)).mono ?_; rw [HM.out]; rintro e w15 ⟨A15, n15, c15, rfl, o15, b15⟩; have D15 := hide b15; have O15 := hide o15; have HN15 := hide o15.len; clear o15 b15)
                        | (go_at_call 29; refine (Same_any A14 n14 c14 (cmbV (fun x y => x + y) xs ys) A15 n15 c15 (cmbV (fun x y => x - y) xs ys) _ (O14.out.row.below D15.out (Nat.le_refl _)) O15.out.row (by have h1 := HN14.out; have h2 := HCP.out; omega) (by have h1 := HN15.out; have h2 := HCM.out; omega)).mono ?_; rw [HH.out.1, HH.out.2.1]; rintro e w16 ⟨rfl, b16⟩; have D16 := hide b16; clear b16)
                        | (go_at_call 56; refine (With_any A n c xs p _ ((((HRC2.out.below HD2.out (Nat.le_refl _)).below D14.out (Nat.le_refl _)).below D15.out (Nat.le_refl _)).below D16.out (Nat.le_refl _)) (by omega)).mono ?_; rw [HWE.out]; rintro e w17 ⟨A17, n17, c17, rfl, o17, b17⟩; have D17 := hide b17; have O17 := hide o17; have HN17 := hide o17.len; clear o17 b17)
                        | (go_at_call_of 22 (Value.slice A17 n17 c17); refine (IsRuler_any A17 n17 c17 (witV p xs) _ O17.out.row (by have h1 := HN17.out; have h2 := HWL.out; omega)).mono ?_; rw [HZC.out, HB1.out]; rintro e w18 ⟨rfl, b18⟩; have D18 := hide b18; clear b18)
                        | (go_at_call_of 22 (Value.slice A n c); refine (IsRuler_any A n c xs _ ((((((HRC2.out.below HD2.out (Nat.le_refl _)).below D14.out (Nat.le_refl _)).below D15.out (Nat.le_refl _)).below D16.out (Nat.le_refl _)).below D17.out (Nat.le_refl _)).below D18.out (Nat.le_refl _)) (by omega)).mono ?_; rw [HEC.out, HB2.out]; rintro e w19 ⟨rfl, b19⟩; have D19 := hide b19; clear b19))
                      go_ret
                      exact ⟨rfl, (le_call (le_call (le_call (le_call (le_call (le_call (le_call (le_call (le_call (le_call (le_call HT.out HD.out) D11.out) D12.out) D13.out) HD2.out) D14.out) D15.out) D16.out) D17.out) D18.out) D19.out)⟩
                    | false =>
                      have HB1 := hide hb1
                      clear hb1
                      cases hb2 : rulV xs with
                      | true =>
                        have HB2 := hide hb2
                        clear hb2
                        go_wp2_with (first
                          | (go_at_call 48; refine (Plus_any A n c xs A' n' c' ys _ (HRC2.out.below HD2.out (Nat.le_refl _)) (HRD2.out.below HD2.out (Nat.le_refl _)) (by omega) (by omega)).mono ?_; rw [HP.out]; rintro e w14 ⟨A14, n14, c14, rfl, o14, b14⟩; have D14 := hide b14; have O14 := hide o14; have HN14 := hide o14.len; clear o14 b14)
                          | (go_at_call 50; refine (Minus_any A n c xs A' n' c' ys _ ((HRC2.out.below HD2.out (Nat.le_refl _)).below D14.out (Nat.le_refl _)) ((HRD2.out.below HD2.out (Nat.le_refl _)).below D14.out (Nat.le_refl _)) (by omega) (by omega)).mono ?_; rw [HM.out]; rintro e w15 ⟨A15, n15, c15, rfl, o15, b15⟩; have D15 := hide b15; have O15 := hide o15; have HN15 := hide o15.len; clear o15 b15)
                          | (go_at_call 29; refine (Same_any A14 n14 c14 (cmbV (fun x y => x + y) xs ys) A15 n15 c15 (cmbV (fun x y => x - y) xs ys) _ (O14.out.row.below D15.out (Nat.le_refl _)) O15.out.row (by have h1 := HN14.out; have h2 := HCP.out; omega) (by have h1 := HN15.out; have h2 := HCM.out; omega)).mono ?_; rw [HH.out.1, HH.out.2.1]; rintro e w16 ⟨rfl, b16⟩; have D16 := hide b16; clear b16)
                          | (go_at_call 56; refine (With_any A n c xs p _ ((((HRC2.out.below HD2.out (Nat.le_refl _)).below D14.out (Nat.le_refl _)).below D15.out (Nat.le_refl _)).below D16.out (Nat.le_refl _)) (by omega)).mono ?_; rw [HWE.out]; rintro e w17 ⟨A17, n17, c17, rfl, o17, b17⟩; have D17 := hide b17; have O17 := hide o17; have HN17 := hide o17.len; clear o17 b17)
                          | (go_at_call_of 22 (Value.slice A17 n17 c17); refine (IsRuler_any A17 n17 c17 (witV p xs) _ O17.out.row (by have h1 := HN17.out; have h2 := HWL.out; omega)).mono ?_; rw [HZC.out, HB1.out]; rintro e w18 ⟨rfl, b18⟩; have D18 := hide b18; clear b18)
                          | (go_at_call_of 22 (Value.slice A n c); refine (IsRuler_any A n c xs _ ((((((HRC2.out.below HD2.out (Nat.le_refl _)).below D14.out (Nat.le_refl _)).below D15.out (Nat.le_refl _)).below D16.out (Nat.le_refl _)).below D17.out (Nat.le_refl _)).below D18.out (Nat.le_refl _)) (by omega)).mono ?_; rw [HEC.out, HB2.out]; rintro e w19 ⟨rfl, b19⟩; have D19 := hide b19; clear b19))
                        go_ret
                        exact ⟨rfl, (le_call (le_call (le_call (le_call (le_call (le_call (le_call (le_call (le_call (le_call (le_call HT.out HD.out) D11.out) D12.out) D13.out) HD2.out) D14.out) D15.out) D16.out) D17.out) D18.out) D19.out)⟩
                      | false =>
                        have HB2 := hide hb2
                        clear hb2
                        go_wp2_with (first
                          | (go_at_call 48; refine (Plus_any A n c xs A' n' c' ys _ (HRC2.out.below HD2.out (Nat.le_refl _)) (HRD2.out.below HD2.out (Nat.le_refl _)) (by omega) (by omega)).mono ?_; rw [HP.out]; rintro e w14 ⟨A14, n14, c14, rfl, o14, b14⟩; have D14 := hide b14; have O14 := hide o14; have HN14 := hide o14.len; clear o14 b14)
                          | (go_at_call 50; refine (Minus_any A n c xs A' n' c' ys _ ((HRC2.out.below HD2.out (Nat.le_refl _)).below D14.out (Nat.le_refl _)) ((HRD2.out.below HD2.out (Nat.le_refl _)).below D14.out (Nat.le_refl _)) (by omega) (by omega)).mono ?_; rw [HM.out]; rintro e w15 ⟨A15, n15, c15, rfl, o15, b15⟩; have D15 := hide b15; have O15 := hide o15; have HN15 := hide o15.len; clear o15 b15)
                          | (go_at_call 29; refine (Same_any A14 n14 c14 (cmbV (fun x y => x + y) xs ys) A15 n15 c15 (cmbV (fun x y => x - y) xs ys) _ (O14.out.row.below D15.out (Nat.le_refl _)) O15.out.row (by have h1 := HN14.out; have h2 := HCP.out; omega) (by have h1 := HN15.out; have h2 := HCM.out; omega)).mono ?_; rw [HH.out.1, HH.out.2.1]; rintro e w16 ⟨rfl, b16⟩; have D16 := hide b16; clear b16)
                          | (go_at_call 56; refine (With_any A n c xs p _ ((((HRC2.out.below HD2.out (Nat.le_refl _)).below D14.out (Nat.le_refl _)).below D15.out (Nat.le_refl _)).below D16.out (Nat.le_refl _)) (by omega)).mono ?_; rw [HWE.out]; rintro e w17 ⟨A17, n17, c17, rfl, o17, b17⟩; have D17 := hide b17; have O17 := hide o17; have HN17 := hide o17.len; clear o17 b17)
                          | (go_at_call_of 22 (Value.slice A17 n17 c17); refine (IsRuler_any A17 n17 c17 (witV p xs) _ O17.out.row (by have h1 := HN17.out; have h2 := HWL.out; omega)).mono ?_; rw [HZC.out, HB1.out]; rintro e w18 ⟨rfl, b18⟩; have D18 := hide b18; clear b18)
                          | (go_at_call_of 22 (Value.slice A n c); refine (IsRuler_any A n c xs _ ((((((HRC2.out.below HD2.out (Nat.le_refl _)).below D14.out (Nat.le_refl _)).below D15.out (Nat.le_refl _)).below D16.out (Nat.le_refl _)).below D17.out (Nat.le_refl _)).below D18.out (Nat.le_refl _)) (by omega)).mono ?_; rw [HEC.out, HB2.out]; rintro e w19 ⟨rfl, b19⟩; have D19 := hide b19; clear b19))
                        go_ret
                        exact ⟨rfl, (le_call (le_call (le_call (le_call (le_call (le_call (le_call (le_call (le_call (le_call (le_call HT.out HD.out) D11.out) D12.out) D13.out) HD2.out) D14.out) D15.out) D16.out) D17.out) D18.out) D19.out)⟩
                  · have hzn : (witE p xs != 0) = true := by simpa using hz
                    have HZV := hide (wit_none HEC.out hz)
                    clear hz
                    go_wp2_with (first
                      | (go_at_call 48; refine (Plus_any A n c xs A' n' c' ys _ (HRC2.out.below HD2.out (Nat.le_refl _)) (HRD2.out.below HD2.out (Nat.le_refl _)) (by omega) (by omega)).mono ?_; rw [HP.out]; rintro e w14 ⟨A14, n14, c14, rfl, o14, b14⟩; have D14 := hide b14; have O14 := hide o14; have HN14 := hide o14.len; clear o14 b14)
                      | (go_at_call 50; refine (Minus_any A n c xs A' n' c' ys _ ((HRC2.out.below HD2.out (Nat.le_refl _)).below D14.out (Nat.le_refl _)) ((HRD2.out.below HD2.out (Nat.le_refl _)).below D14.out (Nat.le_refl _)) (by omega) (by omega)).mono ?_; rw [HM.out]; rintro e w15 ⟨A15, n15, c15, rfl, o15, b15⟩; have D15 := hide b15; have O15 := hide o15; have HN15 := hide o15.len; clear o15 b15)
                      | (go_at_call 29; refine (Same_any A14 n14 c14 (cmbV (fun x y => x + y) xs ys) A15 n15 c15 (cmbV (fun x y => x - y) xs ys) _ (O14.out.row.below D15.out (Nat.le_refl _)) O15.out.row (by have h1 := HN14.out; have h2 := HCP.out; omega) (by have h1 := HN15.out; have h2 := HCM.out; omega)).mono ?_; rw [HH.out.1, HH.out.2.1]; rintro e w16 ⟨rfl, b16⟩; have D16 := hide b16; clear b16)
                      | (go_at_call 56; refine (With_any A n c xs p _ ((((HRC2.out.below HD2.out (Nat.le_refl _)).below D14.out (Nat.le_refl _)).below D15.out (Nat.le_refl _)).below D16.out (Nat.le_refl _)) (by omega)).mono ?_; rintro e w17 ⟨A17, n17, c17, rfl, o17, b17⟩; have D17 := hide b17; have O17 := hide o17; have HN17 := hide o17.len; clear o17 b17))
                    obtain rfl : n17 = 0 := by rw [← HN17.out, HZV.out]; rfl
                    go_ret
                    exact ⟨ret_bool (by simp), (le_call (le_call (le_call (le_call (le_call (le_call (le_call (le_call (le_call HT.out HD.out) D11.out) D12.out) D13.out) HD2.out) D14.out) D15.out) D16.out) D17.out)⟩
                · have hqn : (errS (fun x y => x - y) xs ys == 0) = false := by simpa using hq
                  clear hp hq
                  by_cases hz : witE p xs = 0
                  · have HWE := hide hz
                    obtain ⟨hzc, hru⟩ := wit_rul hz
                    have HZC := hide hzc
                    have HRU := hide hru
                    clear hz hzc hru
                    have HWL := hide (witV_len p xs)
                    cases hb1 : rulV (witV p xs) with
                    | true =>
                      have HB1 := hide hb1
                      have HB2 := hide (HRU.out hb1)
                      clear hb1
                      go_wp2_with (first
                        | (go_at_call 48; refine (Plus_any A n c xs A' n' c' ys _ (HRC2.out.below HD2.out (Nat.le_refl _)) (HRD2.out.below HD2.out (Nat.le_refl _)) (by omega) (by omega)).mono ?_; rw [HP.out]; rintro e w14 ⟨A14, n14, c14, rfl, o14, b14⟩; have D14 := hide b14; have O14 := hide o14; have HN14 := hide o14.len; clear o14 b14)
                        | (go_at_call 50; refine (Minus_any A n c xs A' n' c' ys _ ((HRC2.out.below HD2.out (Nat.le_refl _)).below D14.out (Nat.le_refl _)) ((HRD2.out.below HD2.out (Nat.le_refl _)).below D14.out (Nat.le_refl _)) (by omega) (by omega)).mono ?_; rintro e w15 ⟨A15, n15, c15, rfl, o15, b15⟩; have D15 := hide b15; have O15 := hide o15; have HN15 := hide o15.len; clear o15 b15)
                        | (go_at_call 56; refine (With_any A n c xs p _ (((HRC2.out.below HD2.out (Nat.le_refl _)).below D14.out (Nat.le_refl _)).below D15.out (Nat.le_refl _)) (by omega)).mono ?_; rw [HWE.out]; rintro e w16 ⟨A16, n16, c16, rfl, o16, b16⟩; have D16 := hide b16; have O16 := hide o16; have HN16 := hide o16.len; clear o16 b16)
                        | (go_at_call_of 22 (Value.slice A16 n16 c16); refine (IsRuler_any A16 n16 c16 (witV p xs) _ O16.out.row (by have h1 := HN16.out; have h2 := HWL.out; omega)).mono ?_; rw [HZC.out, HB1.out]; rintro e w17 ⟨rfl, b17⟩; have D17 := hide b17; clear b17)
                        | (go_at_call_of 22 (Value.slice A n c); refine (IsRuler_any A n c xs _ (((((HRC2.out.below HD2.out (Nat.le_refl _)).below D14.out (Nat.le_refl _)).below D15.out (Nat.le_refl _)).below D16.out (Nat.le_refl _)).below D17.out (Nat.le_refl _)) (by omega)).mono ?_; rw [HEC.out, HB2.out]; rintro e w18 ⟨rfl, b18⟩; have D18 := hide b18; clear b18))
                      go_ret
                      exact ⟨rfl, (le_call (le_call (le_call (le_call (le_call (le_call (le_call (le_call (le_call (le_call HT.out HD.out) D11.out) D12.out) D13.out) HD2.out) D14.out) D15.out) D16.out) D17.out) D18.out)⟩
                    | false =>
                      have HB1 := hide hb1
                      clear hb1
                      cases hb2 : rulV xs with
                      | true =>
                        have HB2 := hide hb2
                        clear hb2
                        go_wp2_with (first
                          | (go_at_call 48; refine (Plus_any A n c xs A' n' c' ys _ (HRC2.out.below HD2.out (Nat.le_refl _)) (HRD2.out.below HD2.out (Nat.le_refl _)) (by omega) (by omega)).mono ?_; rw [HP.out]; rintro e w14 ⟨A14, n14, c14, rfl, o14, b14⟩; have D14 := hide b14; have O14 := hide o14; have HN14 := hide o14.len; clear o14 b14)
                          | (go_at_call 50; refine (Minus_any A n c xs A' n' c' ys _ ((HRC2.out.below HD2.out (Nat.le_refl _)).below D14.out (Nat.le_refl _)) ((HRD2.out.below HD2.out (Nat.le_refl _)).below D14.out (Nat.le_refl _)) (by omega) (by omega)).mono ?_; rintro e w15 ⟨A15, n15, c15, rfl, o15, b15⟩; have D15 := hide b15; have O15 := hide o15; have HN15 := hide o15.len; clear o15 b15)
                          | (go_at_call 56; refine (With_any A n c xs p _ (((HRC2.out.below HD2.out (Nat.le_refl _)).below D14.out (Nat.le_refl _)).below D15.out (Nat.le_refl _)) (by omega)).mono ?_; rw [HWE.out]; rintro e w16 ⟨A16, n16, c16, rfl, o16, b16⟩; have D16 := hide b16; have O16 := hide o16; have HN16 := hide o16.len; clear o16 b16)
                          | (go_at_call_of 22 (Value.slice A16 n16 c16); refine (IsRuler_any A16 n16 c16 (witV p xs) _ O16.out.row (by have h1 := HN16.out; have h2 := HWL.out; omega)).mono ?_; rw [HZC.out, HB1.out]; rintro e w17 ⟨rfl, b17⟩; have D17 := hide b17; clear b17)
                          | (go_at_call_of 22 (Value.slice A n c); refine (IsRuler_any A n c xs _ (((((HRC2.out.below HD2.out (Nat.le_refl _)).below D14.out (Nat.le_refl _)).below D15.out (Nat.le_refl _)).below D16.out (Nat.le_refl _)).below D17.out (Nat.le_refl _)) (by omega)).mono ?_; rw [HEC.out, HB2.out]; rintro e w18 ⟨rfl, b18⟩; have D18 := hide b18; clear b18))
                        go_ret
                        exact ⟨rfl, (le_call (le_call (le_call (le_call (le_call (le_call (le_call (le_call (le_call (le_call HT.out HD.out) D11.out) D12.out) D13.out) HD2.out) D14.out) D15.out) D16.out) D17.out) D18.out)⟩
                      | false =>
                        have HB2 := hide hb2
                        clear hb2
                        go_wp2_with (first
                          | (go_at_call 48; refine (Plus_any A n c xs A' n' c' ys _ (HRC2.out.below HD2.out (Nat.le_refl _)) (HRD2.out.below HD2.out (Nat.le_refl _)) (by omega) (by omega)).mono ?_; rw [HP.out]; rintro e w14 ⟨A14, n14, c14, rfl, o14, b14⟩; have D14 := hide b14; have O14 := hide o14; have HN14 := hide o14.len; clear o14 b14)
                          | (go_at_call 50; refine (Minus_any A n c xs A' n' c' ys _ ((HRC2.out.below HD2.out (Nat.le_refl _)).below D14.out (Nat.le_refl _)) ((HRD2.out.below HD2.out (Nat.le_refl _)).below D14.out (Nat.le_refl _)) (by omega) (by omega)).mono ?_; rintro e w15 ⟨A15, n15, c15, rfl, o15, b15⟩; have D15 := hide b15; have O15 := hide o15; have HN15 := hide o15.len; clear o15 b15)
                          | (go_at_call 56; refine (With_any A n c xs p _ (((HRC2.out.below HD2.out (Nat.le_refl _)).below D14.out (Nat.le_refl _)).below D15.out (Nat.le_refl _)) (by omega)).mono ?_; rw [HWE.out]; rintro e w16 ⟨A16, n16, c16, rfl, o16, b16⟩; have D16 := hide b16; have O16 := hide o16; have HN16 := hide o16.len; clear o16 b16)
                          | (go_at_call_of 22 (Value.slice A16 n16 c16); refine (IsRuler_any A16 n16 c16 (witV p xs) _ O16.out.row (by have h1 := HN16.out; have h2 := HWL.out; omega)).mono ?_; rw [HZC.out, HB1.out]; rintro e w17 ⟨rfl, b17⟩; have D17 := hide b17; clear b17)
                          | (go_at_call_of 22 (Value.slice A n c); refine (IsRuler_any A n c xs _ (((((HRC2.out.below HD2.out (Nat.le_refl _)).below D14.out (Nat.le_refl _)).below D15.out (Nat.le_refl _)).below D16.out (Nat.le_refl _)).below D17.out (Nat.le_refl _)) (by omega)).mono ?_; rw [HEC.out, HB2.out]; rintro e w18 ⟨rfl, b18⟩; have D18 := hide b18; clear b18))
                        go_ret
                        exact ⟨rfl, (le_call (le_call (le_call (le_call (le_call (le_call (le_call (le_call (le_call (le_call HT.out HD.out) D11.out) D12.out) D13.out) HD2.out) D14.out) D15.out) D16.out) D17.out) D18.out)⟩
                  · have hzn : (witE p xs != 0) = true := by simpa using hz
                    have HZV := hide (wit_none HEC.out hz)
                    clear hz
                    go_wp2_with (first
                      | (go_at_call 48; refine (Plus_any A n c xs A' n' c' ys _ (HRC2.out.below HD2.out (Nat.le_refl _)) (HRD2.out.below HD2.out (Nat.le_refl _)) (by omega) (by omega)).mono ?_; rw [HP.out]; rintro e w14 ⟨A14, n14, c14, rfl, o14, b14⟩; have D14 := hide b14; have O14 := hide o14; have HN14 := hide o14.len; clear o14 b14)
                      | (go_at_call 50; refine (Minus_any A n c xs A' n' c' ys _ ((HRC2.out.below HD2.out (Nat.le_refl _)).below D14.out (Nat.le_refl _)) ((HRD2.out.below HD2.out (Nat.le_refl _)).below D14.out (Nat.le_refl _)) (by omega) (by omega)).mono ?_; rintro e w15 ⟨A15, n15, c15, rfl, o15, b15⟩; have D15 := hide b15; have O15 := hide o15; have HN15 := hide o15.len; clear o15 b15)
                      | (go_at_call 56; refine (With_any A n c xs p _ (((HRC2.out.below HD2.out (Nat.le_refl _)).below D14.out (Nat.le_refl _)).below D15.out (Nat.le_refl _)) (by omega)).mono ?_; rintro e w16 ⟨A16, n16, c16, rfl, o16, b16⟩; have D16 := hide b16; have O16 := hide o16; have HN16 := hide o16.len; clear o16 b16))
                    obtain rfl : n16 = 0 := by rw [← HN16.out, HZV.out]; rfl
                    go_ret
                    exact ⟨ret_bool (by simp), (le_call (le_call (le_call (le_call (le_call (le_call (le_call (le_call HT.out HD.out) D11.out) D12.out) D13.out) HD2.out) D14.out) D15.out) D16.out)⟩
              · have hpn : (errS (fun x y => x + y) xs ys == 0) = false := by simpa using hp
                clear hp
                by_cases hz : witE p xs = 0
                · have HWE := hide hz
                  obtain ⟨hzc, hru⟩ := wit_rul hz
                  have HZC := hide hzc
                  have HRU := hide hru
                  clear hz hzc hru
                  have HWL := hide (witV_len p xs)
                  cases hb1 : rulV (witV p xs) with
                  | true =>
                    have HB1 := hide hb1
                    have HB2 := hide (HRU.out hb1)
                    clear hb1
                    go_wp2_with (first
                      | (go_at_call 48; refine (Plus_any A n c xs A' n' c' ys _ (HRC2.out.below HD2.out (Nat.le_refl _)) (HRD2.out.below HD2.out (Nat.le_refl _)) (by omega) (by omega)).mono ?_; rintro e w14 ⟨A14, n14, c14, rfl, o14, b14⟩; have D14 := hide b14; have O14 := hide o14; have HN14 := hide o14.len; clear o14 b14)
                      | (go_at_call 50; refine (Minus_any A n c xs A' n' c' ys _ ((HRC2.out.below HD2.out (Nat.le_refl _)).below D14.out (Nat.le_refl _)) ((HRD2.out.below HD2.out (Nat.le_refl _)).below D14.out (Nat.le_refl _)) (by omega) (by omega)).mono ?_; rintro e w15 ⟨A15, n15, c15, rfl, o15, b15⟩; have D15 := hide b15; have O15 := hide o15; have HN15 := hide o15.len; clear o15 b15)
                      | (go_at_call 56; refine (With_any A n c xs p _ (((HRC2.out.below HD2.out (Nat.le_refl _)).below D14.out (Nat.le_refl _)).below D15.out (Nat.le_refl _)) (by omega)).mono ?_; rw [HWE.out]; rintro e w16 ⟨A16, n16, c16, rfl, o16, b16⟩; have D16 := hide b16; have O16 := hide o16; have HN16 := hide o16.len; clear o16 b16)
                      | (go_at_call_of 22 (Value.slice A16 n16 c16); refine (IsRuler_any A16 n16 c16 (witV p xs) _ O16.out.row (by have h1 := HN16.out; have h2 := HWL.out; omega)).mono ?_; rw [HZC.out, HB1.out]; rintro e w17 ⟨rfl, b17⟩; have D17 := hide b17; clear b17)
                      | (go_at_call_of 22 (Value.slice A n c); refine (IsRuler_any A n c xs _ (((((HRC2.out.below HD2.out (Nat.le_refl _)).below D14.out (Nat.le_refl _)).below D15.out (Nat.le_refl _)).below D16.out (Nat.le_refl _)).below D17.out (Nat.le_refl _)) (by omega)).mono ?_; rw [HEC.out, HB2.out]; rintro e w18 ⟨rfl, b18⟩; have D18 := hide b18; clear b18))
                    go_ret
                    exact ⟨rfl, (le_call (le_call (le_call (le_call (le_call (le_call (le_call (le_call (le_call (le_call HT.out HD.out) D11.out) D12.out) D13.out) HD2.out) D14.out) D15.out) D16.out) D17.out) D18.out)⟩
                  | false =>
                    have HB1 := hide hb1
                    clear hb1
                    cases hb2 : rulV xs with
                    | true =>
                      have HB2 := hide hb2
                      clear hb2
                      go_wp2_with (first
                        | (go_at_call 48; refine (Plus_any A n c xs A' n' c' ys _ (HRC2.out.below HD2.out (Nat.le_refl _)) (HRD2.out.below HD2.out (Nat.le_refl _)) (by omega) (by omega)).mono ?_; rintro e w14 ⟨A14, n14, c14, rfl, o14, b14⟩; have D14 := hide b14; have O14 := hide o14; have HN14 := hide o14.len; clear o14 b14)
                        | (go_at_call 50; refine (Minus_any A n c xs A' n' c' ys _ ((HRC2.out.below HD2.out (Nat.le_refl _)).below D14.out (Nat.le_refl _)) ((HRD2.out.below HD2.out (Nat.le_refl _)).below D14.out (Nat.le_refl _)) (by omega) (by omega)).mono ?_; rintro e w15 ⟨A15, n15, c15, rfl, o15, b15⟩; have D15 := hide b15; have O15 := hide o15; have HN15 := hide o15.len; clear o15 b15)
                        | (go_at_call 56; refine (With_any A n c xs p _ (((HRC2.out.below HD2.out (Nat.le_refl _)).below D14.out (Nat.le_refl _)).below D15.out (Nat.le_refl _)) (by omega)).mono ?_; rw [HWE.out]; rintro e w16 ⟨A16, n16, c16, rfl, o16, b16⟩; have D16 := hide b16; have O16 := hide o16; have HN16 := hide o16.len; clear o16 b16)
                        | (go_at_call_of 22 (Value.slice A16 n16 c16); refine (IsRuler_any A16 n16 c16 (witV p xs) _ O16.out.row (by have h1 := HN16.out; have h2 := HWL.out; omega)).mono ?_; rw [HZC.out, HB1.out]; rintro e w17 ⟨rfl, b17⟩; have D17 := hide b17; clear b17)
                        | (go_at_call_of 22 (Value.slice A n c); refine (IsRuler_any A n c xs _ (((((HRC2.out.below HD2.out (Nat.le_refl _)).below D14.out (Nat.le_refl _)).below D15.out (Nat.le_refl _)).below D16.out (Nat.le_refl _)).below D17.out (Nat.le_refl _)) (by omega)).mono ?_; rw [HEC.out, HB2.out]; rintro e w18 ⟨rfl, b18⟩; have D18 := hide b18; clear b18))
                      go_ret
                      exact ⟨rfl, (le_call (le_call (le_call (le_call (le_call (le_call (le_call (le_call (le_call (le_call HT.out HD.out) D11.out) D12.out) D13.out) HD2.out) D14.out) D15.out) D16.out) D17.out) D18.out)⟩
                    | false =>
                      have HB2 := hide hb2
                      clear hb2
                      go_wp2_with (first
                        | (go_at_call 48; refine (Plus_any A n c xs A' n' c' ys _ (HRC2.out.below HD2.out (Nat.le_refl _)) (HRD2.out.below HD2.out (Nat.le_refl _)) (by omega) (by omega)).mono ?_; rintro e w14 ⟨A14, n14, c14, rfl, o14, b14⟩; have D14 := hide b14; have O14 := hide o14; have HN14 := hide o14.len; clear o14 b14)
                        | (go_at_call 50; refine (Minus_any A n c xs A' n' c' ys _ ((HRC2.out.below HD2.out (Nat.le_refl _)).below D14.out (Nat.le_refl _)) ((HRD2.out.below HD2.out (Nat.le_refl _)).below D14.out (Nat.le_refl _)) (by omega) (by omega)).mono ?_; rintro e w15 ⟨A15, n15, c15, rfl, o15, b15⟩; have D15 := hide b15; have O15 := hide o15; have HN15 := hide o15.len; clear o15 b15)
                        | (go_at_call 56; refine (With_any A n c xs p _ (((HRC2.out.below HD2.out (Nat.le_refl _)).below D14.out (Nat.le_refl _)).below D15.out (Nat.le_refl _)) (by omega)).mono ?_; rw [HWE.out]; rintro e w16 ⟨A16, n16, c16, rfl, o16, b16⟩; have D16 := hide b16; have O16 := hide o16; have HN16 := hide o16.len; clear o16 b16)
                        | (go_at_call_of 22 (Value.slice A16 n16 c16); refine (IsRuler_any A16 n16 c16 (witV p xs) _ O16.out.row (by have h1 := HN16.out; have h2 := HWL.out; omega)).mono ?_; rw [HZC.out, HB1.out]; rintro e w17 ⟨rfl, b17⟩; have D17 := hide b17; clear b17)
                        | (go_at_call_of 22 (Value.slice A n c); refine (IsRuler_any A n c xs _ (((((HRC2.out.below HD2.out (Nat.le_refl _)).below D14.out (Nat.le_refl _)).below D15.out (Nat.le_refl _)).below D16.out (Nat.le_refl _)).below D17.out (Nat.le_refl _)) (by omega)).mono ?_; rw [HEC.out, HB2.out]; rintro e w18 ⟨rfl, b18⟩; have D18 := hide b18; clear b18))
                      go_ret
                      exact ⟨rfl, (le_call (le_call (le_call (le_call (le_call (le_call (le_call (le_call (le_call (le_call HT.out HD.out) D11.out) D12.out) D13.out) HD2.out) D14.out) D15.out) D16.out) D17.out) D18.out)⟩
                · have hzn : (witE p xs != 0) = true := by simpa using hz
                  have HZV := hide (wit_none HEC.out hz)
                  clear hz
                  go_wp2_with (first
                    | (go_at_call 48; refine (Plus_any A n c xs A' n' c' ys _ (HRC2.out.below HD2.out (Nat.le_refl _)) (HRD2.out.below HD2.out (Nat.le_refl _)) (by omega) (by omega)).mono ?_; rintro e w14 ⟨A14, n14, c14, rfl, o14, b14⟩; have D14 := hide b14; have O14 := hide o14; have HN14 := hide o14.len; clear o14 b14)
                    | (go_at_call 50; refine (Minus_any A n c xs A' n' c' ys _ ((HRC2.out.below HD2.out (Nat.le_refl _)).below D14.out (Nat.le_refl _)) ((HRD2.out.below HD2.out (Nat.le_refl _)).below D14.out (Nat.le_refl _)) (by omega) (by omega)).mono ?_; rintro e w15 ⟨A15, n15, c15, rfl, o15, b15⟩; have D15 := hide b15; have O15 := hide o15; have HN15 := hide o15.len; clear o15 b15)
                    | (go_at_call 56; refine (With_any A n c xs p _ (((HRC2.out.below HD2.out (Nat.le_refl _)).below D14.out (Nat.le_refl _)).below D15.out (Nat.le_refl _)) (by omega)).mono ?_; rintro e w16 ⟨A16, n16, c16, rfl, o16, b16⟩; have D16 := hide b16; have O16 := hide o16; have HN16 := hide o16.len; clear o16 b16))
                  obtain rfl : n16 = 0 := by rw [← HN16.out, HZV.out]; rfl
                  go_ret
                  exact ⟨ret_bool (by simp), (le_call (le_call (le_call (le_call (le_call (le_call (le_call (le_call HT.out HD.out) D11.out) D12.out) D13.out) HD2.out) D14.out) D15.out) D16.out)⟩
      · have hye : (errC ys == 0) = false := by simpa using hy
        clear hy
        by_cases hz : witE p xs = 0
        · have HWE := hide hz
          obtain ⟨hzc, hru⟩ := wit_rul hz
          have HZC := hide hzc
          have HRU := hide hru
          clear hz hzc hru
          have HWL := hide (witV_len p xs)
          cases hb1 : rulV (witV p xs) with
          | true =>
            have HB1 := hide hb1
            have HB2 := hide (HRU.out hb1)
            clear hb1
            go_wp2_with (first
              | (go_at_call 24; refine (Validate_any A' n' c' ys _ (HRD.out.below HD.out (Nat.le_refl _)) (by omega)).mono ?_; rintro e w11 ⟨rfl, b11⟩; have D11 := hide b11; clear b11)
              | (go_at_call 56; refine (With_any A n c xs p _ ((HRC.out.below HD.out (Nat.le_refl _)).below D11.out (Nat.le_refl _)) (by omega)).mono ?_; rw [HWE.out]; rintro e w12 ⟨A12, n12, c12, rfl, o12, b12⟩; have D12 := hide b12; have O12 := hide o12; have HN12 := hide o12.len; clear o12 b12)
              | (go_at_call_of 22 (Value.slice A12 n12 c12); refine (IsRuler_any A12 n12 c12 (witV p xs) _ O12.out.row (by have h1 := HN12.out; have h2 := HWL.out; omega)).mono ?_; rw [HZC.out, HB1.out]; rintro e w13 ⟨rfl, b13⟩; have D13 := hide b13; clear b13)
              | (go_at_call_of 22 (Value.slice A n c); refine (IsRuler_any A n c xs _ ((((HRC.out.below HD.out (Nat.le_refl _)).below D11.out (Nat.le_refl _)).below D12.out (Nat.le_refl _)).below D13.out (Nat.le_refl _)) (by omega)).mono ?_; rw [HEC.out, HB2.out]; rintro e w14 ⟨rfl, b14⟩; have D14 := hide b14; clear b14))
            go_ret
            exact ⟨rfl, (le_call (le_call (le_call (le_call (le_call HT.out HD.out) D11.out) D12.out) D13.out) D14.out)⟩
          | false =>
            have HB1 := hide hb1
            clear hb1
            cases hb2 : rulV xs with
            | true =>
              have HB2 := hide hb2
              clear hb2
              go_wp2_with (first
                | (go_at_call 24; refine (Validate_any A' n' c' ys _ (HRD.out.below HD.out (Nat.le_refl _)) (by omega)).mono ?_; rintro e w11 ⟨rfl, b11⟩; have D11 := hide b11; clear b11)
                | (go_at_call 56; refine (With_any A n c xs p _ ((HRC.out.below HD.out (Nat.le_refl _)).below D11.out (Nat.le_refl _)) (by omega)).mono ?_; rw [HWE.out]; rintro e w12 ⟨A12, n12, c12, rfl, o12, b12⟩; have D12 := hide b12; have O12 := hide o12; have HN12 := hide o12.len; clear o12 b12)
                | (go_at_call_of 22 (Value.slice A12 n12 c12); refine (IsRuler_any A12 n12 c12 (witV p xs) _ O12.out.row (by have h1 := HN12.out; have h2 := HWL.out; omega)).mono ?_; rw [HZC.out, HB1.out]; rintro e w13 ⟨rfl, b13⟩; have D13 := hide b13; clear b13)
                | (go_at_call_of 22 (Value.slice A n c); refine (IsRuler_any A n c xs _ ((((HRC.out.below HD.out (Nat.le_refl _)).below D11.out (Nat.le_refl _)).below D12.out (Nat.le_refl _)).below D13.out (Nat.le_refl _)) (by omega)).mono ?_; rw [HEC.out, HB2.out]; rintro e w14 ⟨rfl, b14⟩; have D14 := hide b14; clear b14))
              go_ret
              exact ⟨rfl, (le_call (le_call (le_call (le_call (le_call HT.out HD.out) D11.out) D12.out) D13.out) D14.out)⟩
            | false =>
              have HB2 := hide hb2
              clear hb2
              go_wp2_with (first
                | (go_at_call 24; refine (Validate_any A' n' c' ys _ (HRD.out.below HD.out (Nat.le_refl _)) (by omega)).mono ?_; rintro e w11 ⟨rfl, b11⟩; have D11 := hide b11; clear b11)
                | (go_at_call 56; refine (With_any A n c xs p _ ((HRC.out.below HD.out (Nat.le_refl _)).below D11.out (Nat.le_refl _)) (by omega)).mono ?_; rw [HWE.out]; rintro e w12 ⟨A12, n12, c12, rfl, o12, b12⟩; have D12 := hide b12; have O12 := hide o12; have HN12 := hide o12.len; clear o12 b12)
                | (go_at_call_of 22 (Value.slice A12 n12 c12); refine (IsRuler_any A12 n12 c12 (witV p xs) _ O12.out.row (by have h1 := HN12.out; have h2 := HWL.out; omega)).mono ?_; rw [HZC.out, HB1.out]; rintro e w13 ⟨rfl, b13⟩; have D13 := hide b13; clear b13)
                | (go_at_call_of 22 (Value.slice A n c); refine (IsRuler_any A n c xs _ ((((HRC.out.below HD.out (Nat.le_refl _)).below D11.out (Nat.le_refl _)).below D12.out (Nat.le_refl _)).below D13.out (Nat.le_refl _)) (by omega)).mono ?_; rw [HEC.out, HB2.out]; rintro e w14 ⟨rfl, b14⟩; have D14 := hide b14; clear b14))
              go_ret
              exact ⟨rfl, (le_call (le_call (le_call (le_call (le_call HT.out HD.out) D11.out) D12.out) D13.out) D14.out)⟩
        · have hzn : (witE p xs != 0) = true := by simpa using hz
          have HZV := hide (wit_none HEC.out hz)
          clear hz
          go_wp2_with (first
            | (go_at_call 24; refine (Validate_any A' n' c' ys _ (HRD.out.below HD.out (Nat.le_refl _)) (by omega)).mono ?_; rintro e w11 ⟨rfl, b11⟩; have D11 := hide b11; clear b11)
            | (go_at_call 56; refine (With_any A n c xs p _ ((HRC.out.below HD.out (Nat.le_refl _)).below D11.out (Nat.le_refl _)) (by omega)).mono ?_; rintro e w12 ⟨A12, n12, c12, rfl, o12, b12⟩; have D12 := hide b12; have O12 := hide o12; have HN12 := hide o12.len; clear o12 b12))
          obtain rfl : n12 = 0 := by rw [← HN12.out, HZV.out]; rfl
          go_ret
          exact ⟨ret_bool (by simp), (le_call (le_call (le_call HT.out HD.out) D11.out) D12.out)⟩
end Go.Proofs.Ytllfkhcpdgdmnaa
