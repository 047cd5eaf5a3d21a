/- EchoAmong: the walk. -/
import Derived.Test.YtllfkhcpdgdmnaaVis
namespace Go.Proofs.Ytllfkhcpdgdmnaa
open Go.RowKit

theorem vis_row_len : ∀ (k : Nat) (b t : List Int), ∀ L ∈ vis k b t, L.length = b.length + k
  | 0, b, t, L, h => by
    simp [vis] at h
    rw [h]
    rfl
  | k + 1, b, t, L, h => by
    unfold vis visN at h
    obtain ⟨p, _, hp⟩ := List.mem_flatMap.1 h
    unfold visP at hp
    split at hp
    · have := vis_row_len k _ _ L hp
      simp at this
      omega
    · simp at hp
theorem all_row_len (ds : List Int) : ∀ L ∈ allV ds, L.length ≤ 6 := by
  intro L hL
  unfold allV at hL
  split at hL
  · have := vis_row_len _ _ _ L (List.mem_filter.1 hL).1
    have h2 := cwV_le ds.length
    simp at this
    omega
  · simp at hL
theorem all_row_at (ds : List Int) (i : Nat) : ((allV ds).getD i []).length ≤ 6 := by
  by_cases h : i < (allV ds).length
  · rw [List.getD_eq_getElem?_getD, List.getElem?_eq_getElem h]
    exact all_row_len ds _ (List.getElem_mem h)
  · rw [List.getD_eq_getElem?_getD, List.getElem?_eq_none (by omega)]
    simp
set_option maxRecDepth 100000 in
set_option maxHeartbeats 4000000 in
theorem EchoAmong_walk (A : Option Addr) (n c : Nat) (xs : List Int) (w : World) (h : R E1 w A n c xs) :
    Calls Try.prog 8 #[.slice A n c] w fun e w' => e = .returned (.bool true) ∧ Below w.heap.size w w' := by
  have HX := hide h
  have HL := hide h.length
  have hm9 := h.le
  clear h
  by_cases hn : 100 < n
  · have HLn := hide (show decide (100 < n) = true from by simpa using hn)
    go_enter Try.func8, Try.ntmps8
    go_wp2_with (first
      | (go_at_call 18; refine (Long1_any A n c w hm9).mono ?_; rintro e w1 ⟨rfl, b1⟩; have D1 := hide b1; clear b1; rw [HLn.out])
      | (go_at_call 19; refine (sane_any _).mono ?_; rintro e w2 ⟨rfl, b2⟩; have D2 := hide b2; clear b2))
    go_ret
    exact ⟨rfl, (le_call D1.out D2.out)⟩
  · have HLn := hide (show decide (100 < n) = false from by simpa using hn)
    by_cases hc : errC xs = 0
    · have HEC := hide hc
      have HDL := hide (delV_len xs)
      have HED := hide (show errD (delV xs) = 0 from by rw [delV_ok hc]; exact errD_own hc)
      have HNA := hide (nor_among hc)
      have HNL := hide (norV_len xs)
      have HNV := hide (norV_ok hc)
      have HRL := hide (all_row_at (delV xs))
      clear hc
      go_enter Try.func8, Try.ntmps8
      go_wp2_with (first
        | (go_at_call 18; refine (Long1_any A n c w hm9).mono ?_; rintro e w1 ⟨rfl, b1⟩; have D1 := hide b1; clear b1; rw [HLn.out])
        | (go_at_call 27; refine (Normal_any A n c xs _ (HX.out.below D1.out (Nat.le_refl _)) (by omega)).mono ?_; rw [HEC.out]; rintro e w2 ⟨A2, n2, c2, rfl, o2, b2⟩; have D2 := hide b2; have O2 := hide o2; have HN2 := hide o2.len; clear o2 b2)
        | (go_at_call 20; refine (Delays_any A n c xs _ ((HX.out.below D1.out (Nat.le_refl _)).below D2.out (Nat.le_refl _)) (by omega)).mono ?_; rw [HEC.out]; rintro e w3 ⟨A3, n3, c3, rfl, o3, b3⟩; have D3 := hide b3; have O3 := hide o3; have HN3 := hide o3.len; clear o3 b3)
        | (go_at_call 37; refine (All_any A3 n3 c3 (delV xs) _ O3.out.row (by have h1 := HN3.out; have h2 := HDL.out; omega)).mono ?_; rw [HED.out]; rintro e w4 ⟨A4, n4, c4, hs4, rfl, o4, l4, r4, b4⟩; have D4 := hide b4; have HO4 := hide o4; have HL4 := hide l4; have HR4 := hide r4; clear b4 o4 l4 r4))
      have HRN := hide (((O2.out.row.below D3.out (Nat.le_refl _)).below D4.out (Nat.le_refl _)))
      have HRH := hide HO4.out.row
      generalize hrows : allV (delV xs) = rows at *
      have hn4 := HRH.out.le
      go_loopw [9] (fun i wr => ∃ k : Nat, k ≤ n4 ∧ i = .int .i64 k ∧ Hid (Below w4.heap.size w4 wr) ∧ Hid (∀ j, j < k → rows.getD j [] ≠ norF xs)) (fun i _ => n4 - (intOf i).toNat)
      case atStart => exact ⟨0, Nat.zero_le _, rfl, hide (Below.refl _ _), fun j hj => absurd hj (Nat.not_lt_zero j)⟩
      case round =>
        obtain ⟨k, hk, rfl, HD, HS⟩ := hrel
        by_cases hlt : k < n4
        · obtain ⟨gh, oh, rh⟩ := HRH.out
          obtain rfl := rh.at_ (by omega)
          have lh := rh.lt (by omega)
          have a1 := cH (rh.below HD.out (Nat.le_refl _)) hlt
          have kh := rh.cap
          have mh := rh.max
          have i1 : (k : Int) < (n4 : Int) := by omega
          have r1 := (HR4.out k hlt).row
          have l1 := HRL.out k
          have hrn := r1.length
          have HRK := hide (r1.below HD.out (Nat.le_refl _))
          have HRN2 := hide (HRN.out.below HD.out (Nat.le_refl _))
          have HN := hide (fun (h : rows.getD k [] ≠ norF xs) j (hj : j < k + 1) => (show rows.getD j [] ≠ norF xs from by
            by_cases e : j = k
            · subst e; exact h
            · exact HS.out j (by omega)))
          clear r1 rh
          generalize hs4.getD k EH.d = hd at *
          obtain ⟨A1, n1, c1'⟩ := hd
          dsimp only at *
          cases hv : (rows.getD k [] == norV xs) with
          | true =>
            have HV := hide hv
            clear hv
            go_wp2_with (first
              | (go_at_call 26; refine (SameInts_any A1 n1 c1' A2 n2 c2 _ (norV xs) _ HRK.out HRN2.out (by omega) (by have h1 := HN2.out; have h2 := HNL.out; omega)).mono ?_; rintro e w5 ⟨rfl, q5, hw5⟩; rw [HV.out]; have D5 := hide (show Below wr.heap.size wr w5 from by rw [hw5]; exact below_drewN (Below.refl _ _) q5); clear hw5)
              | (go_at_call 19; refine (sane_any _).mono ?_; rintro e w6 ⟨rfl, b6⟩; have D6 := hide b6; clear b6))
            go_ret
            exact ⟨rfl, le_call (le_call (le_call (le_call (le_call (le_call D1.out D2.out) D3.out) D4.out) HD.out) D5.out) D6.out⟩
          | false =>
            have HV := hide hv
            have HN2' := hide (HN.out (by rw [← HNV.out]; exact beq_eq_false_iff_ne.1 hv))
            clear hv
            go_wp2_with (go_at_call 26; refine (SameInts_any A1 n1 c1' A2 n2 c2 _ (norV xs) _ HRK.out HRN2.out (by omega) (by have h1 := HN2.out; have h2 := HNL.out; omega)).mono ?_; rintro e w5 ⟨rfl, q5, hw5⟩; rw [HV.out]; have D5 := hide (show Below wr.heap.size wr w5 from by rw [hw5]; exact below_drewN (Below.refl _ _) q5); clear hw5)
            go_roundw
            case rel => exact ⟨k + 1, by omega, by go_num, hide (le_call HD.out D5.out), HN2'⟩
            case measure => simp [intOf]; omega
        · obtain rfl : k = n4 := by omega
          exfalso
          obtain ⟨j, hj, e⟩ := List.getElem_of_mem HNA.out
          refine HS.out j (by rw [HL4.out] at hj; exact hj) ?_
          rw [List.getD_eq_getElem?_getD, List.getElem?_eq_getElem hj]
          exact e
    · have hne : (errC xs != 0) = true := by simpa using hc
      clear hc
      go_enter Try.func8, Try.ntmps8
      go_wp2_with (first
        | (go_at_call 18; refine (Long1_any A n c w hm9).mono ?_; rintro e w1 ⟨rfl, b1⟩; have D1 := hide b1; clear b1; rw [HLn.out])
        | (go_at_call 27; refine (Normal_any A n c xs _ (HX.out.below D1.out (Nat.le_refl _)) (by omega)).mono ?_; rintro e w2 ⟨A2, n2, c2, rfl, o2, b2⟩; have D2 := hide b2; have O2 := hide o2; have HN2 := hide o2.len; clear o2 b2)
        | (go_at_call 20; refine (Delays_any A n c xs _ ((HX.out.below D1.out (Nat.le_refl _)).below D2.out (Nat.le_refl _)) (by omega)).mono ?_; rintro e w3 ⟨A3, n3, c3, rfl, o3, b3⟩; have D3 := hide b3; have O3 := hide o3; have HN3 := hide o3.len; clear o3 b3)
        | (go_at_call 19; refine (sane_any _).mono ?_; rintro e w4 ⟨rfl, b4⟩; have D4 := hide b4; clear b4))
      go_ret
      exact ⟨ret_bool (by simp), (le_call (le_call (le_call D1.out D2.out) D3.out) D4.out)⟩
end Go.Proofs.Ytllfkhcpdgdmnaa
