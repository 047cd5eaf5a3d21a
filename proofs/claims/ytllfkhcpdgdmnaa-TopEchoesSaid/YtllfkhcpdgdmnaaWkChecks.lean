/- EchoChecks: CheckCliffs on both sides, and the walk. -/
import Derived.Test.YtllfkhcpdgdmnaaWkForms
namespace Go.Proofs.Ytllfkhcpdgdmnaa
open Go.RowKit Go.Shelf
attribute [local go_sem] Oper.semAt_some

set_option maxHeartbeats 4000000 in
theorem isDelays_any (A : Option Addr) (n c : Nat) (xs : List Int) (w : World) (h : R E1 w A n c xs) (hn2 : n ≤ 1000) :
    Calls Try.prog 71 #[.slice A n c] w fun e w' => e = .returned (.int .i64 (errD xs)) ∧ Below w.heap.size w w' := by
  have hl := h.length
  obtain ⟨b, off, hr⟩ := h
  have H1 := hide hl
  by_cases ha : 15 < n
  · go_enter Try.func71, Try.ntmps71
    go_wp2_with fail
    go_ret
    exact ⟨ret_i64 (errD_large (by rw [H1.out]; omega)).symm, Below.refl _ _⟩
  · have H4 := hide hr
    have HA0 := hide (fun h0 : 0 < n => hr.at_ h0)
    have HLB := hide (fun h0 : 0 < n => hr.lt h0)
    have hcap := hr.cap
    have hmax := hr.max
    clear hr hl
    go_enter Try.func71, Try.ntmps71
    go_wp2_with fail
    go_loopw [3] (fun i wr => ∃ k : Nat, k ≤ n ∧ i = .int .i64 k ∧ DokTo xs k ∧ Below w.heap.size w wr) (fun i _ => n - (intOf i).toNat)
    case atStart => exact ⟨0, Nat.zero_le _, rfl, dokTo_zero _, Below.refl _ _⟩
    case round =>
      obtain ⟨k, hk, rfl, hrep, hbel⟩ := hrel
      by_cases hlt : k < n
      · obtain rfl := HA0.out (by omega)
        have hbl := HLB.out (by omega)
        have hc1 := c1 (H4.out.under hbel fun _ => hbl) hlt
        have i1 : (k : Int) < (n : Int) := by omega
        by_cases hk0 : k = 0
        · subst hk0
          rw [Nat.add_zero] at hc1
          have HF := hide (fun h1 : ¬ (1 ≤ xs.getD 0 0 ∧ xs.getD 0 0 ≤ 60) => (Bool.eq_false_iff.2 fun h2 => h1 ⟨(dokB_iff.1 h2).1, (dokB_iff.1 h2).2.1⟩ : dokB xs 0 = false))
          have HS := hide (fun h1 : 1 ≤ xs.getD 0 0 ∧ xs.getD 0 0 ≤ 60 => (dokB_iff.2 ⟨h1.1, h1.2, .inl rfl⟩ : dokB xs 0 = true))
          generalize xs.getD 0 0 = x at hc1 HF HS
          rcases withinB_dec x 1 60 with ⟨hwx, hx1, hx2⟩ | ⟨hwx, hx⟩
          · clear HF
            go_wp2_with fail
            go_quiet ((go_at_call 62; first | exact quiet_left (within_any _ _ _ _) | exact quiet_add_left (within_any _ _ _ _)))
            all_goals
              go_wp2_with fail
              all_goals first
                | (go_ret; exact ⟨ret_i64 (errD_arg (by rw [H1.out]; omega) (k := 0) (by rw [H1.out]; exact hlt) (HF.out (by omega))).symm, below_drewN hbel _⟩)
                | (go_roundw
                   case rel => exact ⟨0 + 1, by omega, by go_num, dokTo_succ hrep (HS.out (by omega)), below_drewN hbel _⟩
                   case measure => simp [intOf] <;> omega)
          · clear HS
            go_wp2_with fail
            go_quiet ((go_at_call 62; first | exact quiet_left (within_any _ _ _ _) | exact quiet_add_left (within_any _ _ _ _)))
            all_goals
              go_wp2_with fail
              all_goals first
                | (go_ret; exact ⟨ret_i64 (errD_arg (by rw [H1.out]; omega) (k := 0) (by rw [H1.out]; exact hlt) (HF.out (by omega))).symm, below_drewN hbel _⟩)
                | (go_roundw
                   case rel => exact ⟨0 + 1, by omega, by go_num, dokTo_succ hrep (HS.out (by omega)), below_drewN hbel _⟩
                   case measure => simp [intOf] <;> omega)
        · have hc0 := c1 (H4.out.under hbel fun _ => hbl) (k := k - 1) (by omega)
          have hkk : ((k : Int) - 1) = ((k - 1 : Nat) : Int) := by omega
          have hkp : 0 < k := by omega
          have HF := hide (fun h1 : ¬ (1 ≤ xs.getD k 0 ∧ xs.getD k 0 ≤ 60 ∧ xs.getD (k - 1) 0 ≤ xs.getD k 0) => (Bool.eq_false_iff.2 fun h2 => h1 ⟨(dokB_iff.1 h2).1, (dokB_iff.1 h2).2.1, (dokB_iff.1 h2).2.2.resolve_left hk0⟩ : dokB xs k = false))
          have HS := hide (fun h1 : 1 ≤ xs.getD k 0 ∧ xs.getD k 0 ≤ 60 ∧ xs.getD (k - 1) 0 ≤ xs.getD k 0 => (dokB_iff.2 ⟨h1.1, h1.2.1, .inr h1.2.2⟩ : dokB xs k = true))
          generalize xs.getD k 0 = x at hc1 HF HS
          generalize xs.getD (k - 1) 0 = y at hc0 HF HS
          rcases withinB_dec x 1 60 with ⟨hwx, hx1, hx2⟩ | ⟨hwx, hx⟩
          · by_cases hxy : x < y
            · skip
              go_wp2_with fail
              go_quiet ((go_at_call 62; first | exact quiet_left (within_any _ _ _ _) | exact quiet_add_left (within_any _ _ _ _)))
              all_goals
                go_wp2_with fail
                all_goals first
                  | (go_ret; exact ⟨ret_i64 (errD_arg (by rw [H1.out]; omega) (k := k) (by rw [H1.out]; exact hlt) (HF.out (by omega))).symm, below_drewN hbel _⟩)
                  | (go_roundw
                     case rel => exact ⟨k + 1, by omega, by go_num, dokTo_succ hrep (HS.out (by omega)), below_drewN hbel _⟩
                     case measure => simp [intOf] <;> omega)
            · skip
              go_wp2_with fail
              go_quiet ((go_at_call 62; first | exact quiet_left (within_any _ _ _ _) | exact quiet_add_left (within_any _ _ _ _)))
              all_goals
                go_wp2_with fail
                all_goals first
                  | (go_ret; exact ⟨ret_i64 (errD_arg (by rw [H1.out]; omega) (k := k) (by rw [H1.out]; exact hlt) (HF.out (by omega))).symm, below_drewN hbel _⟩)
                  | (go_roundw
                     case rel => exact ⟨k + 1, by omega, by go_num, dokTo_succ hrep (HS.out (by omega)), below_drewN hbel _⟩
                     case measure => simp [intOf] <;> omega)
          · skip
            go_wp2_with fail
            go_quiet ((go_at_call 62; first | exact quiet_left (within_any _ _ _ _) | exact quiet_add_left (within_any _ _ _ _)))
            all_goals
              go_wp2_with fail
              all_goals first
                | (go_ret; exact ⟨ret_i64 (errD_arg (by rw [H1.out]; omega) (k := k) (by rw [H1.out]; exact hlt) (HF.out (by omega))).symm, below_drewN hbel _⟩)
                | (go_roundw
                   case rel => exact ⟨k + 1, by omega, by go_num, dokTo_succ hrep (HS.out (by omega)), below_drewN hbel _⟩
                   case measure => simp [intOf] <;> omega)
      · obtain rfl : k = n := by omega
        have i1 : ¬ (k : Int) < (k : Int) := by omega
        by_cases hb : cwV k = 0
        · have HB := hide (errD_count (xs := xs) (by rw [H1.out]; omega) (by rw [H1.out]; exact hb))
          have HBz := hide hb
          clear hb
          go_wp2_with (go_at_call 78; refine (cliffs_any _ (by omega) _).mono ?_; rintro e w1 ⟨rfl, rfl⟩; rw [HBz.out])
          go_ret
          exact ⟨ret_i64 HB.out.symm, hbel⟩
        · have HB := hide (errD_fine (xs := xs) (by rw [H1.out]; omega) (by rw [H1.out]; exact hb) (by rw [H1.out]; exact hrep))
          have hcz : ((cwV k : Int) == 0) = false := by rw [beq_eq_false_iff_ne]; omega
          clear hb
          go_wp2_with (go_at_call 78; refine (cliffs_any _ (by omega) _).mono ?_; rintro e w1 ⟨rfl, rfl⟩)
          go_ret
          exact ⟨ret_i64 HB.out.symm, hbel⟩
/-- The error of cliffs with claimed delays. -/
def chkE (ds xs : List Int) : Int := if errD ds ≠ 0 then errD ds else if errC xs ≠ 0 then errC xs else if sortZ (dif xs) == ds then 0 else 7
set_option maxHeartbeats 2000000 in
theorem CheckCliffs_any (A : Option Addr) (n c : Nat) (ds : List Int) (A' : Option Addr) (n' c' : Nat) (xs : List Int) (w : World) (h : R E1 w A n c ds) (h' : R E1 w A' n' c' xs) (hn : n ≤ 1000) (hn' : n' ≤ 1000) :
    Calls Try.prog 35 #[.slice A n c, .slice A' n' c'] w fun e w' => e = .returned (.int .i64 (chkE ds xs)) ∧ Below w.heap.size w w' := by
  have HD := hide h
  have HX := hide h'
  have HL' := hide h'.length
  clear h h'
  by_cases he : errD ds = 0
  · have HE := hide he
    by_cases hc : errC xs = 0
    · have HCE := hide hc
      have h2 := errC_ok.1 hc
      rw [HL'.out] at h2
      have HV := hide h2.2.2.1
      have hn6 := h2.2.1
      have HQ := hide (dif_len (xs := xs) (by rw [HL'.out]; omega))
      clear h2
      cases heq : (sortZ (dif xs) == ds) with
      | true =>
        have HEq := hide (show (sortZ (dif xs) == ds) = true from heq)
        have HC := hide (show chkE ds xs = 0 from by unfold chkE; rw [if_neg (by simpa using he), if_neg (by simpa using hc), heq]; rfl)
        clear heq he hc
        go_enter Try.func35, Try.ntmps35
        go_wp2_with (first
          | (go_at_call 70; refine (validateDelays_any A n c ds _ HD.out (by omega)).mono ?_; rintro e w1 ⟨rfl, b1⟩; rw [HE.out]; have D1 := hide b1; clear b1)
          | (go_at_call 24; refine (Validate_any A' n' c' xs _ (HX.out.below D1.out (Nat.le_refl _)) (by omega)).mono ?_; rintro e w2 ⟨rfl, b2⟩; rw [HCE.out]; have D2 := hide b2; clear b2)
          | (go_at_call 58; refine (differences_any A' n' c' xs _ ((HX.out.below D1.out (Nat.le_refl _)).below D2.out (Nat.le_refl _)) hn6 HV.out).mono ?_; rintro e w3 ⟨A3, n3, c3, rfl, o3, b3⟩; have HO3 := hide o3; have HN3 := hide o3.len; have D3 := hide b3; clear o3 b3)
          | (go_at_call 66; refine (Equal_any A3 n3 c3 (sortZ (dif xs)) A n c ds _ HO3.out.row (HD.out.below (le_call (le_call D1.out D2.out) D3.out) (Nat.le_refl _)) (by have h1 := HN3.out; rw [sortZ_len] at h1; have h2 := HQ.out; omega) (by omega)).mono ?_; rintro e w4 ⟨rfl, q4, hw4⟩; rw [HEq.out]; have D4 := hide (show Below w3.heap.size w3 w4 from by rw [hw4]; exact below_drewN (Below.refl _ _) q4); clear hw4))
        go_ret
        exact ⟨ret_i64 (by rw [HC.out]), le_call (le_call (le_call D1.out D2.out) D3.out) D4.out⟩
      | false =>
        have HEq := hide (show (sortZ (dif xs) == ds) = false from heq)
        have HC := hide (show chkE ds xs = 7 from by unfold chkE; rw [if_neg (by simpa using he), if_neg (by simpa using hc), heq]; rfl)
        clear heq he hc
        go_enter Try.func35, Try.ntmps35
        go_wp2_with (first
          | (go_at_call 70; refine (validateDelays_any A n c ds _ HD.out (by omega)).mono ?_; rintro e w1 ⟨rfl, b1⟩; rw [HE.out]; have D1 := hide b1; clear b1)
          | (go_at_call 24; refine (Validate_any A' n' c' xs _ (HX.out.below D1.out (Nat.le_refl _)) (by omega)).mono ?_; rintro e w2 ⟨rfl, b2⟩; rw [HCE.out]; have D2 := hide b2; clear b2)
          | (go_at_call 58; refine (differences_any A' n' c' xs _ ((HX.out.below D1.out (Nat.le_refl _)).below D2.out (Nat.le_refl _)) hn6 HV.out).mono ?_; rintro e w3 ⟨A3, n3, c3, rfl, o3, b3⟩; have HO3 := hide o3; have HN3 := hide o3.len; have D3 := hide b3; clear o3 b3)
          | (go_at_call 66; refine (Equal_any A3 n3 c3 (sortZ (dif xs)) A n c ds _ HO3.out.row (HD.out.below (le_call (le_call D1.out D2.out) D3.out) (Nat.le_refl _)) (by have h1 := HN3.out; rw [sortZ_len] at h1; have h2 := HQ.out; omega) (by omega)).mono ?_; rintro e w4 ⟨rfl, q4, hw4⟩; rw [HEq.out]; have D4 := hide (show Below w3.heap.size w3 w4 from by rw [hw4]; exact below_drewN (Below.refl _ _) q4); clear hw4))
        go_ret
        exact ⟨ret_i64 (by rw [HC.out]), le_call (le_call (le_call D1.out D2.out) D3.out) D4.out⟩
    · have HCE := hide hc
      have hne : (errC xs != 0) = true := by simpa using hc
      have HC := hide (show chkE ds xs = errC xs from by unfold chkE; rw [if_neg (by simpa using he), if_pos hc])
      clear he hc
      go_enter Try.func35, Try.ntmps35
      go_wp2_with (first
        | (go_at_call 70; refine (validateDelays_any A n c ds _ HD.out (by omega)).mono ?_; rintro e w1 ⟨rfl, b1⟩; rw [HE.out]; have D1 := hide b1; clear b1)
        | (go_at_call 24; refine (Validate_any A' n' c' xs _ (HX.out.below D1.out (Nat.le_refl _)) (by omega)).mono ?_; rintro e w2 ⟨rfl, b2⟩; have D2 := hide b2; clear b2))
      go_ret
      exact ⟨ret_i64 (by rw [HC.out]), le_call D1.out D2.out⟩
  · have hne : (errD ds != 0) = true := by simpa using he
    have HC := hide (show chkE ds xs = errD ds from by unfold chkE; rw [if_pos he])
    clear he
    go_enter Try.func35, Try.ntmps35
    go_wp2_with (go_at_call 70; refine (validateDelays_any A n c ds _ HD.out (by omega)).mono ?_; rintro e w1 ⟨rfl, b1⟩; have D1 := hide b1; clear b1)
    go_ret
    exact ⟨ret_i64 (by rw [HC.out]), D1.out⟩
set_option maxHeartbeats 2000000 in
theorem rCheckCliffs_any (A : Option Addr) (n c : Nat) (ds : List Int) (A' : Option Addr) (n' c' : Nat) (xs : List Int) (w : World) (h : R E1 w A n c ds) (h' : R E1 w A' n' c' xs) (hn : n ≤ 1000) (hn' : n' ≤ 1000) :
    Calls Try.prog 36 #[.slice A n c, .slice A' n' c'] w fun e w' => e = .returned (.int .i64 (chkE ds xs)) ∧ Below w.heap.size w w' := by
  have HD := hide h
  have HX := hide h'
  have HL' := hide h'.length
  clear h h'
  by_cases he : errD ds = 0
  · have HE := hide he
    by_cases hc : errC xs = 0
    · have HCE := hide hc
      have h2 := errC_ok.1 hc
      rw [HL'.out] at h2
      have HV := hide h2.2.2.1
      have hn6 := h2.2.1
      have HQ := hide (dif_len (xs := xs) (by rw [HL'.out]; omega))
      clear h2
      cases heq : (sortZ (dif xs) == ds) with
      | true =>
        have HEq := hide (show (sortZ (dif xs) == ds) = true from heq)
        have HC := hide (show chkE ds xs = 0 from by unfold chkE; rw [if_neg (by simpa using he), if_neg (by simpa using hc), heq]; rfl)
        clear heq he hc
        go_enter Try.func36, Try.ntmps36
        go_wp2_with (first
          | (go_at_call 71; refine (isDelays_any A n c ds _ HD.out (by omega)).mono ?_; rintro e w1 ⟨rfl, b1⟩; rw [HE.out]; have D1 := hide b1; clear b1)
          | (go_at_call 25; refine (rValidate_any A' n' c' xs _ (HX.out.below D1.out (Nat.le_refl _)) (by omega)).mono ?_; rintro e w2 ⟨rfl, b2⟩; rw [HCE.out]; have D2 := hide b2; clear b2)
          | (go_at_call 59; refine (rdelays_any A' n' c' xs _ ((HX.out.below D1.out (Nat.le_refl _)).below D2.out (Nat.le_refl _)) (by omega) HV.out).mono ?_; rintro e w3 ⟨A3, n3, c3, rfl, o3, b3⟩; have HO3 := hide o3; have HN3 := hide o3.len; have D3 := hide b3; clear o3 b3)
          | (go_at_call 26; refine (SameInts_any A3 n3 c3 A n c (sortZ (dif xs)) ds _ HO3.out.row (HD.out.below (le_call (le_call D1.out D2.out) D3.out) (Nat.le_refl _)) (by have h1 := HN3.out; rw [sortZ_len] at h1; have h2 := HQ.out; omega) (by omega)).mono ?_; rintro e w4 ⟨rfl, q4, hw4⟩; rw [HEq.out]; have D4 := hide (show Below w3.heap.size w3 w4 from by rw [hw4]; exact below_drewN (Below.refl _ _) q4); clear hw4))
        go_ret
        exact ⟨ret_i64 (by rw [HC.out]), le_call (le_call (le_call D1.out D2.out) D3.out) D4.out⟩
      | false =>
        have HEq := hide (show (sortZ (dif xs) == ds) = false from heq)
        have HC := hide (show chkE ds xs = 7 from by unfold chkE; rw [if_neg (by simpa using he), if_neg (by simpa using hc), heq]; rfl)
        clear heq he hc
        go_enter Try.func36, Try.ntmps36
        go_wp2_with (first
          | (go_at_call 71; refine (isDelays_any A n c ds _ HD.out (by omega)).mono ?_; rintro e w1 ⟨rfl, b1⟩; rw [HE.out]; have D1 := hide b1; clear b1)
          | (go_at_call 25; refine (rValidate_any A' n' c' xs _ (HX.out.below D1.out (Nat.le_refl _)) (by omega)).mono ?_; rintro e w2 ⟨rfl, b2⟩; rw [HCE.out]; have D2 := hide b2; clear b2)
          | (go_at_call 59; refine (rdelays_any A' n' c' xs _ ((HX.out.below D1.out (Nat.le_refl _)).below D2.out (Nat.le_refl _)) (by omega) HV.out).mono ?_; rintro e w3 ⟨A3, n3, c3, rfl, o3, b3⟩; have HO3 := hide o3; have HN3 := hide o3.len; have D3 := hide b3; clear o3 b3)
          | (go_at_call 26; refine (SameInts_any A3 n3 c3 A n c (sortZ (dif xs)) ds _ HO3.out.row (HD.out.below (le_call (le_call D1.out D2.out) D3.out) (Nat.le_refl _)) (by have h1 := HN3.out; rw [sortZ_len] at h1; have h2 := HQ.out; omega) (by omega)).mono ?_; rintro e w4 ⟨rfl, q4, hw4⟩; rw [HEq.out]; have D4 := hide (show Below w3.heap.size w3 w4 from by rw [hw4]; exact below_drewN (Below.refl _ _) q4); clear hw4))
        go_ret
        exact ⟨ret_i64 (by rw [HC.out]), le_call (le_call (le_call D1.out D2.out) D3.out) D4.out⟩
    · have HCE := hide hc
      have hne : (errC xs != 0) = true := by simpa using hc
      have HC := hide (show chkE ds xs = errC xs from by unfold chkE; rw [if_neg (by simpa using he), if_pos hc])
      clear he hc
      go_enter Try.func36, Try.ntmps36
      go_wp2_with (first
        | (go_at_call 71; refine (isDelays_any A n c ds _ HD.out (by omega)).mono ?_; rintro e w1 ⟨rfl, b1⟩; rw [HE.out]; have D1 := hide b1; clear b1)
        | (go_at_call 25; refine (rValidate_any A' n' c' xs _ (HX.out.below D1.out (Nat.le_refl _)) (by omega)).mono ?_; rintro e w2 ⟨rfl, b2⟩; have D2 := hide b2; clear b2))
      go_ret
      exact ⟨ret_i64 (by rw [HC.out]), le_call D1.out D2.out⟩
  · have hne : (errD ds != 0) = true := by simpa using he
    have HC := hide (show chkE ds xs = errD ds from by unfold chkE; rw [if_pos he])
    clear he
    go_enter Try.func36, Try.ntmps36
    go_wp2_with (go_at_call 71; refine (isDelays_any A n c ds _ HD.out (by omega)).mono ?_; rintro e w1 ⟨rfl, b1⟩; have D1 := hide b1; clear b1)
    go_ret
    exact ⟨ret_i64 (by rw [HC.out]), D1.out⟩
set_option maxRecDepth 100000 in
set_option maxHeartbeats 4000000 in
theorem EchoChecks_walk (A : Option Addr) (n c : Nat) (xs : List Int) (A' : Option Addr) (n' c' : Nat) (ys : List Int) (w : World) (h : R E1 w A n c xs) (h' : R E1 w A' n' c' ys) :
    Calls Try.prog 6 #[.slice A n c, .slice A' n' c'] w fun e w' => e = .returned (.bool true) ∧ Below w.heap.size w w' := by
  have HX := hide h
  have HY := hide h'
  have hm9 := h.le
  have hm9' := h'.le
  clear h h'
  by_cases hn : 100 < n ∨ 100 < n'
  · have HLn := hide (show (decide (100 < n) || decide (100 < n')) = true from by simpa using hn)
    go_enter Try.func6, Try.ntmps6
    go_wp2_with (first
      | (go_at_call 18; refine (Long2_any A n c A' n' c' w hm9 hm9').mono ?_; rintro e w1 ⟨rfl, b1⟩; have D1 := hide b1; clear b1; rw [HLn.out])
      | (go_at_call 19; refine (sane_any _).mono ?_; rintro e w2 ⟨rfl, b2⟩; have D2 := hide b2; clear b2))
    go_ret
    exact ⟨rfl, (le_call D1.out D2.out)⟩
  · have HLn := hide (show (decide (100 < n) || decide (100 < n')) = false from by simp; omega)
    go_enter Try.func6, Try.ntmps6
    go_wp2_with (first
      | (go_at_call 18; refine (Long2_any A n c A' n' c' w hm9 hm9').mono ?_; rintro e w1 ⟨rfl, b1⟩; have D1 := hide b1; clear b1; rw [HLn.out])
      | (go_at_call 35; refine (CheckCliffs_any A n c xs A' n' c' ys _ (HX.out.below D1.out (Nat.le_refl _)) (HY.out.below D1.out (Nat.le_refl _)) (by omega) (by omega)).mono ?_; rintro e w2 ⟨rfl, b2⟩; have D2 := hide b2; clear b2)
      | (go_at_call 36; refine (rCheckCliffs_any A n c xs A' n' c' ys _ ((HX.out.below D1.out (Nat.le_refl _)).below D2.out (Nat.le_refl _)) ((HY.out.below D1.out (Nat.le_refl _)).below D2.out (Nat.le_refl _)) (by omega) (by omega)).mono ?_; rintro e w3 ⟨rfl, b3⟩; have D3 := hide b3; clear b3)
      | (go_at_call 19; refine (sane_any _).mono ?_; rintro e w4 ⟨rfl, b4⟩; have D4 := hide b4; clear b4))
    go_ret
    exact ⟨ret_bool (by simp), (le_call (le_call (le_call D1.out D2.out) D3.out) D4.out)⟩
end Go.Proofs.Ytllfkhcpdgdmnaa
