/- Walks: Sounding, Silence. -/
import Derived.Test.YtbehnhhgoeiofaaLawPeriods
import Derived.Test.YtbehnhhgoeiofaaMathS
namespace Go.Proofs.Ytbehnhhgoeiofaa
open Go.RowKit

set_option maxHeartbeats 400000 in
theorem sounding_any (A : Option Addr) (n c : Nat) (xs : List Int) (w : World) (h : Row w A n c xs) (hn2 : n ≤ 1000) (hb : bitsB xs = true) :
    Calls Try.prog 83 #[.slice A n c] w fun e w' => e = .returned (.int .i64 (sumTo xs xs.length)) ∧ w = w' := by
  obtain ⟨b, off, h1, hcap, hmax, h2, h3, h4⟩ := h
  have H4 := hide h4
  have H1 := hide h1
  have H2 := hide h2
  have HB := hide hb
  clear h1 h2 h3 h4 hb
  go_enter Try.func83, Try.ntmps83
  go_wp2
  go_loop [3, 8] (fun s i => ∃ k : Nat, k ≤ n ∧ i = .int .i64 k ∧ s = .int .i64 (sumTo xs k)) (fun _ i => n - (intOf i).toNat)
  case atStart => exact ⟨0, Nat.zero_le _, rfl, rfl⟩
  case round =>
    obtain ⟨k, hk, rfl, rfl⟩ := hrel
    obtain ⟨g1, g2⟩ := sumTo_bd HB.out k
    by_cases hlt : k < n
    · have hcell := H4.out k hlt
      have hA := H2.out (by omega)
      have hs := sumTo_succ xs k
      obtain ⟨g3, g4⟩ := sumTo_bd HB.out (k + 1)
      rw [hs] at g3 g4
      generalize hx : xs.getD k 0 = x at hcell hs g3 g4
      have HS := hide hs
      clear hx hs
      subst hA
      go_wp2
      go_round
      case rel => exact ⟨k + 1, by omega, by go_num, by rw [HS.out]⟩
      case measure => simp [intOf]; omega
    · go_wp2
      go_ret
      exact ⟨ret_i64 (by rw [H1.out, show n = k from by omega]), rfl⟩

set_option maxHeartbeats 400000 in
theorem Sounding_any (A : Option Addr) (n c : Nat) (xs : List Int) (w : World) (h : Row w A n c xs) (hn2 : n ≤ 1000) :
    Calls Try.prog 46 #[.slice A n c] w fun e w' => e = .returned (.tuple #[.int .i64 (okv (errOf xs) (sumTo xs xs.length)), .int .i64 (errOf xs)]) ∧ w = w' := by
  have HR := hide h
  have h1 := h.length
  by_cases he : errOf xs = 0
  · obtain ⟨l1, l2, l3⟩ := errOf_zero he
    have l1' : 1 ≤ n := by omega
    have HE := hide he
    have HB := hide l3
    clear h h1 he l1 l2 l3
    go_enter Try.func46, Try.ntmps46
    go_wp2_with (first | (go_at_call 19; refine (Validate_any _ _ _ xs _ HR.out (by omega)).mono ?_; rintro e w' ⟨rfl, rfl⟩; rw [HE.out]))
    go_wp2_with (first | (go_at_call 83; refine (sounding_any _ _ _ xs _ HR.out (by omega) HB.out).mono ?_; rintro e w' ⟨rfl, rfl⟩))
    go_ret2
    exact ⟨ret2_ii (okv_zero HE.out _).symm HE.out.symm, rfl⟩
  · have he' : (errOf xs != 0) = true := by simp [he]
    clear h h1
    go_enter Try.func46, Try.ntmps46
    go_wp2_with (first | (go_at_call 19; refine (Validate_any _ _ _ xs _ HR.out (by omega)).mono ?_; rintro e w' ⟨rfl, rfl⟩))
    go_ret2
    exact ⟨ret2_ii (okv_ne he _).symm rfl, rfl⟩

set_option maxHeartbeats 400000 in
theorem rSounding_any (A : Option Addr) (n c : Nat) (xs : List Int) (w : World) (h : Row w A n c xs) (hn2 : n ≤ 1000) :
    Calls Try.prog 47 #[.slice A n c] w fun e w' => e = .returned (.tuple #[.int .i64 (okv (errOf xs) (sumTo xs xs.length)), .int .i64 (errOf xs)]) ∧ w = w' := by
  have HR := hide h
  have h1 := h.length
  by_cases he : errOf xs = 0
  · obtain ⟨l1, l2, l3⟩ := errOf_zero he
    have l1' : 1 ≤ n := by omega
    have HE := hide he
    have HB := hide l3
    obtain ⟨b, off, q1, hcap, hmax, q2, q3, q4⟩ := h
    obtain rfl := q2 (by omega)
    have H4 := hide q4
    have H1 := hide q1
    clear h1 he l1 l2 l3 q1 q2 q3 q4
    go_enter Try.func47, Try.ntmps47
    go_wp2_with (first | (go_at_call 20; refine (rValidate_any _ _ _ xs _ HR.out (by omega)).mono ?_; rintro e w' ⟨rfl, rfl⟩; rw [HE.out]))
    go_loop [5, 6] (fun s i => ∃ k : Nat, k ≤ n ∧ i = .int .i64 k ∧ s = .int .i64 (sumTo xs k)) (fun _ i => n - (intOf i).toNat)
    case atStart => exact ⟨0, Nat.zero_le _, rfl, rfl⟩
    case round =>
      obtain ⟨k, hk, rfl, rfl⟩ := hrel
      obtain ⟨g1, g2⟩ := sumTo_bd HB.out k
      by_cases hlt : k < n
      · have hcell := H4.out k hlt
        have hs := sumTo_succ xs k
        obtain ⟨g3, g4⟩ := sumTo_bd HB.out (k + 1)
        rw [hs] at g3 g4
        generalize hx : xs.getD k 0 = x at hcell hs g3 g4
        have HS := hide hs
        clear hx hs
        go_wp2
        go_round
        case rel => exact ⟨k + 1, by omega, by go_num, by rw [HS.out]⟩
        case measure => simp [intOf]; omega
      · go_wp2
        go_ret2
        exact ⟨ret2_ii (by rw [okv_zero HE.out, H1.out, show n = k from by omega]) HE.out.symm, rfl⟩
  · have he' : (errOf xs != 0) = true := by simp [he]
    clear h h1
    go_enter Try.func47, Try.ntmps47
    go_wp2_with (first | (go_at_call 20; refine (rValidate_any _ _ _ xs _ HR.out (by omega)).mono ?_; rintro e w' ⟨rfl, rfl⟩))
    go_ret2
    exact ⟨ret2_ii (okv_ne he _).symm rfl, rfl⟩


set_option maxHeartbeats 1000000 in
theorem Silence_any (A : Option Addr) (n c : Nat) (xs : List Int) (w : World) (h : Row w A n c xs) (hn2 : n ≤ 1000) :
    Calls Try.prog 48 #[.slice A n c] w fun e w' => e = .returned (.tuple #[.int .i64 (okv (errOf xs) (silOf xs)), .bool (okb (errOf xs) (someB xs)), .int .i64 (errOf xs)]) ∧ w = w' := by
  have HR := hide h
  have h1 := h.length
  by_cases he : errOf xs = 0
  · obtain ⟨l1, l2, l3⟩ := errOf_zero he
    have l1' : 1 ≤ n := by omega
    have HE := hide he
    have HB := hide l3
    have HL := hide h1
    by_cases hz : sumTo xs xs.length = 0
    · have HO := hide (show silOf xs = 0 by unfold silOf; rw [if_pos hz])
      have HS := hide (show someB xs = false by unfold someB; simp [hz])
      have hz' : (sumTo xs xs.length == 0) = true := by simp [hz]
      clear h h1 he l1 l2 l3 hz
      go_enter Try.func48, Try.ntmps48
      go_wp2_with fail
      refine (Validate_any _ _ _ xs _ HR.out (by omega)).mono ?_
      rintro e w' ⟨rfl, rfl⟩
      rw [HE.out]
      go_wp2_with fail
      refine (sounding_any _ _ _ xs _ HR.out (by omega) HB.out).mono ?_
      rintro e w' ⟨rfl, rfl⟩
      go_wp2
      go_ret3
      exact ⟨ret3_ibi (by rw [okv_zero HE.out, HO.out]) (by rw [okb_zero HE.out, HS.out]) HE.out.symm, rfl⟩
    · have HO := hide (show silOf xs = silBest xs (2 * n) by unfold silOf; rw [if_neg hz, h1])
      have HS := hide (show someB xs = true by unfold someB; simp [hz])
      have hz' : (sumTo xs xs.length == 0) = false := by simp [hz]
      clear h h1 he l1 l2 l3 hz
      go_enter Try.func48, Try.ntmps48
      go_wp2_with fail
      refine (Validate_any _ _ _ xs _ HR.out (by omega)).mono ?_
      rintro e w' ⟨rfl, rfl⟩
      rw [HE.out]
      go_wp2_with fail
      refine (sounding_any _ _ _ xs _ HR.out (by omega) HB.out).mono ?_
      rintro e w' ⟨rfl, rfl⟩
      go_wp2
      go_loop [6, 7, 20] (fun u v i => ∃ k : Nat, k ≤ 2 * n ∧ i = .int .i64 k ∧ v = .int .i64 (silRun xs k) ∧ u = .int .i64 (silBest xs k)) (fun _ _ i => 2 * n - (intOf i).toNat)
      case atStart => exact ⟨0, Nat.zero_le _, rfl, rfl, rfl⟩
      case round =>
        obtain ⟨k, hk, rfl, rfl, rfl⟩ := hrel
        obtain ⟨g1, g2⟩ := silRun_bd xs k
        obtain ⟨g3, g4⟩ := silBest_bd xs k
        by_cases hlt : k < 2 * n
        · by_cases hs : sec xs (k : Int) = 1
          · have hr := silRun_one hs
            have hbt : silBest xs (k + 1) = silBest xs k := silBest_ge (by rw [hr]; omega)
            have hs' : (sec xs (k : Int) == 1) = true := by simp [hs]
            have H1 := hide hr
            have H2 := hide hbt
            clear hr hbt hs
            go_wp2_with (first | (go_at_call 58; refine (second_any _ _ _ xs _ _ HR.out (by omega) (by omega)).mono ?_; rintro e w' ⟨rfl, rfl⟩))
            go_round
            case rel => exact ⟨k + 1, by omega, by go_num, by rw [H1.out], by rw [H2.out]⟩
            case measure => simp [intOf]; omega
          · have hr := silRun_ne hs
            have hs' : (sec xs (k : Int) == 1) = false := by simp [hs]
            have hbt : silBest xs (k + 1) = if silBest xs k < silRun xs k + 1 then silRun xs k + 1 else silBest xs k := by rw [← hr]; rfl
            have H1 := hide hr
            have H2 := hide hbt
            clear hr hbt hs
            go_wp2_with (first | (go_at_call 58; refine (second_any _ _ _ xs _ _ HR.out (by omega) (by omega)).mono ?_; rintro e w' ⟨rfl, rfl⟩))
            go_round
            case rel => exact ⟨k + 1, by omega, by go_num, by rw [H1.out], by rw [H2.out]⟩
            case measure => simp [intOf]; omega
        · go_wp2
          go_ret3
          exact ⟨ret3_ibi (by rw [okv_zero HE.out, HO.out, show 2 * n = k from by omega]) (by rw [okb_zero HE.out, HS.out]) HE.out.symm, rfl⟩
  · have he' : (errOf xs != 0) = true := by simp [he]
    have HE := hide he
    clear h h1 he
    go_enter Try.func48, Try.ntmps48
    go_wp2_with fail
    refine (Validate_any _ _ _ xs _ HR.out (by omega)).mono ?_
    rintro e w' ⟨rfl, rfl⟩
    go_wp2
    go_ret3
    exact ⟨ret3_ibi (okv_ne HE.out _).symm (okb_ne HE.out _).symm rfl, rfl⟩


set_option maxHeartbeats 1000000 in
theorem rSilence_any (A : Option Addr) (n c : Nat) (xs : List Int) (w : World) (h : Row w A n c xs) (hn2 : n ≤ 1000) :
    Calls Try.prog 49 #[.slice A n c] w fun e w' => e = .returned (.tuple #[.int .i64 (okv (errOf xs) (silOf xs)), .bool (okb (errOf xs) (someB xs)), .int .i64 (errOf xs)]) ∧ w = w' := by
  have HR := hide h
  have h1 := h.length
  by_cases he : errOf xs = 0
  · obtain ⟨l1, l2, l3⟩ := errOf_zero he
    have l1' : 1 ≤ n := by omega
    have HE := hide he
    have HB := hide l3
    have HL := hide h1
    by_cases hz : sumTo xs xs.length = 0
    · have HO := hide (show silOf xs = 0 by unfold silOf; rw [if_pos hz])
      have HS := hide (show someB xs = false by unfold someB; simp [hz])
      have hz' : (sumTo xs xs.length == 0) = true := by simp [hz]
      clear h h1 he l1 l2 l3 hz
      go_enter Try.func49, Try.ntmps49
      go_wp2_with fail
      refine (rSounding_any _ _ _ xs _ HR.out (by omega)).mono ?_
      rintro e w' ⟨rfl, rfl⟩
      rw [okv_zero HE.out, HE.out]
      go_wp2
      go_ret3
      exact ⟨ret3_ibi (by rw [okv_zero HE.out, HO.out]) (by rw [okb_zero HE.out, HS.out]) HE.out.symm, rfl⟩
    · have HO := hide (show silOf xs = silBest xs (2 * n) by unfold silOf; rw [if_neg hz, h1])
      have HS := hide (show someB xs = true by unfold someB; simp [hz])
      have hz' : (sumTo xs xs.length == 0) = false := by simp [hz]
      clear h h1 he l1 l2 l3 hz
      go_enter Try.func49, Try.ntmps49
      go_wp2_with fail
      refine (rSounding_any _ _ _ xs _ HR.out (by omega)).mono ?_
      rintro e w' ⟨rfl, rfl⟩
      rw [okv_zero HE.out, HE.out]
      go_wp2
      go_loop [7, 8, 9] (fun u v i => ∃ k : Nat, k ≤ 2 * n ∧ i = .int .i64 k ∧ v = .int .i64 (silRun xs k) ∧ u = .int .i64 (silBest xs k)) (fun _ _ i => 2 * n - (intOf i).toNat)
      case atStart => exact ⟨0, Nat.zero_le _, rfl, rfl, rfl⟩
      case round =>
        obtain ⟨k, hk, rfl, rfl, rfl⟩ := hrel
        obtain ⟨g1, g2⟩ := silRun_bd xs k
        obtain ⟨g3, g4⟩ := silBest_bd xs k
        by_cases hlt : k < 2 * n
        · by_cases hs : sec xs (k : Int) = 1
          · have hr := silRun_one hs
            have hbt : silBest xs (k + 1) = silBest xs k := silBest_ge (by rw [hr]; omega)
            have hs' : (sec xs (k : Int) == 1) = true := by simp [hs]
            have H1 := hide hr
            have H2 := hide hbt
            clear hr hbt hs
            go_wp2_with (first | (go_at_call 59; refine (rat_any _ _ _ xs _ _ HR.out (by omega) (by omega)).mono ?_; rintro e w' ⟨rfl, rfl⟩))
            go_round
            case rel => exact ⟨k + 1, by omega, by go_num, by rw [H1.out], by rw [H2.out]⟩
            case measure => simp [intOf]; omega
          · have hr := silRun_ne hs
            have hs' : (sec xs (k : Int) == 1) = false := by simp [hs]
            have hbt : silBest xs (k + 1) = if silBest xs k < silRun xs k + 1 then silRun xs k + 1 else silBest xs k := by rw [← hr]; rfl
            have H1 := hide hr
            have H2 := hide hbt
            clear hr hbt hs
            go_wp2_with (first | (go_at_call 59; refine (rat_any _ _ _ xs _ _ HR.out (by omega) (by omega)).mono ?_; rintro e w' ⟨rfl, rfl⟩))
            go_round
            case rel => exact ⟨k + 1, by omega, by go_num, by rw [H1.out], by rw [H2.out]⟩
            case measure => simp [intOf]; omega
        · go_wp2
          go_ret3
          exact ⟨ret3_ibi (by rw [okv_zero HE.out, HO.out, show 2 * n = k from by omega]) (by rw [okb_zero HE.out, HS.out]) HE.out.symm, rfl⟩
  · have he' : (errOf xs != 0) = true := by simp [he]
    have HE := hide he
    clear h h1 he
    go_enter Try.func49, Try.ntmps49
    go_wp2_with fail
    refine (rSounding_any _ _ _ xs _ HR.out (by omega)).mono ?_
    rintro e w' ⟨rfl, rfl⟩
    go_wp2
    go_ret3
    exact ⟨ret3_ibi (okv_ne HE.out _).symm (okb_ne HE.out _).symm rfl, rfl⟩


set_option maxHeartbeats 1000000 in
theorem ToneSounds_walk (A : Option Addr) (n c : Nat) (xs : List Int) (w : World) (h : Row w A n c xs) :
    Calls Try.prog 11 #[.slice A n c] w fun e w' => e = .returned (.bool true) ∧ Below w.heap.size w w' := by
  have HR := hide h
  clear h
  by_cases hn : 200 < n
  · go_enter Try.func11, Try.ntmps11
    go_wp2_with (first | (go_at_call 15; refine (Long_yes _ _ _ _ hn).mono ?_; rintro e w' ⟨rfl, rfl⟩) | (go_at_call 16; refine (known_any _).mono ?_; rintro e w9 ⟨rfl, hb9⟩))
    go_ret
    exact ⟨rfl, hb9⟩
  · have hn' : n ≤ 200 := by omega
    clear hn
    go_enter Try.func11, Try.ntmps11
    go_wp2_with fail
    refine (Long_no _ _ _ _ hn').mono ?_
    rintro e w' ⟨rfl, rfl⟩
    go_wp2_with fail
    refine (Sounding_any _ _ _ xs _ HR.out (by omega)).mono ?_
    rintro e w' ⟨rfl, rfl⟩
    go_wp2_with fail
    refine (rSounding_any _ _ _ xs _ HR.out (by omega)).mono ?_
    rintro e w' ⟨rfl, rfl⟩
    go_wp2_with fail
    refine (Silence_any _ _ _ xs _ HR.out (by omega)).mono ?_
    rintro e w' ⟨rfl, rfl⟩
    go_wp2_with fail
    refine (rSilence_any _ _ _ xs _ HR.out (by omega)).mono ?_
    rintro e w' ⟨rfl, rfl⟩
    go_wp2_with (first | (go_at_call 16; refine (known_any _).mono ?_; rintro e w9 ⟨rfl, hb9⟩))
    go_ret
    exact ⟨rfl, hb9⟩

end Go.Proofs.Ytbehnhhgoeiofaa
