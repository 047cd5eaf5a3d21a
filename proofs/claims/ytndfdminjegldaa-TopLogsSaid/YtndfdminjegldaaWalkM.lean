/- Walks: which lists are part of two logs, and how long the longest one is. -/
import Derived.Test.YtndfdminjegldaaWalkG
import Derived.Test.YtndfdminjegldaaMP
namespace Go.Proofs.Ytndfdminjegldaa
open Go.RowKit Go.Shelf
attribute [local go_sem] Oper.semAt_some

set_option maxRecDepth 100000 in
set_option maxHeartbeats 4000000 in
theorem isPart_any (A : Option Addr) (n c : Nat) (ps : List Int) (A' : Option Addr) (n' c' : Nat) (xs : List Int) (w : World) (h : R E1 w A n c ps) (h' : R E1 w A' n' c' xs) :
    Calls Try.prog 77 #[.slice A n c, .slice A' n' c'] w fun e w' => e = .returned (.bool (partB ps xs)) ∧ w = w' := by
  have HL := hide h.length
  have HL' := hide h'.length
  have H := hide h
  have H' := hide h'
  have hle := h.le
  have hle' := h'.le
  clear h h'
  go_enter Try.func77, Try.ntmps77
  go_wp2_with fail
  go_loop [5, 10] (fun f i => ∃ t : Nat, t ≤ n' ∧ i = .int .i64 t ∧ f = .int .i64 (fnd ps xs t)) (fun _ i => n' - (intOf i).toNat)
  case atStart => exact ⟨0, Nat.zero_le _, rfl, rfl⟩
  case round =>
    obtain ⟨t, ht, rfl, rfl⟩ := hrel
    have hf := fnd_le ps xs t
    rw [HL.out] at hf
    have HS := hide (fnd_succ ps xs t)
    have HFU := hide (fun h : fnd ps xs t = ps.length => fnd_full h xs.length (by rw [HL'.out]; exact ht))
    have HEN := hide (show t = n' → partB ps xs = decide (fnd ps xs t = ps.length) from fun e => by unfold partB; rw [HL'.out, e])
    have HFE := hide (show fnd ps xs t = ps.length → partB ps xs = true from fun e => decide_eq_true (HFU.out e))
    rw [HL.out] at HS HFE HEN
    by_cases hlt : t < n'
    · obtain ⟨b', off', hr'⟩ := H'.out
      obtain rfl := hr'.at_ (by omega)
      have hc1 := c1 hr' hlt
      clear hr'
      by_cases hfn : fnd ps xs t < n
      · obtain ⟨b, off, hr⟩ := H.out
        obtain rfl := hr.at_ (by omega)
        have hc2 := c1 hr hfn
        clear hr
        generalize fnd ps xs t = f at *
        generalize xs.getD t 0 = x at *
        generalize ps.getD f 0 = y at *
        have hfi : (f : Int) < (n : Int) := by omega
        have htn : (t : Int) < (n' : Int) := by omega
        by_cases hxy : y = x
        · have HS2 := hide (show fnd ps xs (t + 1) = f + 1 from by rw [HS.out, if_pos ⟨hfn, hxy⟩])
          have hb1 : (y == x) = true := by simpa using hxy
          have hb2 : (x == y) = true := by simpa using hxy.symm
          clear hxy
          go_wp2_with fail
          go_round
          case rel => exact ⟨t + 1, by omega, by go_num, by rw [HS2.out]; try go_num⟩
          case measure => simp [intOf]; omega
        · have HS2 := hide (show fnd ps xs (t + 1) = f from by rw [HS.out, if_neg (fun h => hxy h.2)])
          have hb1 : (y == x) = false := by simpa using hxy
          have hb2 : (x == y) = false := by simpa using fun h => hxy h.symm
          clear hxy
          go_wp2_with fail
          go_round
          case rel => exact ⟨t + 1, by omega, by go_num, by rw [HS2.out]; try go_num⟩
          case measure => simp [intOf]; omega
      · have hfe : fnd ps xs t = n := by omega
        have HFB := hide (HFE.out hfe)
        have HS2 := hide (show fnd ps xs (t + 1) = n from by rw [HS.out, if_neg (by omega), hfe])
        rw [hfe]
        clear hfe hfn hf HS HFE HEN HFU
        go_wp2_with fail
        go_round
        case rel => exact ⟨t + 1, by omega, by go_num, by rw [HS2.out]; try go_num⟩
        case measure => simp [intOf]; omega
    · obtain rfl : t = n' := by omega
      have HEB := hide (HEN.out rfl)
      generalize fnd ps xs t = f at *
      by_cases hfe : f = n
      · have HPB := hide (show partB ps xs = true from by rw [HEB.out]; exact decide_eq_true hfe)
        have hfb : ((f : Int) == (n : Int)) = true := by simp; omega
        clear hfe HS HFE HEN HFU HEB
        go_wp2_with fail
        go_ret
        exact ⟨ret_bool (by rw [HPB.out]; try simp_all), rfl⟩
      · have HPB := hide (show partB ps xs = false from by rw [HEB.out]; exact decide_eq_false hfe)
        have hfb : ((f : Int) == (n : Int)) = false := by simp; omega
        clear hfe HS HFE HEN HFU HEB
        go_wp2_with fail
        go_ret
        exact ⟨ret_bool (by rw [HPB.out]; try simp_all), rfl⟩
set_option maxRecDepth 100000 in
set_option maxHeartbeats 4000000 in
theorem in_any (A : Option Addr) (n c : Nat) (ps : List Int) (A' : Option Addr) (n' c' : Nat) (xs : List Int) (w : World) (h : R E1 w A n c ps) (h' : R E1 w A' n' c' xs) :
    Calls Try.prog 78 #[.slice A n c, .slice A' n' c'] w fun e w' => e = .returned (.bool (partB ps xs)) ∧ ∃ q, w' = w.drewN q := by
  have HL := hide h.length
  have HL' := hide h'.length
  have H := hide h
  have H' := hide h'
  have hle := h.le
  have hle' := h'.le
  clear h h'
  go_enter Try.func78, Try.ntmps78
  go_wp2_with fail
  go_loopw [5, 6] (fun f i wr => ∃ t q : Nat, t ≤ n' ∧ i = .int .i64 t ∧ f = .int .i64 (fnd ps xs t) ∧ wr = w.drewN q) (fun _ i _ => n' - (intOf i).toNat)
  case atStart => exact ⟨0, 0, Nat.zero_le _, rfl, rfl, rfl⟩
  case round =>
    obtain ⟨t, q, ht, rfl, rfl, rfl⟩ := hrel
    have hf := fnd_le ps xs t
    rw [HL.out] at hf
    have HS := hide (fnd_succ ps xs t)
    have HFU := hide (fun h : fnd ps xs t = ps.length => fnd_full h xs.length (by rw [HL'.out]; exact ht))
    have HEN := hide (show t = n' → partB ps xs = decide (fnd ps xs t = ps.length) from fun e => by unfold partB; rw [HL'.out, e])
    have HFE := hide (show fnd ps xs t = ps.length → partB ps xs = true from fun e => decide_eq_true (HFU.out e))
    rw [HL.out] at HS HFE HEN
    by_cases hlt : t < n'
    · obtain ⟨b', off', hr'⟩ := H'.out
      obtain rfl := hr'.at_ (by omega)
      have hc1 := c1 hr' hlt
      clear hr'
      by_cases hfn : fnd ps xs t < n
      · obtain ⟨b, off, hr⟩ := H.out
        obtain rfl := hr.at_ (by omega)
        have hc2 := c1 hr hfn
        clear hr
        generalize fnd ps xs t = f at *
        generalize xs.getD t 0 = x at *
        generalize ps.getD f 0 = y at *
        have hfi : (f : Int) < (n : Int) := by omega
        have htn : (t : Int) < (n' : Int) := by omega
        by_cases hxy : y = x
        · have HS2 := hide (show fnd ps xs (t + 1) = f + 1 from by rw [HS.out, if_pos ⟨hfn, hxy⟩])
          have hb1 : (y == x) = true := by simpa using hxy
          have hb2 : (x == y) = true := by simpa using hxy.symm
          clear hxy
          go_wp2_with fail
          go_quiet (fail)
          go_wp2_with fail
          go_roundw
          case rel => exact ⟨t + 1, q + nq, by omega, by go_num, by rw [HS2.out]; try go_num, by first | rfl | (rw [World.drewN_drewN])⟩
          case measure => simp [intOf]; omega
        · have HS2 := hide (show fnd ps xs (t + 1) = f from by rw [HS.out, if_neg (fun h => hxy h.2)])
          have hb1 : (y == x) = false := by simpa using hxy
          have hb2 : (x == y) = false := by simpa using fun h => hxy h.symm
          clear hxy
          go_wp2_with fail
          go_quiet (fail)
          go_wp2_with fail
          go_roundw
          case rel => exact ⟨t + 1, q + nq, by omega, by go_num, by rw [HS2.out]; try go_num, by first | rfl | (rw [World.drewN_drewN])⟩
          case measure => simp [intOf]; omega
      · have hfe : fnd ps xs t = n := by omega
        have HFB := hide (HFE.out hfe)
        have HS2 := hide (show fnd ps xs (t + 1) = n from by rw [HS.out, if_neg (by omega), hfe])
        rw [hfe]
        clear hfe hfn hf HS HFE HEN HFU
        go_wp2_with fail
        go_ret
        exact ⟨ret_bool (by rw [HFB.out]; try simp), q, rfl⟩
    · obtain rfl : t = n' := by omega
      have HEB := hide (HEN.out rfl)
      generalize fnd ps xs t = f at *
      by_cases hfe : f = n
      · have HPB := hide (show partB ps xs = true from by rw [HEB.out]; exact decide_eq_true hfe)
        have hfb : ((f : Int) == (n : Int)) = true := by simp; omega
        clear hfe HS HFE HEN HFU HEB
        go_wp2_with fail
        go_ret
        exact ⟨ret_bool (by rw [HPB.out]; try simp_all), q, rfl⟩
      · have HPB := hide (show partB ps xs = false from by rw [HEB.out]; exact decide_eq_false hfe)
        have hfb : ((f : Int) == (n : Int)) = false := by simp; omega
        clear hfe HS HFE HEN HFU HEB
        go_wp2_with fail
        go_ret
        exact ⟨ret_bool (by rw [HPB.out]; try simp_all), q, rfl⟩
set_option maxRecDepth 100000 in
set_option maxHeartbeats 2000000 in
theorem CheckCommon_any (A : Option Addr) (n c : Nat) (xs : List Int) (A' : Option Addr) (n' c' : Nat) (ys : List Int) (A2 : Option Addr) (n2 c2 : Nat) (ps : List Int) (w : World) (h : R E1 w A n c xs) (h' : R E1 w A' n' c' ys) (h2 : R E1 w A2 n2 c2 ps) :
    Calls Try.prog 41 #[.slice A n c, .slice A' n' c', .slice A2 n2 c2] w fun e w' => e = .returned (.int .i64 (errP xs ys ps)) ∧ w = w' := by
  have H := hide h
  have H' := hide h'
  have H2 := hide h2
  clear h h' h2
  by_cases he : errB xs ys = 0
  · have HE := hide he
    cases h1 : partB ps xs with
    | true =>
      have H1 := hide h1
      cases h3 : partB ps ys with
      | true =>
        have H3 := hide h3
        have HV := hide (errP_yes he h1 h3)
        clear he h1 h3
        go_enter Try.func41, Try.ntmps41
        go_wp2_with (first
          | (have hgd := D2; clear hgd; go_at_call 77; refine (isPart_any A2 n2 c2 ps A' n' c' ys _ H2.out H'.out).mono ?_; rintro e w3 ⟨rfl, rfl⟩; rw [H3.out])
          | (have hgd := D1; clear hgd; go_at_call 77; refine (isPart_any A2 n2 c2 ps A n c xs _ H2.out H.out).mono ?_; rintro e w2 ⟨rfl, rfl⟩; rw [H1.out]; have D2 := True.intro)
          | (go_at_call 72; refine (validateBoth_any A n c xs A' n' c' ys _ H.out H'.out).mono ?_; rintro e w1 ⟨rfl, rfl⟩; rw [HE.out]; have D1 := True.intro))
        go_ret
        exact ⟨ret_i64 HV.out.symm, rfl⟩
      | false =>
        have H3 := hide h3
        have HV := hide (errP_m he h3)
        clear he h1 h3
        go_enter Try.func41, Try.ntmps41
        go_wp2_with (first
          | (have hgd := D2; clear hgd; go_at_call 77; refine (isPart_any A2 n2 c2 ps A' n' c' ys _ H2.out H'.out).mono ?_; rintro e w3 ⟨rfl, rfl⟩; rw [H3.out])
          | (have hgd := D1; clear hgd; go_at_call 77; refine (isPart_any A2 n2 c2 ps A n c xs _ H2.out H.out).mono ?_; rintro e w2 ⟨rfl, rfl⟩; rw [H1.out]; have D2 := True.intro)
          | (go_at_call 72; refine (validateBoth_any A n c xs A' n' c' ys _ H.out H'.out).mono ?_; rintro e w1 ⟨rfl, rfl⟩; rw [HE.out]; have D1 := True.intro))
        go_ret
        exact ⟨ret_i64 HV.out.symm, rfl⟩
    | false =>
      have H1 := hide h1
      have HV := hide (errP_l he h1)
      clear he h1
      go_enter Try.func41, Try.ntmps41
      go_wp2_with (first
        | (have hgd := D1; clear hgd; go_at_call 77; refine (isPart_any A2 n2 c2 ps A n c xs _ H2.out H.out).mono ?_; rintro e w2 ⟨rfl, rfl⟩; rw [H1.out]; have D2 := True.intro)
        | (go_at_call 72; refine (validateBoth_any A n c xs A' n' c' ys _ H.out H'.out).mono ?_; rintro e w1 ⟨rfl, rfl⟩; rw [HE.out]; have D1 := True.intro))
      go_ret
      exact ⟨ret_i64 HV.out.symm, rfl⟩
  · have HV := hide (errP_no (p := ps) he)
    have hne : (errB xs ys != 0) = true := by simpa using he
    clear he
    go_enter Try.func41, Try.ntmps41
    go_wp2_with (go_at_call 72; refine (validateBoth_any A n c xs A' n' c' ys _ H.out H'.out).mono ?_; rintro e w1 ⟨rfl, rfl⟩)
    go_ret
    exact ⟨ret_i64 HV.out.symm, rfl⟩
set_option maxRecDepth 100000 in
set_option maxHeartbeats 2000000 in
theorem rCheckCommon_any (A : Option Addr) (n c : Nat) (xs : List Int) (A' : Option Addr) (n' c' : Nat) (ys : List Int) (A2 : Option Addr) (n2 c2 : Nat) (ps : List Int) (w : World) (h : R E1 w A n c xs) (h' : R E1 w A' n' c' ys) (h2 : R E1 w A2 n2 c2 ps) :
    Calls Try.prog 42 #[.slice A n c, .slice A' n' c', .slice A2 n2 c2] w fun e w' => e = .returned (.int .i64 (errP xs ys ps)) ∧ ∃ q, w' = w.drewN q := by
  have H := hide h
  have H' := hide h'
  have H2 := hide h2
  clear h h' h2
  by_cases he : errB xs ys = 0
  · have HE := hide he
    cases h1 : partB ps xs with
    | true =>
      have H1 := hide h1
      cases h3 : partB ps ys with
      | true =>
        have H3 := hide h3
        have HV := hide (errP_yes he h1 h3)
        clear he h1 h3
        go_enter Try.func42, Try.ntmps42
        go_wp2_with (first
          | (have hgd := D2; clear hgd; go_at_call 78; refine (in_any A2 n2 c2 ps A' n' c' ys _ (H2.out.drewN q2) (H'.out.drewN q2)).mono ?_; rintro e w3 ⟨rfl, q3, rfl⟩; rw [H3.out])
          | (have hgd := D1; clear hgd; go_at_call 78; refine (in_any A2 n2 c2 ps A n c xs _ H2.out H.out).mono ?_; rintro e w2 ⟨rfl, q2, rfl⟩; rw [H1.out]; have D2 := True.intro)
          | (go_at_call 74; refine (rtwo_any A n c xs A' n' c' ys _ H.out H'.out).mono ?_; rintro e w1 ⟨rfl, rfl⟩; rw [HE.out]; have D1 := True.intro))
        go_ret
        exact ⟨ret_i64 HV.out.symm, q2 + q3, by first | rfl | (rw [World.drewN_drewN])⟩
      | false =>
        have H3 := hide h3
        have HV := hide (errP_m he h3)
        clear he h1 h3
        go_enter Try.func42, Try.ntmps42
        go_wp2_with (first
          | (have hgd := D2; clear hgd; go_at_call 78; refine (in_any A2 n2 c2 ps A' n' c' ys _ (H2.out.drewN q2) (H'.out.drewN q2)).mono ?_; rintro e w3 ⟨rfl, q3, rfl⟩; rw [H3.out])
          | (have hgd := D1; clear hgd; go_at_call 78; refine (in_any A2 n2 c2 ps A n c xs _ H2.out H.out).mono ?_; rintro e w2 ⟨rfl, q2, rfl⟩; rw [H1.out]; have D2 := True.intro)
          | (go_at_call 74; refine (rtwo_any A n c xs A' n' c' ys _ H.out H'.out).mono ?_; rintro e w1 ⟨rfl, rfl⟩; rw [HE.out]; have D1 := True.intro))
        go_ret
        exact ⟨ret_i64 HV.out.symm, q2 + q3, by first | rfl | (rw [World.drewN_drewN])⟩
    | false =>
      have H1 := hide h1
      have HV := hide (errP_l he h1)
      clear he h1
      go_enter Try.func42, Try.ntmps42
      go_wp2_with (first
        | (have hgd := D1; clear hgd; go_at_call 78; refine (in_any A2 n2 c2 ps A n c xs _ H2.out H.out).mono ?_; rintro e w2 ⟨rfl, q2, rfl⟩; rw [H1.out]; have D2 := True.intro)
        | (go_at_call 74; refine (rtwo_any A n c xs A' n' c' ys _ H.out H'.out).mono ?_; rintro e w1 ⟨rfl, rfl⟩; rw [HE.out]; have D1 := True.intro))
      go_ret
      exact ⟨ret_i64 HV.out.symm, q2, rfl⟩
  · have HV := hide (errP_no (p := ps) he)
    have hne : (errB xs ys != 0) = true := by simpa using he
    clear he
    go_enter Try.func42, Try.ntmps42
    go_wp2_with (go_at_call 74; refine (rtwo_any A n c xs A' n' c' ys _ H.out H'.out).mono ?_; rintro e w1 ⟨rfl, rfl⟩)
    go_ret
    exact ⟨ret_i64 HV.out.symm, 0, rfl⟩
set_option maxRecDepth 100000 in
set_option maxHeartbeats 2000000 in
theorem common_any (A : Option Addr) (n c : Nat) (xs : List Int) (A' : Option Addr) (n' c' : Nat) (ys : List Int) (w : World) (h : R E1 w A n c xs) (h' : R E1 w A' n' c' ys) (hn : n ≤ 10) (hn' : n' ≤ 10) :
    Calls Try.prog 73 #[.slice A n c, .slice A' n' c'] w fun e w' => e = .returned (.int .i64 (cmn xs ys)) ∧ Below w.heap.size w w' := by
  have hd := (cmn_spec xs ys).2.2
  rw [h.length, h'.length] at hd
  have HD := hide (show dist xs ys ⟨1, 1, 2⟩ = (n : Int) + n' - 2 * (cmn xs ys : Int) from hd)
  have hp : (cmn xs ys : Int) ≤ 20 := by
    have : dist xs ys C112 ≥ 0 := dist_nn C112_ok xs ys
    omega
  have H := hide h
  have H' := hide h'
  clear h h' hd
  generalize cmn xs ys = k at *
  have hk0 : (n : Int) + (n' : Int) - ((n : Int) + n' - 2 * (k : Int)) = 2 * (k : Int) := by omega
  have hk1 : (2 * (k : Int)) / 2 = (k : Int) := by omega
  have hk2 : (2 * (k : Int)).tdiv 2 = (k : Int) := by rw [Int.tdiv_eq_ediv_of_nonneg (by omega)]; omega
  have hkw : IntKind.i64.wrap (k : Int) = k := IntWalk.i64_in _ (by omega)
  go_enter Try.func73, Try.ntmps73
  go_wp2_with (go_at_call 61; refine (distance_any A n c xs A' n' c' ys 1 1 2 _ H.out H'.out hn hn' (by omega) (by omega) (by omega)).mono ?_; rw [HD.out]; rintro e w1 ⟨rfl, b1⟩; have D1 := hide b1; clear b1)
  go_ret
  exact ⟨ret_i64 (by first | rfl | omega | (simp; omega)), D1.out⟩
set_option maxRecDepth 100000 in
set_option maxHeartbeats 2000000 in
theorem Common_any (A : Option Addr) (n c : Nat) (xs : List Int) (A' : Option Addr) (n' c' : Nat) (ys : List Int) (w : World) (h : R E1 w A n c xs) (h' : R E1 w A' n' c' ys) :
    Calls Try.prog 37 #[.slice A n c, .slice A' n' c'] w fun e w' => e = .returned (.tuple #[.int .i64 (comV xs ys), .int .i64 (errB xs ys)]) ∧ Below w.heap.size w w' := by
  have H := hide h
  have H' := hide h'
  by_cases he : errB xs ys = 0
  · have HE := hide he
    have HV := hide (comV_ok he)
    obtain ⟨h1, h2⟩ := errB_ok.1 he
    have hn : n ≤ 10 := by rw [← h.length]; exact (errL_ok.1 h1).1
    have hn' : n' ≤ 10 := by rw [← h'.length]; exact (errL_ok.1 h2).1
    clear h h' he h1 h2
    go_enter Try.func37, Try.ntmps37
    go_wp2_with (first
      | (go_at_call 72; refine (validateBoth_any A n c xs A' n' c' ys _ H.out H'.out).mono ?_; rintro e w1 ⟨rfl, rfl⟩; rw [HE.out])
      | (go_at_call 73; refine (common_any A n c xs A' n' c' ys _ H.out H'.out hn hn').mono ?_; rintro e w2 ⟨rfl, b2⟩; have D2 := hide b2; clear b2))
    go_ret2
    exact ⟨by rw [HV.out, HE.out]; rfl, D2.out⟩
  · have HV := hide (comV_no he)
    have hne : (errB xs ys != 0) = true := by simpa using he
    clear h h' he
    go_enter Try.func37, Try.ntmps37
    go_wp2_with (go_at_call 72; refine (validateBoth_any A n c xs A' n' c' ys _ H.out H'.out).mono ?_; rintro e w1 ⟨rfl, rfl⟩)
    go_ret2
    exact ⟨by rw [HV.out]; rfl, Below.refl _ _⟩
end Go.Proofs.Ytndfdminjegldaa
