/- CheckCounts, on both sides. -/
import Derived.Test.YtlhlcchimammlaaWalkC
namespace Go.Proofs.Ytlhlcchimammlaa
open Go.RowKit Go.Shelf

/-- Counts are right as to these weights. -/
def CntOk (xs cs : List Int) : Prop := cs.length = xs.length ∧ CntTo cs cs.length
instance (xs cs : List Int) : Decidable (CntOk xs cs) := by unfold CntOk CntTo; exact inferInstance
def errK (xs cs : List Int) : Int := if errW xs = 0 then (if CntOk xs cs then 0 else 1) else errW xs
def cntV (xs cs : List Int) : Int := if errK xs cs = 0 then dotTo xs cs xs.length else 0
theorem errK_no {xs cs : List Int} (h : errW xs ≠ 0) : errK xs cs = errW xs := if_neg h
theorem errK_arg {xs cs : List Int} (h : errW xs = 0) (hc : ¬ CntOk xs cs) : errK xs cs = 1 := by unfold errK; rw [if_pos h, if_neg hc]
theorem errK_fine {xs cs : List Int} (h : errW xs = 0) (hc : CntOk xs cs) : errK xs cs = 0 := by unfold errK; rw [if_pos h, if_pos hc]
theorem cntV_ok {xs cs : List Int} (h : errW xs = 0) (hc : CntOk xs cs) : cntV xs cs = dotTo xs cs xs.length := if_pos (errK_fine h hc)
theorem cntV_no {xs cs : List Int} (h : errK xs cs ≠ 0) : cntV xs cs = 0 := if_neg h
theorem errK_ok {xs cs : List Int} : errK xs cs = 0 ↔ VW xs ∧ CntOk xs cs := by
  rw [← errW_vw]
  unfold errK
  split
  · split <;> simp_all
  · constructor
    · intro h; contradiction
    · rintro ⟨h, _⟩; contradiction
theorem cnt_bad {xs cs : List Int} {k : Nat} (hk : k < cs.length) (h : ¬ (0 ≤ cs.getD k 0 ∧ cs.getD k 0 ≤ 2000)) : ¬ CntOk xs cs := fun ⟨_, h'⟩ => h (h' k hk)
theorem cntTo_succ {cs : List Int} {k : Nat} (h : CntTo cs k) (hk : 0 ≤ cs.getD k 0 ∧ cs.getD k 0 ≤ 2000) : CntTo cs (k + 1) := fun i hi => by
  by_cases e : i = k
  · subst e; exact hk
  · exact h i (by omega)
theorem mul_bd {y x : Int} (hy : 0 ≤ y ∧ y ≤ 2000) (hx : 1 ≤ x ∧ x ≤ 30) : 0 ≤ y * x ∧ y * x ≤ 60000 :=
  ⟨Int.mul_nonneg hy.1 (by omega), Int.le_trans (Int.mul_le_mul_of_nonneg_right hy.2 (by omega)) (by omega)⟩
set_option maxHeartbeats 2000000 in
theorem CheckCounts_any (A : Option Addr) (n c : Nat) (xs : List Int) (A' : Option Addr) (n' c' : Nat) (cs : List Int) (w : World) (h : R E1 w A n c xs) (h' : R E1 w A' n' c' cs) :
    Calls Try.prog 23 #[.slice A n c, .slice A' n' c'] w fun e w' => e = .returned (.tuple #[.int .i64 (cntV xs cs), .int .i64 (errK xs cs)]) ∧ ∃ q, w' = w.drewN q := by
  have H := hide h
  have hl := h.length
  have hl' := h'.length
  have hle := h.le
  have hle' := h'.le
  have H1 := hide hl
  have H2 := hide hl'
  by_cases he : errW xs = 0
  · have HE := hide he
    have HV := hide (errW_vw.1 he)
    have hn4 : n ≤ 4 := by rw [← hl]; exact (errW_vw.1 he).2.1
    by_cases hnn : n' = n
    · subst hnn
      obtain ⟨b, off, hr⟩ := h
      obtain ⟨b', off', hr'⟩ := h'
      have H4 := hide hr
      have H5 := hide hr'
      clear hr hr' hl hl' he
      go_enter Try.func23, Try.ntmps23
      go_wp2_with (go_at_call 25; refine (Validate_any _ _ _ xs _ H.out).mono ?_; rintro e w1 ⟨rfl, rfl⟩; rw [HE.out])
      go_loopw [7, 22] (fun s i wr => ∃ k q : Nat, k ≤ n' ∧ i = .int .i64 k ∧ s = .int .i64 (dotTo xs cs k) ∧ CntTo cs k ∧ wr = w.drewN q) (fun _ i _ => n' - (intOf i).toNat)
      case atStart => exact ⟨0, 0, Nat.zero_le _, rfl, rfl, fun i hi => absurd hi (Nat.not_lt_zero i), rfl⟩
      case round =>
        obtain ⟨k, q, hk, rfl, rfl, hrep, rfl⟩ := hrel
        have hd := dotTo_bd HV.out.wt (cs := cs) (k := k) (by rw [H1.out]; exact hk) hrep
        by_cases hlt : k < n'
        · obtain rfl := H4.out.at_ (by omega)
          obtain rfl := H5.out.at_ (by omega)
          have hc1 := c1 H4.out hlt
          have hc2 := c1 H5.out hlt
          have hx := HV.out.wt.at_ (k := k) (by rw [H1.out]; exact hlt)
          have HS := hide (dotTo_succ xs cs k)
          have HF := hide (fun h => cnt_bad (xs := xs) (cs := cs) (k := k) (by rw [H2.out]; exact hlt) h)
          have HN := hide (fun h => cntTo_succ (cs := cs) (k := k) hrep h)
          generalize xs.getD k 0 = x at hc1 hx HS
          generalize cs.getD k 0 = y at hc2 HS HF HN
          generalize dotTo xs cs k = d at *
          rcases withinB_dec y 0 2000 with ⟨hwx, hy1, hy2⟩ | ⟨hwx, hy⟩
          · have HW := hide hwx
            have hp := mul_bd ⟨hy1, hy2⟩ hx
            clear hwx HF
            go_wp2_with (go_at_call 58; refine (isAmount_any _ _).mono ?_; rintro e w1 ⟨rfl, rfl⟩; rw [HW.out])
            go_roundw
            case rel => exact ⟨k + 1, q, by omega, by go_num, by rw [HS.out], HN.out ⟨hy1, hy2⟩, rfl⟩
            case measure => simp [intOf]; omega
          · have HW := hide hwx
            have HB := hide (errK_arg HE.out (HF.out hy))
            clear hwx HN HS
            go_wp2_with (go_at_call 58; refine (isAmount_any _ _).mono ?_; rintro e w1 ⟨rfl, rfl⟩; rw [HW.out])
            go_ret2
            exact ⟨by rw [cntV_no (by rw [HB.out]; decide), HB.out]; rfl, q, rfl⟩
        · obtain rfl : k = n' := by omega
          have HC := hide (show CntOk xs cs from ⟨by rw [H2.out, H1.out], by rw [H2.out]; exact hrep⟩)
          have HD := hide (show dotTo xs cs k = dotTo xs cs xs.length from by rw [H1.out])
          go_wp2_with fail
          go_ret2
          exact ⟨by rw [cntV_ok HE.out HC.out, errK_fine HE.out HC.out, HD.out]; rfl, q, rfl⟩
    · have HC := hide (errK_arg (cs := cs) he (fun ⟨h1, _⟩ => hnn (by rw [← hl', ← hl]; exact h1)))
      have hne : ((n' : Int) != (n : Int)) = true := by simp; omega
      clear he hl hl'
      go_enter Try.func23, Try.ntmps23
      go_wp2_with (go_at_call 25; refine (Validate_any _ _ _ xs _ H.out).mono ?_; rintro e w1 ⟨rfl, rfl⟩; rw [HE.out])
      go_ret2
      exact ⟨by rw [cntV_no (by rw [HC.out]; decide), HC.out]; rfl, 0, rfl⟩
  · have HM := hide (errK_no (cs := cs) he)
    have HZ := hide (cntV_no (xs := xs) (cs := cs) (by rw [errK_no he]; exact he))
    have hne : (errW xs != 0) = true := by simpa using he
    clear he hl hl'
    go_enter Try.func23, Try.ntmps23
    go_wp2_with (go_at_call 25; refine (Validate_any _ _ _ xs _ H.out).mono ?_; rintro e w1 ⟨rfl, rfl⟩)
    go_ret2
    exact ⟨by rw [HM.out, HZ.out]; rfl, 0, rfl⟩
set_option maxHeartbeats 2000000 in
theorem rCheckCounts_any (A : Option Addr) (n c : Nat) (xs : List Int) (A' : Option Addr) (n' c' : Nat) (cs : List Int) (w : World) (h : R E1 w A n c xs) (h' : R E1 w A' n' c' cs) :
    Calls Try.prog 24 #[.slice A n c, .slice A' n' c'] w fun e w' => e = .returned (.tuple #[.int .i64 (cntV xs cs), .int .i64 (errK xs cs)]) ∧ ∃ q, w' = w.drewN q := by
  have H := hide h
  have hl := h.length
  have hl' := h'.length
  have hle := h.le
  have hle' := h'.le
  have H1 := hide hl
  have H2 := hide hl'
  by_cases he : errW xs = 0
  · have HE := hide he
    have HV := hide (errW_vw.1 he)
    have hn4 : n ≤ 4 := by rw [← hl]; exact (errW_vw.1 he).2.1
    by_cases hnn : n' = n
    · subst hnn
      obtain ⟨b, off, hr⟩ := h
      obtain ⟨b', off', hr'⟩ := h'
      have H4 := hide hr
      have H5 := hide hr'
      clear hr hr' hl hl' he
      go_enter Try.func24, Try.ntmps24
      go_wp2_with (go_at_call 26; refine (rValidate_any _ _ _ xs _ H.out).mono ?_; rintro e w1 ⟨rfl, q0, rfl⟩; rw [HE.out])
      go_loopw [7, 8] (fun s i wr => ∃ k q : Nat, k ≤ n' ∧ i = .int .i64 k ∧ s = .int .i64 (dotTo xs cs k) ∧ CntTo cs k ∧ wr = w.drewN q) (fun _ i _ => n' - (intOf i).toNat)
      case atStart => exact ⟨0, q0, Nat.zero_le _, rfl, rfl, fun i hi => absurd hi (Nat.not_lt_zero i), rfl⟩
      case round =>
        obtain ⟨k, q, hk, rfl, rfl, hrep, rfl⟩ := hrel
        have hd := dotTo_bd HV.out.wt (cs := cs) (k := k) (by rw [H1.out]; exact hk) hrep
        by_cases hlt : k < n'
        · obtain rfl := H4.out.at_ (by omega)
          obtain rfl := H5.out.at_ (by omega)
          have hc1 := c1 H4.out hlt
          have hc2 := c1 H5.out hlt
          have hx := HV.out.wt.at_ (k := k) (by rw [H1.out]; exact hlt)
          have HS := hide (dotTo_succ xs cs k)
          have HF := hide (fun h => cnt_bad (xs := xs) (cs := cs) (k := k) (by rw [H2.out]; exact hlt) h)
          have HN := hide (fun h => cntTo_succ (cs := cs) (k := k) hrep h)
          generalize xs.getD k 0 = x at hc1 hx HS
          generalize cs.getD k 0 = y at hc2 HS HF HN
          generalize dotTo xs cs k = d at *
          rcases withinB_dec y 0 2000 with ⟨hwx, hy1, hy2⟩ | ⟨hwx, hy⟩
          · have HW := hide hwx
            have hp := mul_bd ⟨hy1, hy2⟩ hx
            have hw1 : IntKind.i64.wrap (y * x) = y * x := IntWalk.i64_in _ (by omega)
            have hw2 : IntKind.i64.wrap (d + y * x) = d + y * x := IntWalk.i64_in _ (by omega)
            clear hwx HF
            go_wp2_with (go_at_call 59; refine (within_any _ _ _ _).mono ?_; rintro e w1 ⟨rfl, rfl⟩; rw [HW.out])
            go_quiet (fail)
            go_wp2_with fail
            go_roundw
            case rel => exact ⟨k + 1, q + nq, by omega, by go_num, by rw [HS.out], HN.out ⟨hy1, hy2⟩, by first | rfl | (rw [World.drewN_drewN])⟩
            case measure => simp [intOf]; omega
          · have HW := hide hwx
            have HB := hide (errK_arg HE.out (HF.out hy))
            clear hwx HN HS
            go_wp2_with (go_at_call 59; refine (within_any _ _ _ _).mono ?_; rintro e w1 ⟨rfl, rfl⟩; rw [HW.out])
            go_ret2
            exact ⟨by rw [cntV_no (by rw [HB.out]; decide), HB.out]; rfl, q, rfl⟩
        · obtain rfl : k = n' := by omega
          have HC := hide (show CntOk xs cs from ⟨by rw [H2.out, H1.out], by rw [H2.out]; exact hrep⟩)
          have HD := hide (show dotTo xs cs k = dotTo xs cs xs.length from by rw [H1.out])
          go_wp2_with fail
          go_ret2
          exact ⟨by rw [cntV_ok HE.out HC.out, errK_fine HE.out HC.out, HD.out]; rfl, q, rfl⟩
    · have HC := hide (errK_arg (cs := cs) he (fun ⟨h1, _⟩ => hnn (by rw [← hl', ← hl]; exact h1)))
      have hne : ((n' : Int) != (n : Int)) = true := by simp; omega
      clear he hl hl'
      go_enter Try.func24, Try.ntmps24
      go_wp2_with (go_at_call 26; refine (rValidate_any _ _ _ xs _ H.out).mono ?_; rintro e w1 ⟨rfl, q0, rfl⟩; rw [HE.out])
      go_ret2
      exact ⟨by rw [cntV_no (by rw [HC.out]; decide), HC.out]; rfl, q0, rfl⟩
  · have HM := hide (errK_no (cs := cs) he)
    have HZ := hide (cntV_no (xs := xs) (cs := cs) (by rw [errK_no he]; exact he))
    have hne : (errW xs != 0) = true := by simpa using he
    clear he hl hl'
    go_enter Try.func24, Try.ntmps24
    go_wp2_with (go_at_call 26; refine (rValidate_any _ _ _ xs _ H.out).mono ?_; rintro e w1 ⟨rfl, q0, rfl⟩)
    go_ret2
    exact ⟨by rw [HM.out, HZ.out]; rfl, q0, rfl⟩
end Go.Proofs.Ytlhlcchimammlaa
