/- Running, Peak of the document, and comparing lists. -/
import Derived.Test.YtpkjgnllkaafkaaWalkE
namespace Go.Proofs.Ytpkjgnllkaafkaa
open Go.RowKit

set_option maxHeartbeats 1000000 in
theorem rrunning_any (A : Option Addr) (n c : Nat) (xs : Ls) (m : Int) (w : World) (h : R E3 w A n c xs) (hn : n ≤ 1000) :
    Calls Try.prog 65 #[.slice A n c, .int .i64 m] w (IntsPost (runIx xs m) w) := by
  obtain ⟨b, off, hr⟩ := h
  have HR := hide hr
  have HL := hide hr.len
  have hcap := hr.cap
  have hmax := hr.max
  clear hr
  go_enter Try.func65, Try.ntmps65
  go_wp2_with fail
  go_loopw [5, 6] (fun v i wr => ∃ (k : Nat) (B : Option Addr) (p q : Nat), k ≤ n ∧ i = .int .i64 k ∧ v = .slice B p q ∧ Hid (Own E1 wr w.heap.size 3 B p q (runTo xs m k)) ∧ Hid (p ≤ k) ∧ Hid (Below w.heap.size w wr)) (fun _ i _ => n - (intOf i).toNat)
  case atStart => exact ⟨0, none, 0, 0, Nat.zero_le _, rfl, rfl, hide (Own.nil E1 _ _ _), hide (Nat.le_refl _), hide (Below.refl _ _)⟩
  case round =>
    obtain ⟨k, B, p, q, hk, rfl, rfl, HO, HPK, HB⟩ := hrel
    by_cases hlt : k < n
    · obtain rfl := HR.out.at_ (by omega)
      have hbl := HR.out.lt (by omega)
      obtain ⟨c1, c2, c3⟩ := c3 (HR.out.under HB.out fun _ => hbl) hlt
      have hblr : b < wr.heap.size := Nat.lt_of_lt_of_le hbl HB.out.size
      have HY := hide (runTo_yes (l := xs) (m := m) (k := k) (x := xs.getD k sh0) rfl)
      have HN := hide (runTo_no (l := xs) (m := m) (k := k) (x := xs.getD k sh0) rfl)
      generalize xs.getD k sh0 = x at *
      obtain ⟨x1, x2, x3⟩ := x
      simp only at c1 c2 c3
      have hpk := HPK.out
      have hsz := HB.out.size
      cases hrun : runB (x1, x2, x3) m with
      | true =>
        have HO1 := hide (HY.out hrun)
        have HRUN := hide hrun
        clear hrun
        go_wp2_with (first | (go_at_call 82; refine (rruns_any _ _ _ _ _).mono ?_; rintro e w1 ⟨rfl, b1⟩; rw [HRUN.out]; have HO2 := hide (HO.out.below b1 (Nat.le_refl _)); have HB2 := hide (HB.out.trans (b1.mono hsz)); have hs2 := HB2.out.size; clear b1) | (at_builtin; refine wpList_app1 (E := E1) _ (.int .i64 0) 8 rfl (.tmp 19) (.tmp 21) 30 3 rfl Try.underlying30 info_int rfl (by decide) (by omega) _ _ _ _ _ ((k : Int)) _ rfl rfl rfl HO2.out (by omega) hs2 ?_; intro A2 c2 w5 o5 b5 g5))
        go_roundw
        case rel => exact ⟨k + 1, A2, p + 1, c2, by omega, by go_num, rfl, hide (by rw [HO1.out]; exact o5), hide (by omega), hide (HB2.out.trans b5)⟩
        case measure => simp [intOf]; omega
      | false =>
        have HO1 := hide (HN.out hrun)
        have HRUN := hide hrun
        clear hrun
        go_wp2_with (go_at_call 82; refine (rruns_any _ _ _ _ _).mono ?_; rintro e w1 ⟨rfl, b1⟩; rw [HRUN.out])
        go_roundw
        case rel => exact ⟨k + 1, B, p, q, by omega, by go_num, rfl, hide (by rw [HO1.out]; exact HO.out.below b1 (Nat.le_refl _)), hide (by omega), hide (HB.out.trans (b1.mono hsz))⟩
        case measure => simp [intOf]; omega
    · obtain rfl : k = n := by omega
      go_wp2_with fail
      go_ret
      exact ⟨B, p, q, rfl, by rw [← runTo_all HL.out]; exact HO.out, HB.out⟩

theorem withinB_false' {n lo hi : Int} (h : ¬ (lo ≤ n ∧ n ≤ hi)) : withinB n lo hi = false := withinB_false (by omega)
def errRun (xs : Ls) (m : Int) : Int := if errV xs = 0 then (if 0 ≤ m ∧ m ≤ 1000 then 0 else 1) else errV xs
/-- A row of integers of its own, new, and an error. -/
def IntsErr (v : List Int) (x : Int) (w : World) (e : Ending) (w' : World) : Prop :=
  ∃ (A : Option Addr) (n c : Nat), e = .returned (.tuple #[.slice A n c, .int .i64 x]) ∧ Own E1 w' w.heap.size 3 A n c v ∧ Below w.heap.size w w'
def runV (xs : Ls) (m : Int) : List Int := if errRun xs m = 0 then runIx xs m else []
theorem runV_ok {xs : Ls} {m : Int} (h : errRun xs m = 0) : runV xs m = runIx xs m := by unfold runV; rw [if_pos h]
theorem runV_no {xs : Ls} {m : Int} (h : errRun xs m ≠ 0) : runV xs m = [] := by unfold runV; rw [if_neg h]
theorem errV_le {xs : Ls} (h : errV xs = 0) : xs.length ≤ 12 := (errV_ok.1 h).1

set_option maxHeartbeats 1000000 in
theorem Running_any (A : Option Addr) (n c : Nat) (xs : Ls) (m : Int) (w : World) (h : R E3 w A n c xs) (hn : n ≤ 1000) :
    Calls Try.prog 25 #[.slice A n c, .int .i64 m] w (IntsErr (runV xs m) (errRun xs m) w) := by
  by_cases he : errV xs = 0
  · have HE := hide he
    by_cases hm : 0 ≤ m ∧ m ≤ 1000
    · have HX := hide (show errRun xs m = 0 by unfold errRun; rw [if_pos he, if_pos hm])
      obtain ⟨hm1, hm2⟩ := hm
      clear he
      go_enter Try.func25, Try.ntmps25
      go_wp2_with (first | (go_at_call 23; refine (Validate_any _ _ _ xs _ h hn).mono ?_; rintro e w1 ⟨rfl, b1⟩; rw [HE.out]) | (go_at_call 63; refine (running_any _ _ _ xs _ _ (h.below b1 (Nat.le_refl _)) hn).mono ?_; rintro e w2 ⟨A2, n2, c2, rfl, o2, b2⟩))
      go_ret2
      exact ⟨A2, n2, c2, by rw [HX.out]; rfl, by rw [runV_ok HX.out]; exact o2.more b1.size, b1.trans (b2.mono b1.size)⟩
    · have HX := hide (show errRun xs m = 1 by unfold errRun; rw [if_pos he, if_neg hm])
      by_cases h1 : m < 0
      all_goals
        clear he
        go_enter Try.func25, Try.ntmps25
        go_wp2_with (first | (go_at_call 23; refine (Validate_any _ _ _ xs _ h hn).mono ?_; rintro e w1 ⟨rfl, b1⟩; rw [HE.out]))
        all_goals first
          | omega
          | (go_ret2
             exact ⟨none, 0, 0, by rw [HX.out]; rfl, by rw [runV_no (by rw [HX.out]; decide)]; exact Own.nil _ _ _ _, b1⟩)
  · have HX := hide (show errRun xs m = errV xs by unfold errRun; rw [if_neg he])
    have hne : (errV xs != 0) = true := by simpa using he
    have HNE := hide he
    clear he
    go_enter Try.func25, Try.ntmps25
    go_wp2_with (first | (go_at_call 23; refine (Validate_any _ _ _ xs _ h hn).mono ?_; rintro e w1 ⟨rfl, b1⟩))
    go_ret2
    exact ⟨none, 0, 0, by rw [HX.out]; rfl, by rw [runV_no (by rw [HX.out]; exact HNE.out)]; exact Own.nil _ _ _ _, b1⟩
set_option maxHeartbeats 1000000 in
theorem rRunning_any (A : Option Addr) (n c : Nat) (xs : Ls) (m : Int) (w : World) (h : R E3 w A n c xs) (hn : n ≤ 1000) :
    Calls Try.prog 26 #[.slice A n c, .int .i64 m] w (IntsErr (runV xs m) (errRun xs m) w) := by
  by_cases he : errV xs = 0
  · have HE := hide he
    by_cases hm : 0 ≤ m ∧ m ≤ 1000
    · have HX := hide (show errRun xs m = 0 by unfold errRun; rw [if_pos he, if_pos hm])
      have HW := hide (withinB_true hm.1 hm.2)
      clear he hm
      go_enter Try.func26, Try.ntmps26
      go_wp2_with (first | (go_at_call 24; refine (rValidate_any _ _ _ xs _ h hn).mono ?_; rintro e w1 ⟨rfl, b1⟩; rw [HE.out]) | (go_at_call 64; refine (within_any _ _ _ _).mono ?_; rintro e w' ⟨rfl, rfl⟩; rw [HW.out]) | (go_at_call 65; refine (rrunning_any _ _ _ xs _ _ (h.below b1 (Nat.le_refl _)) hn).mono ?_; rintro e w2 ⟨A2, n2, c2, rfl, o2, b2⟩))
      go_ret2
      exact ⟨A2, n2, c2, by rw [HX.out]; rfl, by rw [runV_ok HX.out]; exact o2.more b1.size, b1.trans (b2.mono b1.size)⟩
    · have HX := hide (show errRun xs m = 1 by unfold errRun; rw [if_pos he, if_neg hm])
      have HW := hide (withinB_false' hm)
      clear he hm
      go_enter Try.func26, Try.ntmps26
      go_wp2_with (first | (go_at_call 24; refine (rValidate_any _ _ _ xs _ h hn).mono ?_; rintro e w1 ⟨rfl, b1⟩; rw [HE.out]) | (go_at_call 64; refine (within_any _ _ _ _).mono ?_; rintro e w' ⟨rfl, rfl⟩; rw [HW.out]))
      go_ret2
      exact ⟨none, 0, 0, by rw [HX.out]; rfl, by rw [runV_no (by rw [HX.out]; decide)]; exact Own.nil _ _ _ _, b1⟩
  · have HX := hide (show errRun xs m = errV xs by unfold errRun; rw [if_neg he])
    have hne : (errV xs != 0) = true := by simpa using he
    have HNE := hide he
    clear he
    go_enter Try.func26, Try.ntmps26
    go_wp2_with (first | (go_at_call 24; refine (rValidate_any _ _ _ xs _ h hn).mono ?_; rintro e w1 ⟨rfl, b1⟩))
    go_ret2
    exact ⟨none, 0, 0, by rw [HX.out]; rfl, by rw [runV_no (by rw [HX.out]; exact HNE.out)]; exact Own.nil _ _ _ _, b1⟩
/-- The peak: the moment and how many run then. -/
def peak (xs : Ls) : Int × Nat := if errV xs = 0 then scan (cnt xs) (moms 1001) else (0, 0)
set_option maxHeartbeats 1000000 in
theorem rPeak_any (A : Option Addr) (n c : Nat) (xs : Ls) (w : World) (h : R E3 w A n c xs) (hn : n ≤ 1000) :
    Calls Try.prog 28 #[.slice A n c] w fun e w' => e = .returned (.tuple #[.int .i64 (peak xs).1, .int .i64 (peak xs).2, .int .i64 (errV xs)]) ∧ Below w.heap.size w w' := by
  by_cases he : errV xs = 0
  · have HX := hide (show peak xs = scan (cnt xs) (moms 1001) by unfold peak; rw [if_pos he])
    have HE := hide he
    clear he
    go_enter Try.func28, Try.ntmps28
    go_wp2_with (first | (go_at_call 24; refine (rValidate_any _ _ _ xs _ h hn).mono ?_; rintro e w1 ⟨rfl, b1⟩; rw [HE.out]; have HB1 := hide b1; clear b1))
    go_loopw [6, 7, 8] (fun a b i wr => ∃ k : Nat, k ≤ 1001 ∧ i = .int .i64 k ∧ a = .int .i64 (scan (cnt xs) (moms k)).1 ∧ b = .int .i64 ((scan (cnt xs) (moms k)).2 : Nat) ∧ Hid (Below w.heap.size w wr)) (fun _ _ i _ => 1001 - (intOf i).toNat)
    case atStart => exact ⟨0, by omega, rfl, rfl, rfl, HB1⟩
    case round =>
      clear HB1
      obtain ⟨k, hk, rfl, rfl, rfl, HB⟩ := hrel
      by_cases hlt : k < 1001
      · have hlt' : (k : Int) ≤ 1000 := by omega
        have hsz := HB.out.size
        have HS := hide (show scan (cnt xs) (moms (k + 1)) = _ by rw [moms_succ, scan_snoc])
        have HC := hide (runIx_len xs k)
        have hc1 := cnt_le xs k
        generalize scan (cnt xs) (moms k) = s at *
        obtain ⟨s1, s2⟩ := s
        simp only at *
        by_cases hc : s2 < cnt xs k
        · have HS1 := hide (show scan (cnt xs) (moms (k + 1)) = ((k : Int), cnt xs k) by rw [HS.out, if_pos hc])
          clear HS
          go_wp2_with (first | (go_at_call 65; refine (rrunning_any _ _ _ xs _ _ (h.below HB.out (Nat.le_refl _)) hn).mono ?_; rintro e w2 ⟨A2, n2, c2, rfl, o2, b2⟩; have hl := o2.len; rw [HC.out] at hl; subst hl))
          all_goals first
            | omega
            | (go_roundw
               case rel => exact ⟨k + 1, by omega, by go_num, by rw [HS1.out], by rw [HS1.out], hide (HB.out.trans (b2.mono hsz))⟩
               case measure => simp [intOf]; omega)
        · have HS1 := hide (show scan (cnt xs) (moms (k + 1)) = (s1, s2) by rw [HS.out, if_neg hc])
          clear HS
          go_wp2_with (first | (go_at_call 65; refine (rrunning_any _ _ _ xs _ _ (h.below HB.out (Nat.le_refl _)) hn).mono ?_; rintro e w2 ⟨A2, n2, c2, rfl, o2, b2⟩; have hl := o2.len; rw [HC.out] at hl; subst hl))
          all_goals first
            | omega
            | (go_roundw
               case rel => exact ⟨k + 1, by omega, by go_num, by rw [HS1.out], by rw [HS1.out], hide (HB.out.trans (b2.mono hsz))⟩
               case measure => simp [intOf]; omega)
      · obtain rfl : k = 1001 := by omega
        generalize hs : scan (cnt xs) (moms 1001) = s at *
        obtain ⟨s1, s2⟩ := s
        clear hs
        simp only
        go_wp2_with fail
        go_ret3
        exact ⟨by rw [HX.out, HE.out]; rfl, HB.out⟩
  · have HX := hide (show peak xs = (0, 0) by unfold peak; rw [if_neg he])
    have hne : (errV xs != 0) = true := by simpa using he
    clear he
    go_enter Try.func28, Try.ntmps28
    go_wp2_with (first | (go_at_call 24; refine (rValidate_any _ _ _ xs _ h hn).mono ?_; rintro e w1 ⟨rfl, b1⟩))
    go_ret3
    exact ⟨by rw [HX.out]; rfl, b1⟩
end Go.Proofs.Ytpkjgnllkaafkaa
