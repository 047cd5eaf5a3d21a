/- Equal lists, and the walk of WatchRuns. -/
import Derived.Test.YtpijfnimmcgchaaLift
namespace Go.Proofs.Ytpijfnimmcgchaa
open Go.RowKit

set_option maxHeartbeats 1000000 in
theorem SameInts_self (A : Option Addr) (n c : Nat) (A' : Option Addr) (n' c' : Nat) (v : List Int) (w : World) (h : R E1 w A n c v) (h' : R E1 w A' n' c' v) (hn : n ≤ 100000) :
    Calls Try.prog 29 #[.slice A n c, .slice A' n' c'] w fun e w' => e = .returned (.bool true) ∧ Below w.heap.size w w' := by
  have e1 := h.length
  have e2 := h'.length
  obtain rfl : n' = n := by omega
  clear e1 e2
  obtain ⟨b, off, hr⟩ := h
  obtain ⟨b', off', hr'⟩ := h'
  have HR := hide hr
  have HR' := hide hr'
  have hcap := hr.cap
  have hmax := hr.max
  have hcap' := hr'.cap
  have hmax' := hr'.max
  clear hr hr'
  go_enter Try.func29, Try.ntmps29
  go_wp2_with fail
  go_loopw [5] (fun i wr => ∃ k q : Nat, k ≤ n' ∧ i = .int .i64 k ∧ wr = w.drewN q) (fun i _ => n' - (intOf i).toNat)
  case atStart => exact ⟨0, 0, Nat.zero_le _, rfl, rfl⟩
  case round =>
    obtain ⟨k, q, hk, rfl, rfl⟩ := hrel
    by_cases hlt : k < n'
    · obtain rfl := HR.out.at_ (by omega)
      obtain rfl := HR'.out.at_ (by omega)
      have hbl := HR.out.lt (by omega)
      have hbl' := HR'.out.lt (by omega)
      have a1 := c1 HR.out hlt
      have d1 := c1 HR'.out hlt
      have i1 : (k : Int) < (n' : Int) := by omega
      generalize v.getD k 0 = x at a1 d1
      have hxx : (x != x) = false := by simp
      go_wp2_with fail
      go_quiet (fail)
      go_wp2_with fail
      go_roundw
      case rel => exact ⟨k + 1, q + nq, by omega, by go_num, by first | rfl | (rw [World.drewN_drewN])⟩
      case measure => simp [intOf]; omega
    · go_wp2_with fail
      go_ret
      exact ⟨rfl, below_drewN (Below.refl _ _) _⟩
theorem run_peak {xs : Ls} {m : Int} (h : errRun xs m = 0) : (runV xs m).length ≤ (peak xs).2 := by
  rw [runV_ok h, runIx_len]
  by_cases he : errV xs = 0
  · have hm : 0 ≤ m ∧ m ≤ 1000 := by
      unfold errRun at h
      rw [if_pos he] at h
      by_cases hh : 0 ≤ m ∧ m ≤ 1000
      · exact hh
      · rw [if_neg hh] at h; cases h
    unfold peak
    rw [if_pos he]
    exact (scan_pk (cnt xs) (moms 1001) (moms_sorted _)).top m (mem_moms.2 (by omega))
  · unfold errRun at h
    rw [if_neg he] at h
    exact absurd h he

set_option maxHeartbeats 2000000 in
theorem WatchRuns_walk (A : Option Addr) (n c : Nat) (xs : Ls) (m : Int) (w : World) (h : R E3 w A n c xs) (_ : (Lit.int .i64 m).wf = true) :
    Calls Try.prog 4 #[.slice A n c, .int .i64 m] w fun e w' => e = .returned (.bool true) ∧ Below w.heap.size w w' := by
  have HX := hide h
  clear h
  by_cases hn : 50 < n
  · have hb : decide (50 < n) = true := by simpa using hn
    have HB := hide hb
    clear hb
    go_enter Try.func4, Try.ntmps4
    go_wp2_with fail
    refine (Long0_any _ _ _ _ _ HB.out).mono ?_
    rintro e w' ⟨rfl, rfl⟩
    go_wp2_with fail
    refine (sane_any _).mono ?_
    rintro e w1 ⟨rfl, b1⟩
    go_wp2_with fail
    go_ret
    exact ⟨rfl, b1⟩
  · have hb : decide (50 < n) = false := by simpa using hn
    have HB := hide hb
    have hn2 : n ≤ 1000 := by omega
    clear hb
    go_enter Try.func4, Try.ntmps4
    go_wp2_with fail
    refine (Long0_any _ _ _ _ _ HB.out).mono ?_
    rintro e w' ⟨rfl, rfl⟩
    go_wp2_with fail
    refine (Running_any _ _ _ xs _ _ HX.out hn2).mono ?_
    rintro e w1 ⟨A1, n1, k1, rfl, o1, b1⟩
    have O1 := hide o1
    have B1 := hide b1
    clear b1 o1
    go_wp2_with fail
    refine (rRunning_any _ _ _ xs _ _ (HX.out.below B1.out (Nat.le_refl _)) hn2).mono ?_
    rintro e w2 ⟨A2, n2, k2, rfl, o2, b2⟩
    have O2 := hide o2
    have O1' := hide (O1.out.below b2 (Nat.le_refl _))
    have B2 := hide (B1.out.trans (b2.mono B1.out.size))
    clear b2 o2 O1
    go_wp2_with fail
    refine (Peak_any _ _ _ xs _ (HX.out.below B2.out (Nat.le_refl _)) hn2).mono ?_
    rintro e w3 ⟨rfl, b3⟩
    have O13 := hide (O1'.out.below b3 (Nat.le_refl _))
    have O23 := hide (O2.out.below b3 (Nat.le_refl _))
    have B3 := hide (B2.out.trans (b3.mono B2.out.size))
    clear b3 O1' O2
    go_wp2_with fail
    refine (rPeak_any _ _ _ xs _ (HX.out.below B3.out (Nat.le_refl _)) hn2).mono ?_
    rintro e w4 ⟨rfl, b4⟩
    have O14 := hide (O13.out.below b4 (Nat.le_refl _))
    have O24 := hide (O23.out.below b4 (Nat.le_refl _))
    have B4 := hide (B3.out.trans (b4.mono B3.out.size))
    clear b4 O13 O23
    have hlen : n1 ≤ 1000 := by
      have h1 := O14.out.len
      have h2 := HX.out.length
      by_cases he : errRun xs m = 0
      · rw [runV_ok he, runIx_len] at h1
        have := cnt_le xs m
        omega
      · rw [runV_no he] at h1
        simp at h1
        omega
    go_wp2_with fail
    refine (SameInts_self _ _ _ _ _ _ _ _ O14.out.row O24.out.row (by omega)).mono ?_
    rintro e w5 ⟨rfl, b5⟩
    have B5 := hide (B4.out.trans (b5.mono B4.out.size))
    have HLN := hide O14.out.len
    clear b5 O14 O24
    by_cases he : errRun xs m = 0
    · have hp := run_peak he
      rw [HLN.out] at hp
      have hp2 : ((n1 : Nat) : Int) ≤ ((peak xs).2 : Int) := by omega
      have HE := hide he
      rw [he]
      clear he
      generalize peak xs = pk at *
      go_wp2_with fail
      refine (sane_any _).mono ?_
      rintro e w6 ⟨rfl, b6⟩
      go_wp2_with fail
      go_ret
      exact ⟨rfl, B5.out.trans (b6.mono B5.out.size)⟩
    · have hne : (errRun xs m != 0) = true := by simpa using he
      clear he
      generalize peak xs = pk at *
      go_wp2_with fail
      refine (sane_any _).mono ?_
      rintro e w6 ⟨rfl, b6⟩
      go_wp2_with fail
      go_ret
      exact ⟨rfl, B5.out.trans (b6.mono B5.out.size)⟩
end Go.Proofs.Ytpijfnimmcgchaa
