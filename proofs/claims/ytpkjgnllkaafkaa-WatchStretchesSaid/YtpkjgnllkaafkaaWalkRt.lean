/- Long with one list, and the walk of WatchRosters. -/
import Derived.Test.YtpkjgnllkaafkaaWalkRr
namespace Go.Proofs.Ytpkjgnllkaafkaa
open Go.RowKit

set_option maxHeartbeats 400000 in
theorem Long1_any (A : Option Addr) (n c g : Nat) (A' : Option Addr) (n' c' : Nat) (w : World) (hc : w.cell? ⟨g, 0, none⟩ = some (.slice A' n' c')) (hg : g < w.heap.size) (b : Bool) (hb : (decide (100 < n') || decide (50 < n)) = b) :
    Calls Try.prog 19 #[.slice A n c, .slice (some ⟨g, 0, none⟩) 1 1] w (LongPost b w) := by
  have HB := hide hb
  clear hb
  go_enter Try.func19, Try.ntmps19
  go_wp2_with fail
  go_loopw [5] (fun i wr => ∃ k : Nat, k ≤ 1 ∧ i = .int .i64 k ∧ w = wr ∧ (k = 1 → ¬ 100 < n')) (fun i _ => 1 - (intOf i).toNat)
  case atStart => exact ⟨0, by omega, rfl, rfl, fun h => by omega⟩
  case round =>
    obtain ⟨k, hk, rfl, rfl, hno⟩ := hrel
    by_cases hlt : k < 1
    · obtain rfl : k = 0 := by omega
      by_cases hbig : 100 < n'
      · have hbig' : (100 : Int) < (n' : Int) := by omega
        go_wp2_with fail
        all_goals first
          | omega
          | (go_ret; exact ⟨ret_bool (by rw [← HB.out]; simp; omega), rfl⟩)
      · have hbig' : ¬ (100 : Int) < (n' : Int) := by omega
        go_wp2_with fail
        all_goals first
          | omega
          | (go_roundw
             case rel => exact ⟨1, by omega, by go_num, trivial, fun _ => hbig⟩
             case measure => simp [intOf])
    · obtain rfl : k = 1 := by omega
      have hb2 := hno rfl
      go_wp2_with fail
      go_ret
      exact ⟨ret_bool (by rw [← HB.out]; simp [hb2] <;> omega), rfl⟩
theorem rosE_zero {xs : Ls} {r : List Int} (h : rosE xs r = 0) : errV xs = 0 ∧ r.length = xs.length ∧ rgtB xs r = true := by
  by_cases h1 : errV xs = 0
  · by_cases h2 : r.length = xs.length
    · by_cases h3 : r.all kOk = true
      · by_cases h4 : rgtB xs r = true
        · exact ⟨h1, h2, h4⟩
        · rw [rosE_no h1 h2 h3 h4] at h; cases h
      · rw [rosE_k h1 h2 h3] at h; cases h
    · rw [rosE_len h1 h2] at h; cases h
  · rw [rosE_v h1] at h; exact absurd h h1
theorem ros_peak {xs : Ls} {r : List Int} (h : rosE xs r = 0) : errV xs = 0 ∧ ((peak xs).2 : Int) ≤ rosV xs r := by
  obtain ⟨h1, h2, h4⟩ := rosE_zero h
  refine ⟨h1, ?_⟩
  rw [rosV_ok h]
  unfold peak
  rw [if_pos h1]
  have hpk := scan_pk (cnt xs) (moms 1001) (moms_sorted _)
  rcases hpk.at_ with ⟨h0, _⟩ | ⟨_, _, h5, _⟩
  · omega
  · have := right_peak h2 (rgtB_iff.1 h4) (scan (cnt xs) (moms 1001)).1
    omega

set_option maxHeartbeats 2000000 in
theorem WatchRosters_walk (A : Option Addr) (n c : Nat) (xs : Ls) (A' : Option Addr) (n' c' : Nat) (r : List Int) (w : World) (h : R E3 w A n c xs) (h' : R E1 w A' n' c' r) :
    Calls Try.prog 5 #[.slice A n c, .slice A' n' c'] w fun e w' => e = .returned (.bool true) ∧ Below w.heap.size w w' := by
  have HX := hide h
  have HR := hide h'
  clear h h'
  have HC := hide (Boxed.new w 30 (.slice A' n' c')).cell
  have B0 := hide ((Below.refl w.heap.size w).alloc (Nat.le_refl _) (.cells #[.slice A' n' c'] 30))
  by_cases hn : 100 < n' ∨ 50 < n
  · have hb : (decide (100 < n') || decide (50 < n)) = true := by simpa using hn
    have HB := hide hb
    clear hb
    go_enter Try.func5, Try.ntmps5
    go_wp2_with fail
    refine (Long1_any _ _ _ _ _ _ _ _ HC.out (by simp) _ HB.out).mono ?_
    rintro e w' ⟨rfl, rfl⟩
    go_wp2_with fail
    refine (sane_any _).mono ?_
    rintro e w1 ⟨rfl, b1⟩
    have B1 := hide (B0.out.trans (b1.mono B0.out.size))
    clear b1
    go_wp2_with fail
    go_ret
    exact ⟨rfl, B1.out⟩
  · have hb : (decide (100 < n') || decide (50 < n)) = false := by simpa using hn
    have HB := hide hb
    have hn2 : n ≤ 1000 := by omega
    have hn3 : n' ≤ 1000 := by omega
    clear hb hn
    go_enter Try.func5, Try.ntmps5
    go_wp2_with fail
    refine (Long1_any _ _ _ _ _ _ _ _ HC.out (by simp) _ HB.out).mono ?_
    rintro e w' ⟨rfl, rfl⟩
    go_wp2_with fail
    refine (CheckRoster_any _ _ _ xs _ _ _ r _ (HX.out.below B0.out (Nat.le_refl _)) hn2 (HR.out.below B0.out (Nat.le_refl _)) hn3).mono ?_
    rintro e w1 ⟨rfl, b1⟩
    have B1 := hide (B0.out.trans (b1.mono B0.out.size))
    clear b1
    go_wp2_with fail
    refine (rCheckRoster_any _ _ _ xs _ _ _ r _ (HX.out.below B1.out (Nat.le_refl _)) hn2 (HR.out.below B1.out (Nat.le_refl _)) hn3).mono ?_
    rintro e w2 ⟨rfl, b2⟩
    have B2 := hide (B1.out.trans (b2.mono B1.out.size))
    clear b2
    go_wp2_with fail
    refine (Peak_any _ _ _ xs _ (HX.out.below B2.out (Nat.le_refl _)) hn2).mono ?_
    rintro e w3 ⟨rfl, b3⟩
    have B3 := hide (B2.out.trans (b3.mono B2.out.size))
    clear b3
    by_cases he : rosE xs r = 0
    · obtain ⟨hv, hp⟩ := ros_peak he
      rw [he, hv]
      clear he hv
      generalize peak xs = pk at *
      generalize rosV xs r = rv at *
      go_wp2_with fail
      refine (sane_any _).mono ?_
      rintro e w6 ⟨rfl, b6⟩
      go_wp2_with fail
      go_ret
      exact ⟨rfl, B3.out.trans (b6.mono B3.out.size)⟩
    · have hne : (rosE xs r != 0) = true := by simpa using he
      clear he
      generalize rosE xs r = re at *
      generalize peak xs = pk at *
      generalize rosV xs r = rv at *
      go_wp2_with fail
      refine (sane_any _).mono ?_
      rintro e w6 ⟨rfl, b6⟩
      go_wp2_with fail
      go_ret
      exact ⟨rfl, B3.out.trans (b6.mono B3.out.size)⟩
end Go.Proofs.Ytpkjgnllkaafkaa
