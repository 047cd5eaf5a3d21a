/- Counts of names, up to sixteen seconds. -/
import Derived.Test.YtbehnhhgoeiofabWalkG
namespace Go.Proofs.Ytbehnhhgoeiofab
open Go.RowKit

def cntT : List Int := [0, 2, 1, 2, 3, 6, 9, 18, 30, 56, 99, 186, 335, 630, 1161, 2182, 4080]
def cnt (n : Nat) : Int := cntT.getD n 0
def divB (n d : Nat) : Bool := decide (0 < d) && decide (n % d = 0)
/-- What is left of all lists of n seconds when the smaller periods below d are taken away. -/
def restTo (n : Nat) : Nat → Int
  | 0 => 2 ^ n
  | d + 1 => if divB n d then restTo n d - d * cnt d else restTo n d
theorem rest_bd : ∀ n : Nat, n < 17 → ∀ d : Nat, d < n + 1 → 0 ≤ restTo n d ∧ restTo n d ≤ 65536 := by decide +kernel
theorem rest_start : ∀ n : Nat, n < 17 → wrap64 (2 ^ n) = restTo n 0 := by decide +kernel
theorem rest_last : ∀ n : Nat, n < 17 → 1 ≤ n → (restTo n n).tdiv (n : Int) = cnt n ∧ restTo n n / (n : Int) = cnt n := by decide +kernel
theorem cnt_bd : ∀ d : Nat, d < 17 → 0 ≤ cnt d ∧ cnt d ≤ 4080 ∧ 0 ≤ (d : Int) * cnt d ∧ (d : Int) * cnt d ≤ 65536 := by decide +kernel
theorem rest_yes {n d : Nat} (h : divB n d = true) : restTo n (d + 1) = restTo n d - d * cnt d := by show (if divB n d then _ else _) = _; rw [if_pos h]
theorem rest_no {n d : Nat} (h : divB n d = false) : restTo n (d + 1) = restTo n d := by show (if divB n d then _ else _) = _; rw [h]; rfl

set_option maxHeartbeats 1000000 in
theorem count_any : ∀ (N n : Nat) (w : World), n < N → 1 ≤ n → n ≤ 16 →
    Calls Try.prog 35 #[.int .i64 n] w fun e w' => e = .returned (.int .i64 (cnt n)) ∧ w = w' := by
  intro N
  induction N with
  | zero => intro n w h; omega
  | succ N ih =>
    intro n w hN h1 h2
    have HLAST := hide (rest_last n (by omega) h1)
    have HST := hide (rest_start n (by omega))
    go_enter Try.func35, Try.ntmps35
    go_wp2
    go_loop [3, 8] (fun s i => ∃ d : Nat, d ≤ n ∧ i = .int .i64 d ∧ s = .int .i64 (restTo n d)) (fun _ i => n - (intOf i).toNat)
    case atStart => exact ⟨0, by omega, rfl, by rw [HST.out]⟩
    case round =>
      obtain ⟨d, hd, rfl, rfl⟩ := hrel
      obtain ⟨rb1, rb2⟩ := rest_bd n (by omega) d (by omega)
      by_cases hlt : d < n
      · obtain ⟨rc1, rc2⟩ := rest_bd n (by omega) (d + 1) (by omega)
        obtain ⟨c1, c2, c3, c4⟩ := cnt_bd d (by omega)
        by_cases hz : d = 0
        · subst hz
          have HS := hide (rest_no (n := n) (d := 0) rfl)
          go_wp2
          go_round
          case rel => exact ⟨1, by omega, rfl, by rw [← HS.out]⟩
          case measure => simp [intOf]; omega
        · have hd1 : 1 ≤ d := by omega
          have hdz : ((d : Int) == 0) = false := by simp; omega
          by_cases hq : n % d = 0
          · have HS := hide (rest_yes (n := n) (d := d) (by unfold divB; simp [hq]; omega))
            have hm : ((n : Int) % (d : Int) == 0) = true := by rw [← Int.natCast_emod, hq]; rfl
            have HB := hide (show 0 ≤ restTo n d - d * cnt d ∧ restTo n d - d * cnt d ≤ 65536 by rw [← HS.out]; exact ⟨rc1, rc2⟩)
            clear hq rc1 rc2
            go_wp2_with fail
            refine (ih d _ (by omega) (by omega) (by omega)).mono ?_
            rintro e w' ⟨rfl, rfl⟩
            obtain ⟨hb1, hb2⟩ := HB.out
            go_wp2
            go_round
            case rel => exact ⟨d + 1, by omega, by go_num, by rw [HS.out]⟩
            case measure => simp [intOf]; omega
          · have HS := hide (rest_no (n := n) (d := d) (by unfold divB; simp [hq]))
            have hm : ((n : Int) % (d : Int) == 0) = false := by rw [← Int.natCast_emod]; simp; omega
            clear hq rc1 rc2
            go_wp2
            go_round
            case rel => exact ⟨d + 1, by omega, by go_num, by rw [HS.out]⟩
            case measure => simp [intOf]; omega
      · obtain rfl : d = n := by omega
        have hdz : ((d : Int) == 0) = false := by simp; omega
        go_wp2
        go_ret
        exact ⟨ret_i64 (by first | exact HLAST.out.1 | exact HLAST.out.2), rfl⟩

end Go.Proofs.Ytbehnhhgoeiofab
