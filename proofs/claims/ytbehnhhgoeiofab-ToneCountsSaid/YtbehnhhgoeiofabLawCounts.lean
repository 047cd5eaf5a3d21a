/- Counts of names: the exported functions, the other side, the law. -/
import Derived.Test.YtbehnhhgoeiofabWalkCt
namespace Go.Proofs.Ytbehnhhgoeiofab
open Go.RowKit

def tabL (n k : Nat) : List Int := (List.range (n + 1)).map fun i => if i < k then cnt i else 0
theorem tab_len (n k : Nat) : (tabL n k).length = n + 1 := by simp [tabL]
theorem tab_one (n : Nat) : tabL n 1 = List.replicate (n + 1) 0 := by
  refine List.ext_getElem (by simp [tabL]) fun i h1 h2 => ?_
  simp [tabL]
  rintro rfl
  rfl
theorem tab_getD {n k i : Nat} (h : i < n + 1) (hk : i < k) : (tabL n k).getD i 0 = cnt i := by
  simp [tabL, List.getD_eq_getElem?_getD, List.getElem?_range h, hk]
theorem tab_set {n k : Nat} : (tabL n k).set k (cnt k) = tabL n (k + 1) := by
  refine List.ext_getElem (by simp [tabL]) fun i h1 h2 => ?_
  rw [List.getElem_set]
  simp only [tabL, List.getElem_map, List.getElem_range]
  by_cases e : k = i
  · subst e; simp
  · rw [if_neg e]
    by_cases g : i < k
    · rw [if_pos g, if_pos (by omega)]
    · rw [if_neg g, if_neg (by omega)]
theorem cnt_wrap : ∀ d : Nat, d < 17 → wrap64 (cnt d) = cnt d := by decide +kernel
theorem rest_one {n : Nat} : restTo n 1 = restTo n 0 := rest_no (n := n) (d := 0) rfl

set_option maxHeartbeats 400000 in
theorem Count_in (n : Nat) (w : World) (h1 : 1 ≤ n) (h2 : n ≤ 16) :
    Calls Try.prog 13 #[.int .i64 n] w fun e w' => e = .returned (.tuple #[.int .i64 (cnt n), .int .i64 0]) ∧ w = w' := by
  go_enter Try.func13, Try.ntmps13
  go_wp2_with fail
  refine (count_any (n + 1) n _ (by omega) (by omega) (by omega)).mono ?_
  rintro e w' ⟨rfl, rfl⟩
  go_wp2
  go_ret2
  exact ⟨rfl, rfl⟩
set_option maxHeartbeats 400000 in
theorem Count_out (n : Int) (w : World) (h : n < 1 ∨ 16 < n) :
    Calls Try.prog 13 #[.int .i64 n] w fun e w' => e = .returned (.tuple #[.int .i64 0, .int .i64 1]) ∧ w = w' := by
  rcases h with h | h
  · go_enter Try.func13, Try.ntmps13
    go_wp2
    go_ret2
    exact ⟨rfl, rfl⟩
  · have h0 : 1 ≤ n := by omega
    go_enter Try.func13, Try.ntmps13
    go_wp2
    go_ret2
    exact ⟨rfl, rfl⟩
set_option maxHeartbeats 400000 in
theorem rCount_out (n : Int) (w : World) (h : n < 1 ∨ 16 < n) :
    Calls Try.prog 14 #[.int .i64 n] w fun e w' => e = .returned (.tuple #[.int .i64 0, .int .i64 1]) ∧ w = w' := by
  have hw : withinB n 1 16 = false := by unfold withinB; simp; omega
  clear h
  go_enter Try.func14, Try.ntmps14
  go_wp2_with fail
  refine (within_any _ _ _ _).mono ?_
  rintro e w' ⟨rfl, rfl⟩
  go_wp2
  go_ret2
  exact ⟨rfl, rfl⟩
set_option maxHeartbeats 1000000 in
theorem rCount_in (n : Nat) (w : World) (h1 : 1 ≤ n) (h2 : n ≤ 16) :
    Calls Try.prog 14 #[.int .i64 n] w fun e w' => e = .returned (.tuple #[.int .i64 (cnt n), .int .i64 0]) ∧ Below w.heap.size w w' := by
  have hw : withinB (n : Int) 1 16 = true := by unfold withinB; simp; omega
  go_enter Try.func14, Try.ntmps14
  go_wp2_with fail
  refine (within_any _ _ _ _).mono ?_
  rintro e w' ⟨rfl, rfl⟩
  go_wp2_with (at_make; refine wpList_mk _ rfl (.tmp 12) (.tmp 12) rfl w.heap.size (n + 1) rfl rfl (by omega) (Nat.le_refl _) ?_; intro w1 hown1 hb1 hsz1)
  rw [← tab_one] at hown1
  go_loopw [5] (fun i wr => ∃ k : Nat, 1 ≤ k ∧ k ≤ n + 1 ∧ i = .int .i64 k ∧ Own wr w.heap.size (some ⟨w.heap.size, 0, none⟩) (n + 1) (n + 1) (tabL n k) ∧ Below w.heap.size w wr) (fun i _ => n + 1 - (intOf i).toNat)
  case atStart => exact ⟨1, by omega, by omega, rfl, hown1, hb1⟩
  case round =>
    obtain ⟨k, hk1, hk, rfl, hown, hb⟩ := hrel
    by_cases hlt : k ≤ n
    · have HST := hide (rest_start k (by omega))
      go_wp2
      go_loop [6, 7] (fun s i => ∃ d : Nat, 1 ≤ d ∧ d ≤ k ∧ i = .int .i64 d ∧ s = .int .i64 (restTo k d)) (fun _ i => k - (intOf i).toNat)
      case atStart => exact ⟨1, by omega, by omega, rfl, by rw [HST.out, rest_one]⟩
      case round =>
        obtain ⟨d, hd1, hd, rfl, rfl⟩ := hrel
        obtain ⟨rb1, rb2⟩ := rest_bd k (by omega) d (by omega)
        by_cases hlt' : d < k
        · obtain ⟨rc1, rc2⟩ := rest_bd k (by omega) (d + 1) (by omega)
          obtain ⟨c1, c2, c3, c4⟩ := cnt_bd d (by omega)
          have hdz : ((d : Int) == 0) = false := by simp; omega
          have hcell := hown.cell (k := d) (by omega)
          rw [tab_getD (by omega) hlt'] at hcell
          by_cases hq : k % d = 0
          · have HS := hide (rest_yes (n := k) (d := d) (by unfold divB; simp [hq]; omega))
            have hm : ((k : Int) % (d : Int) == 0) = true := by rw [← Int.natCast_emod, hq]; rfl
            have hb0 : 0 ≤ restTo k d - d * cnt d ∧ restTo k d - d * cnt d ≤ 65536 := by rw [← HS.out]; exact ⟨rc1, rc2⟩
            obtain ⟨hb1, hb2⟩ := hb0
            clear hq rc1 rc2
            go_wp2
            go_round
            case rel => exact ⟨d + 1, by omega, by omega, by go_num, by rw [HS.out]⟩
            case measure => simp [intOf]; omega
          · have HS := hide (rest_no (n := k) (d := d) (by unfold divB; simp [hq]))
            have hm : ((k : Int) % (d : Int) == 0) = false := by rw [← Int.natCast_emod]; simp; omega
            clear hq rc1 rc2
            go_wp2
            go_round
            case rel => exact ⟨d + 1, by omega, by omega, by go_num, by rw [HS.out]⟩
            case measure => simp [intOf]; omega
        · obtain rfl : d = k := by omega
          have hdz : ((d : Int) == 0) = false := by simp; omega
          obtain ⟨e1, e2⟩ := rest_last d (by omega) hk1
          have e3 := cnt_wrap d (by omega)
          have hcell := hown.cell (k := d) (by omega)
          have hfz := hown.frozen d
          have hst := hown.stored d (cnt d)
          rw [tab_set] at hst
          generalize (tabL n d).getD d 0 = old at hcell
          go_wp2
          go_roundw
          case rel => exact ⟨d + 1, by omega, by omega, by go_num, hst, hb.setCell (Nat.le_refl _) _⟩
          case measure => simp [intOf]; omega
    · obtain rfl : k = n + 1 := by omega
      have hcell := hown.cell (k := n) (by omega)
      rw [tab_getD (by omega) (by omega)] at hcell
      go_wp2
      go_ret2
      exact ⟨rfl, hb⟩

/-- The sum over the divisors below d. -/
def sm (n d : Nat) : Int := 2 ^ n - restTo n d
theorem sm_one (n : Nat) : sm n 1 = 0 := by unfold sm; rw [rest_one]; show (2 ^ n : Int) - 2 ^ n = 0; omega
theorem sm_bd : ∀ n : Nat, n < 17 → ∀ d : Nat, d < n + 2 → 0 ≤ sm n d ∧ sm n d ≤ 65536 := by decide +kernel
theorem sm_last : ∀ n : Nat, n < 17 → 1 ≤ n → wrap64 (2 ^ n) = sm n (n + 1) := by decide +kernel
theorem sm_yes {n d : Nat} (h : divB n d = true) : sm n (d + 1) = sm n d + d * cnt d := by unfold sm; rw [rest_yes h]; omega
theorem sm_no {n d : Nat} (h : divB n d = false) : sm n (d + 1) = sm n d := by unfold sm; rw [rest_no h]

set_option maxHeartbeats 1000000 in
theorem ToneCounts_walk (m : Int) (w : World) (_ : (Lit.int .i64 m).wf = true) :
    Calls Try.prog 4 #[.int .i64 m] w fun e w' => e = .returned (.bool true) ∧ Below w.heap.size w w' := by
  by_cases ho : m < 1 ∨ 16 < m
  · have HO := hide ho
    clear ho
    go_enter Try.func4, Try.ntmps4
    go_wp2_with fail
    refine (Count_out m _ HO.out).mono ?_
    rintro e w' ⟨rfl, rfl⟩
    go_wp2_with fail
    refine (rCount_out m _ HO.out).mono ?_
    rintro e w' ⟨rfl, rfl⟩
    go_wp2_with (first | (go_at_call 7; refine (known_any _).mono ?_; rintro e w9 ⟨rfl, hb9⟩))
    go_ret
    exact ⟨rfl, hb9⟩
  · obtain ⟨n, rfl⟩ : ∃ n : Nat, m = (n : Int) := ⟨m.toNat, by omega⟩
    have h1 : 1 ≤ n := by omega
    have h2 : n ≤ 16 := by omega
    clear ho
    have HLS := sm_last n (by omega) h1
    go_enter Try.func4, Try.ntmps4
    go_wp2_with fail
    refine (Count_in n _ (by omega) (by omega)).mono ?_
    rintro e w' ⟨rfl, rfl⟩
    go_wp2_with fail
    refine (rCount_in n _ (by omega) (by omega)).mono ?_
    rintro e w1 ⟨rfl, hb1⟩
    have hz1 := hb1.size
    go_wp2
    go_loop [7, 8] (fun s i => ∃ d : Nat, 1 ≤ d ∧ d ≤ n + 1 ∧ i = .int .i64 d ∧ s = .int .i64 (sm n d)) (fun _ i => n + 1 - (intOf i).toNat)
    case atStart => exact ⟨1, by omega, by omega, rfl, by rw [sm_one]⟩
    case round =>
      obtain ⟨d, hd1, hd, rfl, rfl⟩ := hrel
      obtain ⟨rb1, rb2⟩ := sm_bd n (by omega) d (by omega)
      by_cases hlt : d ≤ n
      · obtain ⟨rc1, rc2⟩ := sm_bd n (by omega) (d + 1) (by omega)
        obtain ⟨c1, c2, c3, c4⟩ := cnt_bd d (by omega)
        have hdz : ((d : Int) == 0) = false := by simp; omega
        by_cases hq : n % d = 0
        · have HS := hide (sm_yes (n := n) (d := d) (by unfold divB; simp [hq]; omega))
          have hm : ((n : Int) % (d : Int) == 0) = true := by rw [← Int.natCast_emod, hq]; rfl
          have hm' : ((n : Int) % (d : Int) != 0) = false := by rw [bne, hm]; rfl
          have HB := hide (show 0 ≤ sm n d + d * cnt d ∧ sm n d + d * cnt d ≤ 65536 by rw [← HS.out]; exact ⟨rc1, rc2⟩)
          clear hq rc1 rc2
          go_wp2_with fail
          refine (Count_in d _ (by omega) (by omega)).mono ?_
          rintro e w' ⟨rfl, rfl⟩
          obtain ⟨hb1, hb2⟩ := HB.out
          go_wp2
          go_round
          case rel => exact ⟨d + 1, by omega, by omega, by go_num, by rw [HS.out]⟩
          case measure => simp [intOf]; omega
        · have HS := hide (sm_no (n := n) (d := d) (by unfold divB; simp [hq]))
          have hm : ((n : Int) % (d : Int) == 0) = false := by rw [← Int.natCast_emod]; simp; omega
          have hm' : ((n : Int) % (d : Int) != 0) = true := by rw [bne, hm]; rfl
          clear hq rc1 rc2
          go_wp2
          go_round
          case rel => exact ⟨d + 1, by omega, by omega, by go_num, by rw [HS.out]⟩
          case measure => simp [intOf]; omega
      · obtain rfl : d = n + 1 := by omega
        go_wp2_with (first | (go_at_call 7; refine (known_any _).mono ?_; rintro e w9 ⟨rfl, hb9⟩))
        go_ret
        exact ⟨rfl, hb1.trans (hb9.mono hz1)⟩

end Go.Proofs.Ytbehnhhgoeiofab
