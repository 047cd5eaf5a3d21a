/- Walks of the fractions: greatest common divisors, lowest terms, sums of means, on both sides. -/
import Derived.Test.YtlmmkaadoicogaaWalkA
import Derived.StillTailTactics
import Derived.RegionTactic
import Derived.ChangeAlike
namespace Go.Proofs.Ytlmmkaadoicogaa
open Go.RowKit

def nu (q : Rat) : Int := q.num
def de (q : Rat) : Int := (q.den : Int)
theorem de_pos (q : Rat) : 1 ≤ de q := by have := q.den_pos; unfold de; omega
theorem rt_nu {n d : Int} (h : 0 < d) : nu (rt n d) = n.tdiv (Int.gcd n d : Int) := by
  unfold nu
  rw [rt_num h]
  exact (Int.tdiv_eq_ediv_of_dvd (Int.gcd_dvd_left ..)).symm
theorem rt_nu0 {n d : Int} (h : 0 < d) : nu (rt n d) = n / (Int.gcd n d : Int) := by
  unfold nu
  rw [rt_num h]
theorem rt_de {n d : Int} (h : 0 < d) : de (rt n d) = d / (Int.gcd n d : Int) := by
  unfold de
  rw [rt_den h]
theorem gcd_pos' {n d : Int} (h : 0 < d) : 1 ≤ (Int.gcd n d : Int) := by
  have : 0 < Int.gcd n d := Int.gcd_pos_of_ne_zero_right _ (by omega)
  omega
theorem gcd_le' {n d : Int} (h : 0 < d) : (Int.gcd n d : Int) ≤ d := Int.le_of_dvd h (Int.gcd_dvd_right ..)
theorem rt_nu_bd {n d : Int} (h : 0 < d) (hn : 0 ≤ n) : 0 ≤ nu (rt n d) ∧ nu (rt n d) ≤ n := by
  rw [rt_nu0 h]
  have g := gcd_pos' (n := n) h
  exact ⟨Int.ediv_nonneg hn (by omega), Int.ediv_le_self _ hn⟩
theorem rt_de_bd {n d : Int} (h : 0 < d) : 1 ≤ de (rt n d) ∧ de (rt n d) ≤ d := by
  refine ⟨de_pos _, ?_⟩
  rw [rt_de h]
  exact Int.ediv_le_self _ (by omega)
theorem gcd_emod (x y : Int) : Int.gcd (y % x) x = Int.gcd x y := by
  rw [Int.emod_def, show y - x * (y / x) = y + x * (-(y / x)) by rw [Int.mul_neg]; omega]
  rw [Int.gcd_add_mul_left_left, Int.gcd_comm]
set_option maxHeartbeats 400000 in
theorem measure_any (a b : Int) (w : World) (ha : 0 ≤ a) (ha2 : a ≤ 1000000000000000000) (hb : 1 ≤ b) (hb2 : b ≤ 1000000000000000000) :
    Calls Try.prog 80 #[.int .i64 a, .int .i64 b] w fun e w' => e = .returned (.int .i64 (Int.gcd a b)) ∧ w = w' := by
  go_enter Try.func80, Try.ntmps80
  go_wp2
  go_loop [0, 1] (fun s t => ∃ x y : Int, 0 ≤ x ∧ 0 ≤ y ∧ x ≤ 1000000000000000000 ∧ y ≤ 1000000000000000000 ∧ s = .int .i64 x ∧ t = .int .i64 y ∧ Hid (Int.gcd x y = Int.gcd a b)) (fun s _ => (intOf s).toNat)
  case atStart => exact ⟨a, b, ha, by omega, ha2, hb2, rfl, rfl, hide rfl⟩
  case round =>
    obtain ⟨x, y, h1, h2, h3, h4, rfl, rfl, hg⟩ := hrel
    by_cases h0 : x = 0
    · subst h0
      have e : ((Int.gcd a b : Nat) : Int) = y := by rw [← hg.out, Int.gcd_zero_left]; omega
      have E := hide e
      clear e
      go_wp2
      go_ret
      exact ⟨ret_i64 E.out.symm, rfl⟩
    · have b0 : (x != 0) = true := by simp [h0]
      have e1 := Int.emod_lt_of_pos y (show (0 : Int) < x by omega)
      have e2 := Int.emod_nonneg y h0
      go_wp2
      go_round
      case rel => exact ⟨y % x, x, by omega, by omega, by omega, by omega, rfl, rfl, hide (by rw [gcd_emod]; exact hg.out)⟩
      case measure => simp [intOf]; omega

set_option maxHeartbeats 400000 in
theorem lowest_any (n d : Int) (w : World) (hn : 0 ≤ n) (hn2 : n ≤ 1000000000000000000) (hd : 1 ≤ d) (hd2 : d ≤ 1000000000000000000) :
    Calls Try.prog 60 #[.agg #[.int .i64 n, .int .i64 d]] w fun e w' => e = .returned (.agg #[.int .i64 (nu (rt n d)), .int .i64 (de (rt n d))]) ∧ Below w.heap.size w w' := by
  have g1 := gcd_pos' (n := n) (d := d) (by omega)
  have g2 := gcd_le' (n := n) (d := d) (by omega)
  have e1 := rt_nu0 (n := n) (d := d) (by omega)
  have e2 := rt_de (n := n) (d := d) (by omega)
  have E1 := hide e1
  have E2 := hide e2
  clear e1 e2
  generalize hg : (Int.gcd n d : Int) = g at *
  have G := hide hg
  clear hg
  go_enter Try.func60, Try.ntmps60
  go_wp2_with (go_at_call 80; refine (measure_any _ _ _ (by omega) (by omega) (by omega) (by omega)).mono ?_; rintro e w' ⟨rfl, rfl⟩; rw [G.out])
  go_region
  all_goals
    go_wp2
    refine bodyPost_ret (v := .agg #[.int .i64 (nu (rt n d)), .int .i64 (de (rt n d))]) (by simp [results, Try.results60, go_sem, E1.out, E2.out]) rfl ⟨rfl, (((Below.refl _ _).alloc (Nat.le_refl _) _).alloc (by simp) _).drew⟩


theorem gcd_emod2 (x y : Int) : Int.gcd y (x % y) = Int.gcd x y := by
  rw [Int.gcd_comm, gcd_emod, Int.gcd_comm]
theorem gcd_max (n d : Int) : Int.gcd (max n (-n)) d = Int.gcd n d := by
  unfold Int.gcd
  rw [show (max n (-n)).natAbs = n.natAbs by omega]
set_option maxHeartbeats 1000000 in
theorem Ratio_any (n d : Int) (w : World) (hn : -1000000000000000000 ≤ n) (hn2 : n ≤ 1000000000000000000) (hd : 1 ≤ d) (hd2 : d ≤ 1000000000000000000) :
    Calls Try.prog 51 #[.int .i64 n, .int .i64 d] w fun e w' => e = .returned (.agg #[.int .i64 (nu (rt n d)), .int .i64 (de (rt n d))]) ∧ Below w.heap.size w w' := by
  have g1 := gcd_pos' (n := n) (d := d) (by omega)
  have g2 := gcd_le' (n := n) (d := d) (by omega)
  have e1 := rt_nu (n := n) (d := d) (by omega)
  have e2 := rt_de (n := n) (d := d) (by omega)
  have et : n.tdiv (Int.gcd n d : Int) = n / (Int.gcd n d : Int) := Int.tdiv_eq_ediv_of_dvd (Int.gcd_dvd_left ..)
  have E1 := hide e1
  have E2 := hide e2
  have ET := hide et
  clear e1 e2 et
  have hm1 : Int.gcd (-n) d = Int.gcd n d := Int.neg_gcd
  have HM1 := hide hm1
  clear hm1
  generalize hg : (Int.gcd n d : Int) = g at *
  have G := hide hg
  clear hg
  go_enter Try.func51, Try.ntmps51
  go_wp2
  all_goals
    go_loopw [5, 6] (fun s t wr => ∃ x y : Int, 0 ≤ x ∧ 0 ≤ y ∧ x ≤ 1000000000000000000 ∧ y ≤ 1000000000000000000 ∧ s = .int .i64 x ∧ t = .int .i64 y ∧ Hid (Int.gcd x y = Int.gcd n d) ∧ ∃ m, wr = (w.alloc (.cells #[.int .i64 0, .int .i64 0] 26)).drewN m) (fun _ t _ => (intOf t).toNat)
    case atStart => exact ⟨_, d, by omega, by omega, by omega, hd2, rfl, rfl, (by first | exact HM1 | exact hide rfl), 0, rfl⟩
    case round =>
      obtain ⟨x, y, h1, h2, h3, h4, rfl, rfl, hg, m, rfl⟩ := hrel
      by_cases h0 : y = 0
      · subst h0
        have e : x = g := by rw [← G.out, ← hg.out, Int.gcd_zero_right]; omega
        obtain rfl := e
        go_wp2
        go_region
        all_goals
          go_wp2
          refine bodyPost_ret (v := .agg #[.int .i64 (nu (rt n d)), .int .i64 (de (rt n d))]) (by first | (simp [results, Try.results51, go_sem, E1.out, E2.out]; done) | (simp [results, Try.results51, go_sem, E1.out, E2.out, ET.out]; done)) rfl ⟨rfl, ?_⟩
          exact ((below_drewN ((Below.refl _ _).alloc (Nat.le_refl _) _) _).setCell (by simp) _).setCell (by simp) _
      · have b0 : (y != 0) = true := by simp [h0]
        have e1 := Int.emod_lt_of_pos x (show (0 : Int) < y by omega)
        have e2 := Int.emod_nonneg x h0
        go_wp2
        go_quiet (fail)
        go_wp2
        go_roundw
        case rel => exact ⟨y, x % y, by omega, by omega, by omega, by omega, rfl, rfl, hide (by rw [gcd_emod2]; exact hg.out), _, World.drewN_drewN ..⟩
        case measure => simp [intOf]; omega

set_option maxHeartbeats 400000 in
theorem join_any (n d n' d' : Int) (w : World) (hn : 0 ≤ n) (hn2 : n ≤ 1000000) (hd : 0 ≤ d) (hd2 : d ≤ 1000000) (hn' : 0 ≤ n') (hn2' : n' ≤ 1000000) (hd' : 0 ≤ d') (hd2' : d' ≤ 1000000) :
    Calls Try.prog 81 #[.agg #[.int .i64 n, .int .i64 d], .agg #[.int .i64 n', .int .i64 d']] w fun e w' => e = .returned (.agg #[.int .i64 (n + n'), .int .i64 (d + d')]) ∧ Below w.heap.size w w' := by
  go_enter Try.func81, Try.ntmps81
  go_wp2
  refine bodyPost_ret (v := .agg #[.int .i64 (n + n'), .int .i64 (d + d')]) (by simp [results, Try.results81, go_sem]) rfl ⟨rfl, ?_⟩
  exact (((Below.refl _ _).alloc (Nat.le_refl _) _).alloc (by simp) _).alloc (by simp; omega) _


/-- compare of two fractions: not above 0 exactly if the first is at most the second. -/
def cmp3 (x y : Int) : Int := if x < y then -1 else if y < x then 1 else 0
set_option maxHeartbeats 400000 in
theorem isNaN_any (x : Int) (w : World) : Calls Try.prog 84 #[.int .i64 x] w fun e w' => e = .returned (.bool false) ∧ w = w' := by
  go_enter Try.func84, Try.ntmps84
  go_wp2
  go_ret
  exact ⟨rfl, rfl⟩
set_option maxHeartbeats 400000 in
theorem Compare_any (x y : Int) (w : World) : Calls Try.prog 83 #[.int .i64 x, .int .i64 y] w fun e w' => e = .returned (.int .i64 (cmp3 x y)) ∧ w = w' := by
  rcases Int.lt_trichotomy x y with h | h | h
  · have e : cmp3 x y = -1 := by unfold cmp3; rw [if_pos h]
    have E := hide e
    clear e
    go_enter Try.func83, Try.ntmps83
    go_wp2_with (go_at_call 84; refine (isNaN_any _ _).mono ?_; rintro e w' ⟨rfl, rfl⟩)
    go_ret
    exact ⟨ret_i64 E.out.symm, rfl⟩
  · subst h
    have e : cmp3 x x = 0 := by unfold cmp3; simp
    have E := hide e
    clear e
    go_enter Try.func83, Try.ntmps83
    go_wp2_with (go_at_call 84; refine (isNaN_any _ _).mono ?_; rintro e w' ⟨rfl, rfl⟩)
    go_ret
    exact ⟨ret_i64 E.out.symm, rfl⟩
  · have e : cmp3 x y = 1 := by unfold cmp3; rw [if_neg (by omega), if_pos h]
    have E := hide e
    clear e
    go_enter Try.func83, Try.ntmps83
    go_wp2_with (go_at_call 84; refine (isNaN_any _ _).mono ?_; rintro e w' ⟨rfl, rfl⟩)
    go_ret
    exact ⟨ret_i64 E.out.symm, rfl⟩

theorem mul_in {a b : Int} (h1 : 0 ≤ a) (h2 : a ≤ 1000000) (h3 : 0 ≤ b) (h4 : b ≤ 1000000) : 0 ≤ a * b ∧ a * b ≤ 1000000000000 := by
  have := Int.mul_le_mul h2 h4 h3 (by omega)
  exact ⟨Int.mul_nonneg h1 h3, by omega⟩
set_option maxHeartbeats 400000 in
theorem compareRR_any (n d n' d' : Int) (w : World) (hn : 0 ≤ n) (hn2 : n ≤ 1000000) (hd : 0 ≤ d) (hd2 : d ≤ 1000000) (hn' : 0 ≤ n') (hn2' : n' ≤ 1000000) (hd' : 0 ≤ d') (hd2' : d' ≤ 1000000) :
    Calls Try.prog 75 #[.agg #[.int .i64 n, .int .i64 d], .agg #[.int .i64 n', .int .i64 d']] w fun e w' => e = .returned (.int .i64 (cmp3 (n * d') (n' * d))) ∧ Below w.heap.size w w' := by
  have m1 := mul_in hn hn2 hd' hd2'
  have m2 := mul_in hn' hn2' hd hd2
  go_enter Try.func75, Try.ntmps75
  go_wp2
  go_region
  all_goals
    go_wp2_with (go_at_call 83; refine (Compare_any _ _ _).mono ?_; rintro e w' ⟨rfl, rfl⟩)
    go_ret
    exact ⟨rfl, (by (repeat' (first | exact Below.refl _ _ | exact Nat.le_refl _ | refine Below.drew ?_ | refine below_drewN ?_ _ | refine Below.alloc ?_ ?_ _ | refine Below.setCell ?_ ?_ _)); all_goals (first | (simp; done) | (simp; omega)))⟩

end Go.Proofs.Ytlmmkaadoicogaa
