/- Walks of the smallest and the greatest number of a list, and of which tasks are valid, on both sides. -/
import Derived.Test.YtjhnfcmijijdcaaOwn
namespace Go.Proofs.Ytjhnfcmijijdcaa
open Go.RowKit

/-- m is the least of the first k numbers. -/
def LeastTo (xs : List Int) (k : Nat) (m : Int) : Prop := (∀ j, j < k → m ≤ xs.getD j 0) ∧ ∃ j, j < k ∧ xs.getD j 0 = m
def MostTo (xs : List Int) (k : Nat) (m : Int) : Prop := (∀ j, j < k → xs.getD j 0 ≤ m) ∧ ∃ j, j < k ∧ xs.getD j 0 = m
theorem leastTo_one (xs : List Int) : LeastTo xs 1 (xs.getD 0 0) :=
  ⟨fun j hj => by obtain rfl : j = 0 := by omega
                  exact Int.le_refl _, 0, by omega, rfl⟩
theorem mostTo_one (xs : List Int) : MostTo xs 1 (xs.getD 0 0) :=
  ⟨fun j hj => by obtain rfl : j = 0 := by omega
                  exact Int.le_refl _, 0, by omega, rfl⟩
theorem leastTo_succ {xs : List Int} {k : Nat} {m x : Int} (h : LeastTo xs k m) (hx : xs.getD k 0 = x) : LeastTo xs (k + 1) (if x < m then x else m) := by
  obtain ⟨h1, j, hj, h2⟩ := h
  refine ⟨fun i hi => ?_, ?_⟩
  · by_cases e : i = k
    · subst e; rw [hx]; split <;> omega
    · have := h1 i (by omega); split <;> omega
  · by_cases e : m ≤ x
    · exact ⟨j, by omega, by rw [if_neg (by omega)]; exact h2⟩
    · exact ⟨k, by omega, by rw [if_pos (by omega)]; exact hx⟩
theorem mostTo_succ {xs : List Int} {k : Nat} {m x : Int} (h : MostTo xs k m) (hx : xs.getD k 0 = x) : MostTo xs (k + 1) (if m < x then x else m) := by
  obtain ⟨h1, j, hj, h2⟩ := h
  refine ⟨fun i hi => ?_, ?_⟩
  · by_cases e : i = k
    · subst e; rw [hx]; split <;> omega
    · have := h1 i (by omega); split <;> omega
  · by_cases e : x ≤ m
    · exact ⟨j, by omega, by rw [if_neg (by omega)]; exact h2⟩
    · exact ⟨k, by omega, by rw [if_pos (by omega)]; exact hx⟩

theorem leastTo_ex (xs : List Int) : ∀ k n, n = k + 1 → LeastTo xs n ((List.range k).foldl (fun m j => if xs.getD (j + 1) 0 < m then xs.getD (j + 1) 0 else m) (xs.getD 0 0)) := by
  intro k
  induction k with
  | zero => intro n hn; subst hn; exact leastTo_one xs
  | succ k ih =>
    intro n hn
    subst hn
    rw [List.range_succ, List.foldl_append]
    exact leastTo_succ (ih _ rfl) rfl
theorem mostTo_ex (xs : List Int) : ∀ k n, n = k + 1 → MostTo xs n ((List.range k).foldl (fun m j => if m < xs.getD (j + 1) 0 then xs.getD (j + 1) 0 else m) (xs.getD 0 0)) := by
  intro k
  induction k with
  | zero => intro n hn; subst hn; exact mostTo_one xs
  | succ k ih =>
    intro n hn
    subst hn
    rw [List.range_succ, List.foldl_append]
    exact mostTo_succ (ih _ rfl) rfl
theorem leastTo_one_value {xs : List Int} {n : Nat} {a b : Int} (h1 : LeastTo xs n a) (h2 : LeastTo xs n b) : a = b := by
  obtain ⟨a1, i, hi, a2⟩ := h1
  obtain ⟨b1, j, hj, b2⟩ := h2
  have := a1 j hj
  have := b1 i hi
  omega
theorem mostTo_one_value {xs : List Int} {n : Nat} {a b : Int} (h1 : MostTo xs n a) (h2 : MostTo xs n b) : a = b := by
  obtain ⟨a1, i, hi, a2⟩ := h1
  obtain ⟨b1, j, hj, b2⟩ := h2
  have := a1 j hj
  have := b1 i hi
  omega

set_option maxHeartbeats 1000000 in
theorem Min_any (A : Option Addr) (n c : Nat) (xs : List Int) (w : World) (h : Row w A n c xs) (hn1 : 1 ≤ n) (hn2 : n ≤ 1000) :
    Calls Try.prog 80 #[.slice A n c] w fun e w' => ∃ m, e = .returned (.int .i64 m) ∧ LeastTo xs n m ∧ w = w' := by
  obtain ⟨b, off, h1, hcap, hmax, h2, h3, h4⟩ := h
  have H4 := hide h4
  obtain rfl := h2 (by omega)
  have hc0 := h4 0 (by omega)
  rw [Nat.add_zero] at hc0
  have H0 := hide (leastTo_one xs)
  clear h1 h2 h3 h4
  generalize hx0 : xs.getD 0 0 = x0 at *
  clear hx0
  go_enter Try.func80, Try.ntmps80
  go_wp2

  go_loop [3, 4] (fun s i => ∃ (k : Nat) (m : Int), 1 ≤ k ∧ k ≤ n ∧ i = .int .i64 k ∧ s = .int .i64 m ∧ LeastTo xs k m) (fun _ i => n - (intOf i).toNat)
  case atStart => exact ⟨1, x0, by omega, by omega, rfl, rfl, H0.out⟩
  case round =>
    obtain ⟨k, m, hk1, hk, rfl, rfl, hm⟩ := hrel
    have HM := hide hm
    clear hm
    by_cases hlt : k < n
    · have hcell := H4.out k hlt
      have HX := hide (fun x (hx : xs.getD k 0 = x) => leastTo_succ HM.out hx)
      generalize hx : xs.getD k 0 = x at hcell HX
      clear hx
      go_wp2
      go_round
      case rel => exact ⟨k + 1, _, by omega, by omega, by go_num, rfl, HX.out x rfl⟩
      case measure => simp [intOf]; omega
    · go_wp2
      go_ret
      obtain rfl : k = n := by omega
      exact ⟨m, rfl, HM.out, rfl⟩

set_option maxHeartbeats 1000000 in
theorem Max_any (A : Option Addr) (n c : Nat) (xs : List Int) (w : World) (h : Row w A n c xs) (hn1 : 1 ≤ n) (hn2 : n ≤ 1000) :
    Calls Try.prog 81 #[.slice A n c] w fun e w' => ∃ m, e = .returned (.int .i64 m) ∧ MostTo xs n m ∧ w = w' := by
  obtain ⟨b, off, h1, hcap, hmax, h2, h3, h4⟩ := h
  have H4 := hide h4
  obtain rfl := h2 (by omega)
  have hc0 := h4 0 (by omega)
  rw [Nat.add_zero] at hc0
  have H0 := hide (mostTo_one xs)
  clear h1 h2 h3 h4
  generalize hx0 : xs.getD 0 0 = x0 at *
  clear hx0
  go_enter Try.func81, Try.ntmps81
  go_wp2

  go_loop [3, 4] (fun s i => ∃ (k : Nat) (m : Int), 1 ≤ k ∧ k ≤ n ∧ i = .int .i64 k ∧ s = .int .i64 m ∧ MostTo xs k m) (fun _ i => n - (intOf i).toNat)
  case atStart => exact ⟨1, x0, by omega, by omega, rfl, rfl, H0.out⟩
  case round =>
    obtain ⟨k, m, hk1, hk, rfl, rfl, hm⟩ := hrel
    have HM := hide hm
    clear hm
    by_cases hlt : k < n
    · have hcell := H4.out k hlt
      have HX := hide (fun x (hx : xs.getD k 0 = x) => mostTo_succ HM.out hx)
      generalize hx : xs.getD k 0 = x at hcell HX
      clear hx
      go_wp2
      go_round
      case rel => exact ⟨k + 1, _, by omega, by omega, by go_num, rfl, HX.out x rfl⟩
      case measure => simp [intOf]; omega
    · go_wp2
      go_ret
      obtain rfl : k = n := by omega
      exact ⟨m, rfl, HM.out, rfl⟩

/-- A list with a number from 0 to hi for each of n hours. -/
def AllOk (xs : List Int) (n : Int) (hi : Int) : Prop := (xs.length : Int) = n ∧ ∀ j, j < xs.length → 0 ≤ xs.getD j 0 ∧ xs.getD j 0 ≤ hi
instance (xs : List Int) (n hi : Int) : Decidable (AllOk xs n hi) := inferInstanceAs (Decidable (_ ∧ _))
def allB (xs : List Int) (n hi : Int) : Bool := decide (AllOk xs n hi)
theorem allB_true {xs : List Int} {n hi : Int} (h : AllOk xs n hi) : allB xs n hi = true := decide_eq_true h
theorem allB_false {xs : List Int} {n hi : Int} (h : ¬ AllOk xs n hi) : allB xs n hi = false := decide_eq_false h
theorem allB_iff {xs : List Int} {n hi : Int} : allB xs n hi = true ↔ AllOk xs n hi := by unfold allB; simp
theorem allB_minmax {xs : List Int} {n : Nat} {hi lo up : Int} (hl : xs.length = n) (h1 : LeastTo xs n lo) (h2 : MostTo xs n up) : allB xs n hi = (decide (0 ≤ lo) && decide (up ≤ hi)) := by
  obtain ⟨a1, j, hj, a2⟩ := h1
  obtain ⟨b1, i, hi', b2⟩ := h2
  rw [Bool.eq_iff_iff, allB_iff]
  simp only [AllOk, Bool.and_eq_true, decide_eq_true_eq]
  constructor
  · rintro ⟨_, h⟩
    exact ⟨by have := (h j (by omega)).1; omega, by have := (h i (by omega)).2; omega⟩
  · rintro ⟨h1, h2⟩
    exact ⟨by omega, fun k hk => ⟨by have := a1 k (by omega); omega, by have := b1 k (by omega); omega⟩⟩

set_option maxHeartbeats 1000000 in
theorem isForEach_any (m : Int) (A : Option Addr) (n c : Nat) (xs : List Int) (hi : Int) (w : World) (h : Row w A n c xs) (hm1 : 1 ≤ m) (hm2 : m ≤ 1000) :
    Calls Try.prog 60 #[.int .i64 m, .slice A n c, .int .i64 hi] w fun e w' => e = .returned (.bool (allB xs m hi)) ∧ w = w' := by
  have HR := hide h
  have hl := h.length
  have HL := hide hl
  clear h hl
  by_cases hmn : (n : Int) = m
  · subst hmn
    obtain ⟨lo, hlo⟩ : ∃ lo, LeastTo xs n lo := ⟨_, leastTo_ex xs (n - 1) n (by omega)⟩
    obtain ⟨up, hup⟩ : ∃ lo, MostTo xs n lo := ⟨_, mostTo_ex xs (n - 1) n (by omega)⟩
    have HLO := hide hlo
    have HUP := hide hup
    have HV := hide (allB_minmax (hi := hi) HL.out hlo hup)
    clear hlo hup
    by_cases h1 : 0 ≤ lo
    · by_cases h2 : up ≤ hi
      all_goals
        go_enter Try.func60, Try.ntmps60
        go_wp2_with (first | (go_at_call 80; refine (Min_any _ _ _ xs _ HR.out (by omega) (by omega)).mono ?_; rintro e w' ⟨m', rfl, hm', rfl⟩; obtain rfl := leastTo_one_value HLO.out hm'; clear hm') | (go_at_call 81; refine (Max_any _ _ _ xs _ HR.out (by omega) (by omega)).mono ?_; rintro e w' ⟨m', rfl, hm', rfl⟩; obtain rfl := mostTo_one_value HUP.out hm'; clear hm'))
        go_ret
        exact ⟨ret_bool (by rw [HV.out]; simp [h1, h2]), rfl⟩
    · go_enter Try.func60, Try.ntmps60
      go_wp2_with (first | (go_at_call 80; refine (Min_any _ _ _ xs _ HR.out (by omega) (by omega)).mono ?_; rintro e w' ⟨m', rfl, hm', rfl⟩; obtain rfl := leastTo_one_value HLO.out hm'; clear hm'))
      go_ret
      exact ⟨ret_bool (by rw [HV.out]; simp; omega), rfl⟩
  · have hv : allB xs m hi = false := allB_false (fun h => hmn (by rw [← HL.out]; exact h.1))
    have HV := hide hv
    clear hv
    go_enter Try.func60, Try.ntmps60
    go_wp2_with fail
    go_ret
    exact ⟨ret_bool HV.out.symm, rfl⟩

end Go.Proofs.Ytjhnfcmijijdcaa
