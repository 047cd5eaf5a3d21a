/- Walks of the small functions of the document's own answers (diaphoneref01). -/
import Derived.Test.YtbadihbcjdibeaaWalkA
namespace Go.Proofs.Ytbadihbcjdibeaa
open Go.RowKit

def withinB (n lo hi : Int) : Bool := decide (lo ≤ n) && decide (n ≤ hi)
theorem withinB_true {n lo hi : Int} (h1 : lo ≤ n) (h2 : n ≤ hi) : withinB n lo hi = true := by simp [withinB, h1, h2]
theorem withinB_false {n lo hi : Int} (h : n < lo ∨ hi < n) : withinB n lo hi = false := by
  simp [withinB]; omega

set_option maxHeartbeats 400000 in
theorem within_any (n lo hi : Int) (w : World) :
    Calls Try.prog 44 #[.int .i64 n, .int .i64 lo, .int .i64 hi] w fun e w' => e = .returned (.bool (withinB n lo hi)) ∧ w = w' := by
  by_cases h1 : lo ≤ n
  · by_cases h2 : n ≤ hi
    · go_enter Try.func44, Try.ntmps44
      go_wp2
      go_ret
      exact ⟨ret_bool (withinB_true h1 h2).symm, rfl⟩
    · have h2' : hi < n := by omega
      go_enter Try.func44, Try.ntmps44
      go_wp2
      go_ret
      exact ⟨ret_bool (withinB_false (.inr h2')).symm, rfl⟩
  · have h1' : n < lo := by omega
    go_enter Try.func44, Try.ntmps44
    go_wp2
    go_ret
    exact ⟨ret_bool (withinB_false (.inl h1')).symm, rfl⟩

theorem within01 {x : Int} : withinB x 0 1 = (x == 0 || x == 1) := by
  rw [Bool.eq_iff_iff]; simp [withinB]; omega

set_option maxHeartbeats 400000 in
theorem rbits_any (A : Option Addr) (n c : Nat) (xs : List Int) (w : World) (h : Row w A n c xs) (hn2 : n ≤ 1000) :
    Calls Try.prog 35 #[.slice A n c] w fun e w' => e = .returned (.bool (bitsB xs)) ∧ w = w' := by
  obtain ⟨b, off, h1, hcap, hmax, h2, h3, h4⟩ := h
  have H4 := hide h4
  have H1 := hide h1
  have H2 := hide h2
  clear h1 h2 h3 h4
  go_enter Try.func35, Try.ntmps35
  go_wp2
  go_loop [3] (fun i => ∃ k : Nat, k ≤ n ∧ i = .int .i64 k ∧ BitTo xs k) (fun i => n - (intOf i).toNat)
  case atStart => exact ⟨0, Nat.zero_le _, rfl, bitTo_zero _⟩
  case round =>
    obtain ⟨k, hk, rfl, hrep⟩ := hrel
    by_cases hlt : k < n
    · have hcell := H4.out k hlt
      have hA := H2.out (by omega)
      generalize hx : xs.getD k 0 = x at hcell
      have HX := hide hx
      clear hx
      subst hA
      by_cases hx0 : x = 0 ∨ x = 1
      · have hw : withinB x 0 1 = true := by rw [within01]; simpa using hx0
        have HX0 := hide hx0
        clear hx0
        go_wp2_with (go_at_call 44; refine (within_any _ _ _ _).mono ?_; rintro e w' ⟨rfl, rfl⟩)
        go_round
        case rel => exact ⟨k + 1, by omega, by go_num, bitTo_succ hrep (by rw [HX.out]; exact HX0.out)⟩
        case measure => simp [intOf]; omega
      · have hw : withinB x 0 1 = false := by rw [within01]; simpa using hx0
        have HX0 := hide hx0
        clear hx0
        go_wp2_with (go_at_call 44; refine (within_any _ _ _ _).mono ?_; rintro e w' ⟨rfl, rfl⟩)
        go_ret
        exact ⟨ret_bool (bitsB_false (mem_getD (k := k) (by rw [H1.out]; exact hlt)) (by rw [HX.out]; exact fun h => HX0.out (.inl h)) (by rw [HX.out]; exact fun h => HX0.out (.inr h))).symm, rfl⟩
    · go_wp2
      go_ret
      exact ⟨ret_bool (bitTo_all (by rw [H1.out, show n = k from by omega]; exact hrep)).symm, rfl⟩

set_option maxHeartbeats 400000 in
theorem rValidate_any (A : Option Addr) (n c : Nat) (xs : List Int) (w : World) (h : Row w A n c xs) (hn2 : n ≤ 1000) :
    Calls Try.prog 43 #[.slice A n c] w fun e w' => e = .returned (.int .i64 (errOf xs)) ∧ w = w' := by
  have HR := hide h
  have h1 : xs.length = n := by obtain ⟨b, off, h1, hcap, hmax, h2, h3, h4⟩ := h; exact h1
  have H1 := hide h1
  clear h h1
  by_cases ha : n < 1 ∨ 24 < n
  · have hw : withinB (n : Int) 1 24 = false := withinB_false (by omega)
    have HA := hide ha
    clear ha
    go_enter Try.func43, Try.ntmps43
    go_wp2_with (go_at_call 44; refine (within_any _ _ _ _).mono ?_; rintro e w' ⟨rfl, rfl⟩)
    go_ret
    exact ⟨ret_i64 (errOf_large (by rw [H1.out]; exact HA.out)).symm, rfl⟩
  · have hw : withinB (n : Int) 1 24 = true := withinB_true (by omega) (by omega)
    have ha1 : 1 ≤ n := by omega
    have ha2 : n ≤ 24 := by omega
    clear ha
    have he := errOf_fit (xs := xs) (by rw [H1.out]; omega) (by rw [H1.out]; omega)
    have HE := hide he
    clear he
    cases hb : bitsB xs with
    | true =>
      have hf := bitErr_true hb
      have HF := hide hf
      clear hf
      go_enter Try.func43, Try.ntmps43
      go_wp2_with (first | (go_at_call 44; refine (within_any _ _ _ _).mono ?_; rintro e w' ⟨rfl, rfl⟩) | (go_at_call 35; refine (rbits_any _ _ _ xs _ HR.out (by omega)).mono ?_; rintro e w' ⟨rfl, rfl⟩))
      go_ret
      exact ⟨ret_i64 (by rw [HE.out, HF.out]), rfl⟩
    | false =>
      have hf := bitErr_false hb
      have HF := hide hf
      clear hf
      go_enter Try.func43, Try.ntmps43
      go_wp2_with (first | (go_at_call 44; refine (within_any _ _ _ _).mono ?_; rintro e w' ⟨rfl, rfl⟩) | (go_at_call 35; refine (rbits_any _ _ _ xs _ HR.out (by omega)).mono ?_; rintro e w' ⟨rfl, rfl⟩))
      go_ret
      exact ⟨ret_i64 (by rw [HE.out, HF.out]), rfl⟩

theorem rat_arith (i : Int) (n : Nat) (h1 : 1 ≤ n) : 0 ≤ i.tmod n + n ∧ i.tmod n + n < 2 * n ∧ i.tmod n % (n : Int) = i % n := by
  have e := Int.tmod_eq_emod (a := i) (b := (n : Int))
  have l := Int.emod_lt_of_pos i (show (0 : Int) < n by omega)
  have g := Int.emod_nonneg i (show (n : Int) ≠ 0 by omega)
  refine ⟨by split at e <;> omega, by split at e <;> omega, ?_⟩
  split at e
  · rw [e]; simp
  · rw [e]
    have : ((n : Int).natAbs : Int) = n := by omega
    rw [this, Int.sub_emod_right, Int.emod_emod_of_dvd _ (Int.dvd_refl _)]

set_option maxHeartbeats 400000 in
theorem rat_any (A : Option Addr) (n c : Nat) (xs : List Int) (i : Int) (w : World) (h : Row w A n c xs) (hn : 1 ≤ n) (hn2 : n ≤ 1000) :
    Calls Try.prog 55 #[.slice A n c, .int .i64 i] w fun e w' => e = .returned (.int .i64 (sec xs i)) ∧ w = w' := by
  obtain ⟨b, off, h1, hcap, hmax, h2, h3, h4⟩ := h
  obtain rfl := h2 (by omega)
  obtain ⟨a1, a2, a3⟩ := rat_arith i n hn
  have e1 := Int.emod_lt_of_pos i (show (0 : Int) < n by omega)
  have e2 := Int.emod_nonneg i (show (n : Int) ≠ 0 by omega)
  have hs : sec xs i = xs.getD (i % (n : Int)).toNat 0 := by unfold sec; rw [h1]
  have hc := h4 (i % (n : Int)).toNat (by omega)
  rw [← hs] at hc
  clear hs h4 h2 h1 h3
  generalize sec xs i = s at *
  rw [← a3] at hc e1 e2
  clear a3
  go_enter Try.func55, Try.ntmps55
  go_wp2
  go_ret
  exact ⟨rfl, rfl⟩

end Go.Proofs.Ytbadihbcjdibeaa
