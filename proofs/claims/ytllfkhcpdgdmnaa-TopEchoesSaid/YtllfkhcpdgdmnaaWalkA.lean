/- Walks of the small functions and of Validate, on both sides. -/
import Derived.Test.YtllfkhcpdgdmnaaBase
import Derived.Test.YtllfkhcpdgdmnaaMA
namespace Go.Proofs.Ytllfkhcpdgdmnaa
open Go.RowKit

def withinB (n lo hi : Int) : Bool := decide (lo ≤ n) && decide (n ≤ hi)
theorem withinB_true {n lo hi : Int} (h1 : lo ≤ n) (h2 : n ≤ hi) : withinB n lo hi = true := by simp [withinB, h1, h2]
theorem withinB_false {n lo hi : Int} (h : n < lo ∨ hi < n) : withinB n lo hi = false := by
  simp [withinB]; omega
theorem withinB_dec (n lo hi : Int) : withinB n lo hi = true ∧ lo ≤ n ∧ n ≤ hi ∨ withinB n lo hi = false ∧ ¬ (lo ≤ n ∧ n ≤ hi) := by
  by_cases h : lo ≤ n ∧ n ≤ hi
  · exact .inl ⟨withinB_true h.1 h.2, h⟩
  · exact .inr ⟨withinB_false (by omega), h⟩

set_option maxHeartbeats 400000 in
theorem within_any (n lo hi : Int) (w : World) :
    Calls Try.prog 62 #[.int .i64 n, .int .i64 lo, .int .i64 hi] w fun e w' => e = .returned (.bool (withinB n lo hi)) ∧ w = w' := by
  by_cases h1 : lo ≤ n
  · by_cases h2 : n ≤ hi
    · go_enter Try.func62, Try.ntmps62
      go_wp2
      go_ret
      exact ⟨ret_bool (withinB_true h1 h2).symm, rfl⟩
    · have h2' : hi < n := by omega
      go_enter Try.func62, Try.ntmps62
      go_wp2
      go_ret
      exact ⟨ret_bool (withinB_false (.inr h2')).symm, rfl⟩
  · have h1' : n < lo := by omega
    go_enter Try.func62, Try.ntmps62
    go_wp2
    go_ret
    exact ⟨ret_bool (withinB_false (.inl h1')).symm, rfl⟩


theorem R.zero {α : Type} {E : Enc α} {w : World} {A : Option Addr} {n c : Nat} {xs : List α} (h : R E w A n c xs) (hn : n = 0) : xs = [] := List.eq_nil_of_length_eq_zero (by rw [h.length]; exact hn)

set_option maxHeartbeats 1000000 in
theorem Validate_any (A : Option Addr) (n c : Nat) (xs : List Int) (w : World) (h : R E1 w A n c xs) (hn2 : n ≤ 1000) :
    Calls Try.prog 24 #[.slice A n c] w fun e w' => e = .returned (.int .i64 (errC xs)) ∧ Below w.heap.size w w' := by
  have hl := h.length
  obtain ⟨b, off, hr⟩ := h
  have H1 := hide hl
  by_cases ha : n < 1
  · obtain rfl : n = 0 := by omega
    go_enter Try.func24, Try.ntmps24
    go_wp2
    go_ret
    exact ⟨ret_i64 (errC_large (by rw [H1.out]; omega)).symm, Below.refl _ _⟩
  · by_cases hb : 6 < n
    · go_enter Try.func24, Try.ntmps24
      go_wp2
      go_ret
      exact ⟨ret_i64 (errC_large (by rw [H1.out]; omega)).symm, Below.refl _ _⟩
    · have H4 := hide hr
      obtain rfl := hr.at_ (by omega)
      have HL := hide (hr.lt (by omega))
      clear hr hl
      go_enter Try.func24, Try.ntmps24
      go_wp2
      go_loopw [3, 16] (fun last i wr => ∃ k : Nat, k ≤ n ∧ i = .int .i64 k ∧ last = .int .i64 (prev xs k) ∧ OkTo xs k ∧ Below w.heap.size w wr) (fun _ i _ => n - (intOf i).toNat)
      case atStart => exact ⟨0, Nat.zero_le _, rfl, rfl, okTo_zero _, Below.refl _ _⟩
      case round =>
        obtain ⟨k, hk, rfl, rfl, hrep, hbel⟩ := hrel
        have hp := prev_ge hrep
        by_cases hlt : k < n
        · have hc1 := c1 (H4.out.under hbel fun _ => HL.out) hlt
          have HX := hide (prev_succ xs k)
          have HF := hide (fun h1 => okB_fail (xs := xs) (k := k) h1)
          have HS := hide (fun h1 h2 => okB_step (xs := xs) (k := k) hrep h1 h2)
          generalize hx : xs.getD k 0 = x at hc1 HX HF HS
          generalize hy : prev xs k = y at hp HF HS
          clear hx hy
          go_wp2
          all_goals first
            | (go_ret; exact ⟨ret_i64 (errC_arg (by rw [H1.out]; omega) (by rw [H1.out]; omega) (k := k) (by rw [H1.out]; exact hlt) (HF.out (by omega))).symm, hbel⟩)
            | skip
          go_roundw
          case rel => exact ⟨k + 1, by omega, by go_num, by rw [HX.out], okTo_succ hrep (HS.out (by omega) (by omega)), hbel⟩
          case measure => simp [intOf]; omega
        · obtain rfl : k = n := by omega
          have hc1 := c1 (H4.out.under hbel fun _ => HL.out) (k := 0) (by omega)
          rw [Nat.add_zero] at hc1
          have he : ext xs = prev xs k - xs.getD 0 0 := by unfold ext prev; rw [H1.out, if_neg (by omega)]
          have hq := okB_iff.1 (hrep 0 (by omega))
          have HE := hide he
          generalize xs.getD 0 0 = x at hc1 hq HE
          generalize prev xs k = y at hp HE
          clear he
          go_wp2
          all_goals go_ret
          all_goals first
            | exact ⟨ret_i64 (errC_far (by rw [H1.out]; omega) (by rw [H1.out]; omega) (by rw [HE.out]; omega)).symm, hbel⟩
            | exact ⟨ret_i64 (errC_fine (by rw [H1.out]; omega) (by rw [H1.out]; omega) (by rw [H1.out]; exact hrep) (by rw [HE.out]; omega)).symm, hbel⟩
end Go.Proofs.Ytllfkhcpdgdmnaa
