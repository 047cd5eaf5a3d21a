/- The comparisons of shifts by their beginnings and by their ends. -/
import Derived.Test.YtpkjgnllkaafkaaWalkA
namespace Go.Proofs.Ytpkjgnllkaafkaa
open Go.RowKit

def cmpI (a b : Int) : Int := if a < b then -1 else if b < a then 1 else 0
theorem cmpI_lt {a b : Int} (h : a < b) : cmpI a b = -1 := by unfold cmpI; rw [if_pos h]
theorem cmpI_gt {a b : Int} (h : b < a) : cmpI a b = 1 := by unfold cmpI; rw [if_neg (by omega), if_pos h]
theorem cmpI_eq {a b : Int} (h : a = b) : cmpI a b = 0 := by unfold cmpI; rw [if_neg (by omega), if_neg (by omega)]
theorem cmpI_neg {a b : Int} (h : a < b) : cmpI a b < 0 := by rw [cmpI_lt h]; omega
theorem cmpI_nneg {a b : Int} (h : b ≤ a) : ¬ cmpI a b < 0 := by
  by_cases e : a = b
  · rw [cmpI_eq e]; omega
  · rw [cmpI_gt (by omega)]; omega

theorem isNaN_any (a : Int) (w : World) :
    Calls Try.prog 101 #[.int .i64 a] w fun e w' => e = .returned (.bool false) ∧ w = w' := by
  have h : (a != a) = false := by simp
  go_enter Try.func101, Try.ntmps101
  go_wp2
  go_ret
  exact ⟨ret_bool (by simp), rfl⟩
set_option maxHeartbeats 400000 in
theorem Compare_any (a b : Int) (w : World) :
    Calls Try.prog 90 #[.int .i64 a, .int .i64 b] w fun e w' => e = .returned (.int .i64 (cmpI a b)) ∧ w = w' := by
  rcases Int.lt_trichotomy a b with h | h | h
  · go_enter Try.func90, Try.ntmps90
    go_wp2_with (go_at_call 101; refine (isNaN_any _ _).mono ?_; rintro e w' ⟨rfl, rfl⟩)
    go_ret
    exact ⟨ret_i64 (cmpI_lt h).symm, rfl⟩
  · have H := hide (cmpI_eq h)
    have h1 : ¬ a < b := by omega
    have h2 : ¬ b < a := by omega
    clear h
    go_enter Try.func90, Try.ntmps90
    go_wp2_with (go_at_call 101; refine (isNaN_any _ _).mono ?_; rintro e w' ⟨rfl, rfl⟩)
    go_ret
    exact ⟨ret_i64 H.out.symm, rfl⟩
  · have h1 : ¬ a < b := by omega
    go_enter Try.func90, Try.ntmps90
    go_wp2_with (go_at_call 101; refine (isNaN_any _ _).mono ?_; rintro e w' ⟨rfl, rfl⟩)
    go_ret
    exact ⟨ret_i64 (cmpI_gt h).symm, rfl⟩
/-- A shift with its number, as a value. -/
abbrev nmV (f t p i : Int) : Value := .agg #[.int .i64 f, .int .i64 t, .int .i64 p, .int .i64 i]
set_option maxHeartbeats 400000 in
theorem cmpFrom_any (f t p i f' t' p' i' : Int) (w : World) :
    Calls Try.prog 67 #[nmV f t p i, nmV f' t' p' i'] w fun e w' => e = .returned (.int .i64 (cmpI f f')) ∧ Below w.heap.size w w' := by
  go_enter Try.func67, Try.ntmps67
  go_wp2_with (go_at_call 90; refine (Compare_any _ _ _).mono ?_; rintro e w' ⟨rfl, rfl⟩)
  go_ret
  exact ⟨rfl, ((Below.refl _ _).alloc (Nat.le_refl _) _).alloc (by simp) _⟩
set_option maxHeartbeats 400000 in
theorem cmpTo_any (f t p i f' t' p' i' : Int) (w : World) :
    Calls Try.prog 96 #[nmV f t p i, nmV f' t' p' i'] w fun e w' => e = .returned (.int .i64 (cmpI t t')) ∧ Below w.heap.size w w' := by
  go_enter Try.func96, Try.ntmps96
  go_wp2_with (go_at_call 90; refine (Compare_any _ _ _).mono ?_; rintro e w' ⟨rfl, rfl⟩)
  go_ret
  exact ⟨rfl, ((Below.refl _ _).alloc (Nat.le_refl _) _).alloc (by simp) _⟩
end Go.Proofs.Ytpkjgnllkaafkaa
