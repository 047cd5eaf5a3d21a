/- Walks: turn, piece, name. -/
import Derived.Test.YtbadihbcjdibeaaWalkC
namespace Go.Proofs.Ytbadihbcjdibeaa
open Go.RowKit

theorem Own.cap {w : World} {B n c : Nat} {A : Option Addr} {xs : List Int} (h : Own w B A n c xs) : n ≤ c := by
  rcases h.form with ⟨_, h1, h2, _⟩ | ⟨g, _, _, _, h, _⟩ <;> omega

set_option maxHeartbeats 400000 in
theorem turn_any (A : Option Addr) (n c : Nat) (xs : List Int) (by_ : Int) (w : World) (h : Row w A n c xs) (hn1 : 1 ≤ n) (hn : n ≤ 1000) :
    Calls Try.prog 50 #[.slice A n c, .int .i64 by_] w fun e w' => ∃ A' c', e = .returned (.slice A' n c') ∧ Own w' w.heap.size A' n c' (pieceL xs (by_ % (n : Int)) n) ∧ Below w.heap.size w w' := by
  have HR := hide h
  clear h
  have e1 := Int.emod_lt_of_pos by_ (show (0 : Int) < n by omega)
  have e2 := Int.emod_nonneg by_ (show (n : Int) ≠ 0 by omega)
  generalize hm : by_ % (n : Int) = m at *
  have HM := hide hm
  clear hm
  go_enter Try.func50, Try.ntmps50
  go_wp2_with (first | (go_at_call 59; refine (modulo_any _ _ _ (by omega) (by omega)).mono ?_; rintro e w' ⟨rfl, rfl⟩; rw [HM.out]) | (at_make; refine wpList_mk _ rfl (.tmp 13) (.tmp 13) rfl w.heap.size n rfl rfl (by omega) (Nat.le_refl _) ?_; intro w1 hown1 hb1 hsz1))
  go_loopw [17] (fun i wr => ∃ k : Nat, k ≤ n ∧ i = .int .i64 k ∧ Own wr w.heap.size (some ⟨w.heap.size, 0, none⟩) n n (fillTo xs m n k) ∧ Below w.heap.size w wr) (fun i _ => n - (intOf i).toNat)
  case atStart => exact ⟨0, Nat.zero_le _, rfl, by rw [fillTo_zero]; exact hown1, hb1⟩
  case round =>
    obtain ⟨k, hk, rfl, hown, hb⟩ := hrel
    by_cases hlt : k < n
    · have HRr := hide (HR.out.below hb (Nat.le_refl _))
      have hcell := hown.cell hlt
      have hfz := hown.frozen k
      generalize (fillTo xs m n k).getD k 0 = old at hcell
      go_wp2_with (first | (go_at_call 41; refine (second_any _ _ _ xs _ _ HRr.out (by omega) (by omega)).mono ?_; rintro e w' ⟨rfl, rfl⟩))
      go_roundw
      case rel => exact ⟨k + 1, by omega, by go_num, by have := hown.stored k (sec xs (m + (k : Int))); rw [fillTo_set hlt] at this; exact this, hb.setCell (Nat.le_refl _) _⟩
      case measure => simp [intOf]; omega
    · go_wp2
      go_ret
      exact ⟨_, _, rfl, by rw [← fillTo_all, show fillTo xs m n n = fillTo xs m n k from by rw [show k = n from by omega]]; exact hown, hb⟩

set_option maxHeartbeats 400000 in
theorem piece_any (A : Option Addr) (n c : Nat) (xs : List Int) (i : Int) (m : Nat) (w : World) (h : Row w A n c xs) (hn1 : 1 ≤ n) (hn : n ≤ 1000) (hm : m ≤ 100000) (hi1 : -1000000000000 ≤ i) (hi2 : i ≤ 1000000000000) :
    Calls Try.prog 36 #[.slice A n c, .int .i64 i, .int .i64 m] w fun e w' => ∃ A' c', e = .returned (.slice A' m c') ∧ Own w' w.heap.size A' m c' (pieceL xs i m) ∧ Below w.heap.size w w' := by
  have HR := hide h
  clear h
  go_enter Try.func36, Try.ntmps36
  go_wp2
  go_loopw [7, 8] (fun v j wr => ∃ (k : Nat) (A' : Option Addr) (c' : Nat), k ≤ m ∧ j = .int .i64 k ∧ v = .slice A' k c' ∧ Own wr w.heap.size A' k c' (pieceL xs i k) ∧ Below w.heap.size w wr) (fun _ i _ => m - (intOf i).toNat)
  case atStart => exact ⟨0, none, 0, Nat.zero_le _, rfl, rfl, Own.nil _ _, Below.refl _ _⟩
  case round =>
    obtain ⟨k, A', c', hk, rfl, rfl, hown, hb⟩ := hrel
    by_cases hlt : k < m
    · have HRr := hide (HR.out.below hb (Nat.le_refl _))
      have hsz := hb.size
      go_wp2_with (first | (go_at_call 55; refine (rat_any _ _ _ xs _ _ HRr.out (by omega) (by omega)).mono ?_; rintro e w' ⟨rfl, rfl⟩) | (at_builtin; refine wpList_app1 _ rfl (.tmp 14) (.tmp 20) rfl w.heap.size k c' A' _ _ rfl rfl hown (by omega) hsz ?_; intro A1 c1 w1 hown1 hb1 hg1))
      go_roundw
      case rel => exact ⟨k + 1, A1, c1, by omega, by go_num, by go_num, by rw [pieceL_succ]; exact hown1, hb.trans (hb1.mono (by omega))⟩
      case measure => simp [intOf]; omega
    · obtain rfl : k = m := by omega
      go_wp2
      go_ret
      exact ⟨A', c', rfl, hown, hb⟩

end Go.Proofs.Ytbadihbcjdibeaa
