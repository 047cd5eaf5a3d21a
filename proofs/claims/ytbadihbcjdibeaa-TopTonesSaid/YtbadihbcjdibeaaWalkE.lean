/- Walks: period (ref), name, and the functions that return lists. -/
import Derived.Test.YtbadihbcjdibeaaWalkD
namespace Go.Proofs.Ytbadihbcjdibeaa
open Go.RowKit

theorem Row.length {w : World} {A : Option Addr} {n c : Nat} {xs : List Int} (h : Row w A n c xs) : xs.length = n := by
  obtain ⟨b, off, h⟩ := h; exact h.len
theorem ret2_vi {v : Value} {a b : Int} (h : a = b) : Ending.returned (.tuple #[v, .int .i64 a]) = .returned (.tuple #[v, .int .i64 b]) := by rw [h]
theorem Row.nilRow (w : World) : Row w none 0 0 [] := (Own.nil w 0).row

set_option maxHeartbeats 400000 in
theorem name_any (A : Option Addr) (n c : Nat) (xs : List Int) (w : World) (h : Row w A n c xs) (hn1 : 1 ≤ n) (hn : n ≤ 1000) :
    Calls Try.prog 54 #[.slice A n c] w fun e w' => ∃ A' c', e = .returned (.slice A' (per xs) c') ∧ Own w' w.heap.size A' (per xs) c' (nameL xs) ∧ Below w.heap.size w w' := by
  have HR := hide h
  have hl := h.length
  have hx : 1 ≤ xs.length := by omega
  obtain ⟨_, s2, s3, _⟩ := per_spec hx
  have hp2 : per xs ≤ 1000 := by omega
  have HT := hide (fun k : Nat => piece_turn hx k (per xs))
  clear h hl s3 hx
  go_enter Try.func54, Try.ntmps54
  go_wp2_with (first | (go_at_call 53; refine (root_any _ _ _ xs _ HR.out (by omega) (by omega)).mono ?_; rintro e w1 ⟨Ar, cr, rfl, hown, hb⟩))
  go_loopw [4, 12] (fun v j wr => ∃ (k : Nat) (A' : Option Addr) (c' : Nat), k ≤ per xs ∧ j = .int .i64 k ∧ v = .slice A' (per xs) c' ∧ Own wr w.heap.size A' (per xs) c' (bestTo xs (per xs) k) ∧ Own wr w.heap.size Ar (per xs) cr (rootL xs) ∧ Below w.heap.size w wr) (fun _ i _ => per xs - (intOf i).toNat)
  case atStart => exact ⟨0, Ar, cr, Nat.zero_le _, rfl, rfl, hown, hown, hb⟩
  case round =>
    obtain ⟨k, A', c', hk, rfl, rfl, hownb, hownr, hbr⟩ := hrel
    have hsz := hbr.size
    by_cases hlt : k < per xs
    · cases hbf : befB (pieceL xs (k : Int) (per xs)) (bestTo xs (per xs) k) with
      | true =>
        have hlt0 := befB_lt hbf
        have HBF := hide hbf
        clear hbf
        go_wp2_with (first | (go_at_call 50; refine (turn_any _ _ _ (rootL xs) _ _ hownr.row (by omega) (by omega)).mono ?_; rintro e w2 ⟨A2, c2, rfl, hown2, hb2⟩; rw [HT.out] at hown2; have hb3 := hownb.below hb2 (Nat.le_refl _)) | (go_at_call 64; refine (Compare_any _ _ _ (pieceL xs (k : Int) (per xs)) _ _ _ (bestTo xs (per xs) k) _ hown2.row hb3.row).mono ?_; rintro e w' ⟨rfl, rfl⟩))
        go_roundw
        case rel => exact ⟨k + 1, A2, c2, by omega, by go_num, rfl, by rw [bestTo_yes HBF.out]; exact hown2.more (by omega), hownr.below hb2 (Nat.le_refl _), hbr.trans (hb2.mono (by omega))⟩
        case measure => simp [intOf]; omega
      | false =>
        have hlt0 := befB_ge hbf
        have HBF := hide hbf
        clear hbf
        go_wp2_with (first | (go_at_call 50; refine (turn_any _ _ _ (rootL xs) _ _ hownr.row (by omega) (by omega)).mono ?_; rintro e w2 ⟨A2, c2, rfl, hown2, hb2⟩; rw [HT.out] at hown2; have hb3 := hownb.below hb2 (Nat.le_refl _)) | (go_at_call 64; refine (Compare_any _ _ _ (pieceL xs (k : Int) (per xs)) _ _ _ (bestTo xs (per xs) k) _ hown2.row hb3.row).mono ?_; rintro e w' ⟨rfl, rfl⟩))
        go_roundw
        case rel => exact ⟨k + 1, A', c', by omega, by go_num, rfl, by rw [bestTo_no HBF.out]; exact hb3, hownr.below hb2 (Nat.le_refl _), hbr.trans (hb2.mono (by omega))⟩
        case measure => simp [intOf]; omega
    · go_wp2
      go_ret
      exact ⟨A', c', rfl, by rw [show nameL xs = bestTo xs (per xs) k from by rw [show k = per xs from by omega]; rfl]; exact hownb, hbr⟩

set_option maxHeartbeats 400000 in
theorem Root_any (A : Option Addr) (n c : Nat) (xs : List Int) (w : World) (h : Row w A n c xs) (hn : n ≤ 1000) :
    Calls Try.prog 28 #[.slice A n c] w fun e w' => ∃ A' n' c', e = .returned (.tuple #[.slice A' n' c', .int .i64 (errOf xs)]) ∧ Own w' w.heap.size A' n' c' (okl (errOf xs) (rootL xs)) ∧ Below w.heap.size w w' := by
  have HR := hide h
  have h1 := h.length
  by_cases he : errOf xs = 0
  · obtain ⟨l1, l2, _⟩ := errOf_zero he
    have l1' : 1 ≤ n := by omega
    have HE := hide he
    have HL := hide h1
    clear h h1 he l1 l2
    go_enter Try.func28, Try.ntmps28
    go_wp2_with (first | (go_at_call 40; refine (Validate_any _ _ _ xs _ HR.out (by omega)).mono ?_; rintro e w' ⟨rfl, rfl⟩; rw [HE.out]) | (go_at_call 53; refine (root_any _ _ _ xs _ HR.out (by omega) (by omega)).mono ?_; rintro e w1 ⟨A1, c1, rfl, hown, hb⟩))
    go_ret2
    exact ⟨A1, _, c1, ret2_vi HE.out.symm, by rw [okl_zero HE.out]; exact hown, hb⟩
  · have he' : (errOf xs != 0) = true := by simp [he]
    clear h h1
    go_enter Try.func28, Try.ntmps28
    go_wp2_with (first | (go_at_call 40; refine (Validate_any _ _ _ xs _ HR.out (by omega)).mono ?_; rintro e w' ⟨rfl, rfl⟩))
    go_ret2
    exact ⟨none, 0, 0, rfl, by rw [okl_ne he]; exact Own.nil _ _, Below.refl _ _⟩

set_option maxHeartbeats 400000 in
theorem Name_any (A : Option Addr) (n c : Nat) (xs : List Int) (w : World) (h : Row w A n c xs) (hn : n ≤ 1000) :
    Calls Try.prog 29 #[.slice A n c] w fun e w' => ∃ A' n' c', e = .returned (.tuple #[.slice A' n' c', .int .i64 (errOf xs)]) ∧ Own w' w.heap.size A' n' c' (okl (errOf xs) (nameL xs)) ∧ Below w.heap.size w w' := by
  have HR := hide h
  have h1 := h.length
  by_cases he : errOf xs = 0
  · obtain ⟨l1, l2, _⟩ := errOf_zero he
    have l1' : 1 ≤ n := by omega
    have HE := hide he
    have HL := hide h1
    clear h h1 he l1 l2
    go_enter Try.func29, Try.ntmps29
    go_wp2_with (first | (go_at_call 40; refine (Validate_any _ _ _ xs _ HR.out (by omega)).mono ?_; rintro e w' ⟨rfl, rfl⟩; rw [HE.out]) | (go_at_call 54; refine (name_any _ _ _ xs _ HR.out (by omega) (by omega)).mono ?_; rintro e w1 ⟨A1, c1, rfl, hown, hb⟩))
    go_ret2
    exact ⟨A1, _, c1, ret2_vi HE.out.symm, by rw [okl_zero HE.out]; exact hown, hb⟩
  · have he' : (errOf xs != 0) = true := by simp [he]
    clear h h1
    go_enter Try.func29, Try.ntmps29
    go_wp2_with (first | (go_at_call 40; refine (Validate_any _ _ _ xs _ HR.out (by omega)).mono ?_; rintro e w' ⟨rfl, rfl⟩))
    go_ret2
    exact ⟨none, 0, 0, rfl, by rw [okl_ne he]; exact Own.nil _ _, Below.refl _ _⟩

set_option maxHeartbeats 400000 in
theorem Turn_any (A : Option Addr) (n c : Nat) (xs : List Int) (by_ : Int) (w : World) (h : Row w A n c xs) (hn : n ≤ 1000) :
    Calls Try.prog 25 #[.slice A n c, .int .i64 by_] w fun e w' => ∃ A' n' c', e = .returned (.tuple #[.slice A' n' c', .int .i64 (errOf xs)]) ∧ Own w' w.heap.size A' n' c' (okl (errOf xs) (pieceL xs by_ xs.length)) ∧ Below w.heap.size w w' := by
  have HR := hide h
  have h1 := h.length
  by_cases he : errOf xs = 0
  · obtain ⟨l1, l2, _⟩ := errOf_zero he
    have l1' : 1 ≤ n := by omega
    have HE := hide he
    have HL := hide h1
    clear h h1 he l1 l2
    go_enter Try.func25, Try.ntmps25
    go_wp2_with (first | (go_at_call 40; refine (Validate_any _ _ _ xs _ HR.out (by omega)).mono ?_; rintro e w' ⟨rfl, rfl⟩; rw [HE.out]) | (go_at_call 50; refine (turn_any _ _ _ xs _ _ HR.out (by omega) (by omega)).mono ?_; rintro e w1 ⟨A1, c1, rfl, hown, hb⟩))
    go_ret2
    exact ⟨A1, _, c1, ret2_vi HE.out.symm, by rw [okl_zero HE.out]; rw [← piece_mod, HL.out]; exact hown, hb⟩
  · have he' : (errOf xs != 0) = true := by simp [he]
    clear h h1
    go_enter Try.func25, Try.ntmps25
    go_wp2_with (first | (go_at_call 40; refine (Validate_any _ _ _ xs _ HR.out (by omega)).mono ?_; rintro e w' ⟨rfl, rfl⟩))
    go_ret2
    exact ⟨none, 0, 0, rfl, by rw [okl_ne he]; exact Own.nil _ _, Below.refl _ _⟩


end Go.Proofs.Ytbadihbcjdibeaa
