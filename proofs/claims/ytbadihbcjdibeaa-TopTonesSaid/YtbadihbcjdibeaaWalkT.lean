/- Walks: Reverse, Swap, Back. -/
import Derived.Test.YtbadihbcjdibeaaLawPeriods
import Derived.Test.YtbadihbcjdibeaaMathT
namespace Go.Proofs.Ytbadihbcjdibeaa
open Go.RowKit

theorem Own.addr {w : World} {B n c : Nat} {A : Option Addr} {xs : List Int} (h : Own w B A n c xs) (hn : 1 ≤ n) : ∃ g, A = some ⟨g, 0, none⟩ ∧ B ≤ g ∧ g < w.heap.size ∧ n ≤ c ∧ c ≤ maxLen := by
  rcases h.form with ⟨_, h1, _⟩ | h
  · omega
  · exact h

set_option maxHeartbeats 400000 in
theorem Reverse_any (A : Option Addr) (n c : Nat) (xs : List Int) (B : Nat) (w : World) (h : Own w B A n c xs) (hn1 : 1 ≤ n) (hn : n ≤ 1000) :
    Calls Try.prog 52 #[.slice A n c] w fun e w' => e = .returned (.tuple #[]) ∧ Own w' B A n c xs.reverse ∧ Below B w w' := by
  obtain ⟨g, rfl, hBg, hgl, hnc, hcm⟩ := h.addr hn1
  have HL := hide h.len
  go_enter Try.func52, Try.ntmps52
  go_wp2
  go_loopw [2, 3] (fun i j wr => ∃ k : Nat, 2 * k ≤ n ∧ i = .int .i64 k ∧ j = .int .i64 ((n : Int) - 1 - k) ∧ Own wr B (some ⟨g, 0, none⟩) n c (revTo xs k) ∧ Below B w wr) (fun i _ _ => n - (intOf i).toNat)
  case atStart => exact ⟨0, by omega, rfl, by go_num, h, Below.refl _ _⟩
  case round =>
    obtain ⟨k, hk, rfl, rfl, hown, hb⟩ := hrel
    by_cases hlt : 2 * k + 1 < n
    · have hc1 := hown.cell (k := k) (by omega)
      have hc2 := hown.cell (k := n - 1 - k) (by omega)
      have hf1 := hown.frozen k
      have hf2 := hown.frozen (n - 1 - k)
      have i1 : (k : Int) ≤ (n : Int) - 1 := by omega
      have i2 : (n : Int) - 1 - (k : Int) < (n : Int) := by omega
      have i3 : (k : Int) < (n : Int) := by omega
      have RS := hide (revTo_succ xs k)
      generalize hx : (revTo xs k).getD k 0 = x at *
      generalize hy : (revTo xs k).getD (n - 1 - k) 0 = y at *
      have HX := hide hx
      have HY := hide hy
      clear hx hy
      go_wp2
      go_region
      go_wp2
      go_roundw
      case rel => exact ⟨k + 1, by omega, by go_num, by go_num, by rw [RS.out, HL.out, HY.out]; exact (hown.stored k y).stored (n - 1 - k) x, ((hb.setCell hBg _).setCell hBg _).drew⟩
      case measure => simp [intOf]; omega
    · go_wp2
      exact bodyPost_end (results_none rfl _ _ _) rfl ⟨rfl, by rw [← revTo_all (xs := xs) (k := k) (by rw [HL.out]; exact hk) (by rw [HL.out]; omega)]; exact hown, hb⟩

set_option maxHeartbeats 400000 in
theorem Swap_any (A : Option Addr) (n c : Nat) (xs : List Int) (w : World) (h : Row w A n c xs) (hn : n ≤ 1000) :
    Calls Try.prog 27 #[.slice A n c] w fun e w' => ∃ A' n' c', e = .returned (.tuple #[.slice A' n' c', .int .i64 (errOf xs)]) ∧ Own w' w.heap.size A' n' c' (okl (errOf xs) (swapL xs)) ∧ Below w.heap.size w w' := by
  have HR := hide h
  have h1 := h.length
  by_cases he : errOf xs = 0
  · obtain ⟨l1, l2, l3⟩ := errOf_zero he
    have l1' : 1 ≤ n := by omega
    have l2' : n ≤ 24 := by omega
    have HE := hide he
    have HB := hide l3
    obtain ⟨b, off, q1, hcap, hmax, q2, q3, q4⟩ := h
    obtain rfl := q2 (by omega)
    have q3' := q3 (by omega)
    have H4 := hide q4
    have H1 := hide q1
    clear h1 he l1 l2 l3 q1 q2 q3 q4
    go_enter Try.func27, Try.ntmps27
    go_wp2_with fail
    refine (Validate_any _ _ _ xs _ HR.out (by omega)).mono ?_
    rintro e w' ⟨rfl, rfl⟩
    rw [HE.out]
    go_wp2_with (at_make; refine wpList_mk _ rfl (.tmp 14) (.tmp 14) rfl w.heap.size n rfl rfl (by omega) (Nat.le_refl _) ?_; intro w1 hown1 hb1 hsz1)
    go_loopw [18] (fun i wr => ∃ k : Nat, k ≤ n ∧ i = .int .i64 k ∧ Own wr w.heap.size (some ⟨w.heap.size, 0, none⟩) n n (fillF (swapF xs) n k) ∧ Below w.heap.size w wr) (fun i _ => n - (intOf i).toNat)
    case atStart => exact ⟨0, Nat.zero_le _, rfl, by rw [fillF_zero]; exact hown1, hb1⟩
    case round =>
      obtain ⟨k, hk, rfl, hown, hb⟩ := hrel
      by_cases hlt : k < n
      · have hcx := (hb.cell (p := ⟨b, off + k, none⟩) q3').trans (H4.out k hlt)
        have hcell := hown.cell hlt
        have hfz := hown.frozen k
        generalize (fillF (swapF xs) n k).getD k 0 = old at hcell
        have hst := hown.stored k (swapF xs k)
        rw [fillF_set hlt] at hst
        have hsw : swapF xs k = 1 - xs.getD k 0 := rfl
        have hbt := bitsB_of_mem HB.out (mem_getD (xs := xs) (k := k) (by rw [H1.out]; exact hlt))
        have hx1 : 0 ≤ xs.getD k 0 := by omega
        have hx2 : xs.getD k 0 ≤ 1 := by omega
        rw [hsw] at hst
        clear hbt hsw
        generalize xs.getD k 0 = x at *
        go_wp2
        go_roundw
        case rel => exact ⟨k + 1, by omega, by go_num, hst, hb.setCell (Nat.le_refl _) _⟩
        case measure => simp [intOf]; omega
      · go_wp2
        go_ret2
        exact ⟨_, _, _, ret2_vi HE.out.symm, by rw [okl_zero HE.out, show swapL xs = fillF (swapF xs) n k from by rw [show k = n from by omega, fillF_all]; unfold swapL; rw [H1.out]]; exact hown, hb⟩
  · have he' : (errOf xs != 0) = true := by simp [he]
    clear h h1
    go_enter Try.func27, Try.ntmps27
    go_wp2_with fail
    refine (Validate_any _ _ _ xs _ HR.out (by omega)).mono ?_
    rintro e w' ⟨rfl, rfl⟩
    go_wp2
    go_ret2
    exact ⟨none, 0, 0, rfl, by rw [okl_ne he]; exact Own.nil _ _, Below.refl _ _⟩

set_option maxHeartbeats 400000 in
theorem Back_any (A : Option Addr) (n c : Nat) (xs : List Int) (w : World) (h : Row w A n c xs) (hn : n ≤ 1000) :
    Calls Try.prog 26 #[.slice A n c] w fun e w' => ∃ A' n' c', e = .returned (.tuple #[.slice A' n' c', .int .i64 (errOf xs)]) ∧ Own w' w.heap.size A' n' c' (okl (errOf xs) (xs.reverse)) ∧ Below w.heap.size w w' := by
  have HR := hide h
  have h1 := h.length
  by_cases he : errOf xs = 0
  · obtain ⟨l1, l2, l3⟩ := errOf_zero he
    have l1' : 1 ≤ n := by omega
    have l2' : n ≤ 24 := by omega
    have HE := hide he
    have HB := hide l3
    obtain ⟨b, off, q1, hcap, hmax, q2, q3, q4⟩ := h
    obtain rfl := q2 (by omega)
    have q3' := q3 (by omega)
    have H4 := hide q4
    have H1 := hide q1
    clear h1 he l1 l2 l3 q1 q2 q3 q4
    go_enter Try.func26, Try.ntmps26
    go_wp2_with fail
    refine (Validate_any _ _ _ xs _ HR.out (by omega)).mono ?_
    rintro e w' ⟨rfl, rfl⟩
    rw [HE.out]
    go_wp2_with fail
    refine (Clone_any _ _ _ xs _ HR.out (by omega) (by omega)).mono ?_
    rintro e w1 ⟨A1, c1, rfl, hown, hb⟩
    go_wp2_with fail
    refine (Reverse_any _ _ _ xs _ _ hown (by omega) (by omega)).mono ?_
    rintro e w2 ⟨rfl, hown2, hb2⟩
    go_wp2
    go_ret2
    exact ⟨_, _, _, ret2_vi HE.out.symm, by rw [okl_zero HE.out]; exact hown2, hb.trans hb2⟩
  · have he' : (errOf xs != 0) = true := by simp [he]
    clear h h1
    go_enter Try.func26, Try.ntmps26
    go_wp2_with fail
    refine (Validate_any _ _ _ xs _ HR.out (by omega)).mono ?_
    rintro e w' ⟨rfl, rfl⟩
    go_wp2
    go_ret2
    exact ⟨none, 0, 0, rfl, by rw [okl_ne he]; exact Own.nil _ _, Below.refl _ _⟩


theorem okl_bd {e : Int} {l : List Int} (hl : l.length ≤ 24) : (okl e l).length ≤ 1000 := by
  unfold okl; split
  · omega
  · simp

end Go.Proofs.Ytbadihbcjdibeaa
