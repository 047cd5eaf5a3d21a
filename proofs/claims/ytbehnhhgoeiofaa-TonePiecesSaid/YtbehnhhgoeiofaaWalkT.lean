/- Walks: Reverse, Swap, Back. -/
import Derived.Test.YtbehnhhgoeiofaaLawPeriods
import Derived.Test.YtbehnhhgoeiofaaMathT
namespace Go.Proofs.Ytbehnhhgoeiofaa
open Go.RowKit

theorem Own.addr {w : World} {B n c : Nat} {A : Option Addr} {xs : List Int} (h : Own w B A n c xs) (hn : 1 ≤ n) : ∃ g, A = some ⟨g, 0, none⟩ ∧ B ≤ g ∧ g < w.heap.size ∧ n ≤ c ∧ c ≤ maxLen := by
  rcases h.form with ⟨_, h1, _⟩ | h
  · omega
  · exact h

set_option maxHeartbeats 400000 in
theorem Reverse_any (A : Option Addr) (n c : Nat) (xs : List Int) (B : Nat) (w : World) (h : Own w B A n c xs) (hn1 : 1 ≤ n) (hn : n ≤ 1000) :
    Calls Try.prog 86 #[.slice A n c] w fun e w' => e = .returned (.tuple #[]) ∧ Own w' B A n c xs.reverse ∧ Below B w w' := by
  obtain ⟨g, rfl, hBg, hgl, hnc, hcm⟩ := h.addr hn1
  have HL := hide h.len
  go_enter Try.func86, Try.ntmps86
  go_wp2
  go_loopw [2, 3] (fun i j wr => ∃ k : Nat, 2 * k ≤ n ∧ i = .int .i64 k ∧ j = .int .i64 ((n : Int) - 1 - k) ∧ Own wr B (some ⟨g, 0, none⟩) n c (revTo xs k) ∧ Below B w wr) (fun i _ _ => n - (intOf i).toNat)
  case atStart => exact ⟨0, by omega, rfl, by go_num, h, Below.refl _ _⟩
  case round =>
    obtain ⟨k, hk, rfl, rfl, hown, hb⟩ := hrel
    by_cases hlt : 2 * k + 1 < n
    · have hc1 := hown.cell (k := k) (by omega)
      have hc2 := hown.cell (k := n - 1 - k) (by omega)
      have hf1 := hown.frozen k
      have hf2 := hown.frozen (n - 1 - k)
      have i1 : (k : Int) ≤ (n : Int) - 1 := by omega
      have i2 : (n : Int) - 1 - (k : Int) < (n : Int) := by omega
      have i3 : (k : Int) < (n : Int) := by omega
      have RS := hide (revTo_succ xs k)
      generalize hx : (revTo xs k).getD k 0 = x at *
      generalize hy : (revTo xs k).getD (n - 1 - k) 0 = y at *
      have HX := hide hx
      have HY := hide hy
      clear hx hy
      go_wp2
      go_region
      go_wp2
      go_roundw
      case rel => exact ⟨k + 1, by omega, by go_num, by go_num, by rw [RS.out, HL.out, HY.out]; exact (hown.stored k y).stored (n - 1 - k) x, ((hb.setCell hBg _).setCell hBg _).drew⟩
      case measure => simp [intOf]; omega
    · go_wp2
      exact bodyPost_end (results_none rfl _ _ _) rfl ⟨rfl, by rw [← revTo_all (xs := xs) (k := k) (by rw [HL.out]; exact hk) (by rw [HL.out]; omega)]; exact hown, hb⟩

set_option maxHeartbeats 400000 in
theorem Swap_any (A : Option Addr) (n c : Nat) (xs : List Int) (w : World) (h : Row w A n c xs) (hn : n ≤ 1000) :
    Calls Try.prog 54 #[.slice A n c] w fun e w' => ∃ A' n' c', e = .returned (.tuple #[.slice A' n' c', .int .i64 (errOf xs)]) ∧ Own w' w.heap.size A' n' c' (okl (errOf xs) (swapL xs)) ∧ Below w.heap.size w w' := by
  have HR := hide h
  have h1 := h.length
  by_cases he : errOf xs = 0
  · obtain ⟨l1, l2, l3⟩ := errOf_zero he
    have l1' : 1 ≤ n := by omega
    have l2' : n ≤ 24 := by omega
    have HE := hide he
    have HB := hide l3
    obtain ⟨b, off, q1, hcap, hmax, q2, q3, q4⟩ := h
    obtain rfl := q2 (by omega)
    have q3' := q3 (by omega)
    have H4 := hide q4
    have H1 := hide q1
    clear h1 he l1 l2 l3 q1 q2 q3 q4
    go_enter Try.func54, Try.ntmps54
    go_wp2_with fail
    refine (Validate_any _ _ _ xs _ HR.out (by omega)).mono ?_
    rintro e w' ⟨rfl, rfl⟩
    rw [HE.out]
    go_wp2_with (at_make; refine wpList_mk _ rfl (.tmp 14) (.tmp 14) rfl w.heap.size n rfl rfl (by omega) (Nat.le_refl _) ?_; intro w1 hown1 hb1 hsz1)
    go_loopw [18] (fun i wr => ∃ k : Nat, k ≤ n ∧ i = .int .i64 k ∧ Own wr w.heap.size (some ⟨w.heap.size, 0, none⟩) n n (fillF (swapF xs) n k) ∧ Below w.heap.size w wr) (fun i _ => n - (intOf i).toNat)
    case atStart => exact ⟨0, Nat.zero_le _, rfl, by rw [fillF_zero]; exact hown1, hb1⟩
    case round =>
      obtain ⟨k, hk, rfl, hown, hb⟩ := hrel
      by_cases hlt : k < n
      · have hcx := (hb.cell (p := ⟨b, off + k, none⟩) q3').trans (H4.out k hlt)
        have hcell := hown.cell hlt
        have hfz := hown.frozen k
        generalize (fillF (swapF xs) n k).getD k 0 = old at hcell
        have hst := hown.stored k (swapF xs k)
        rw [fillF_set hlt] at hst
        have hsw : swapF xs k = 1 - xs.getD k 0 := rfl
        have hbt := bitsB_of_mem HB.out (mem_getD (xs := xs) (k := k) (by rw [H1.out]; exact hlt))
        have hx1 : 0 ≤ xs.getD k 0 := by omega
        have hx2 : xs.getD k 0 ≤ 1 := by omega
        rw [hsw] at hst
        clear hbt hsw
        generalize xs.getD k 0 = x at *
        go_wp2
        go_roundw
        case rel => exact ⟨k + 1, by omega, by go_num, hst, hb.setCell (Nat.le_refl _) _⟩
        case measure => simp [intOf]; omega
      · go_wp2
        go_ret2
        exact ⟨_, _, _, ret2_vi HE.out.symm, by rw [okl_zero HE.out, show swapL xs = fillF (swapF xs) n k from by rw [show k = n from by omega, fillF_all]; unfold swapL; rw [H1.out]]; exact hown, hb⟩
  · have he' : (errOf xs != 0) = true := by simp [he]
    clear h h1
    go_enter Try.func54, Try.ntmps54
    go_wp2_with fail
    refine (Validate_any _ _ _ xs _ HR.out (by omega)).mono ?_
    rintro e w' ⟨rfl, rfl⟩
    go_wp2
    go_ret2
    exact ⟨none, 0, 0, rfl, by rw [okl_ne he]; exact Own.nil _ _, Below.refl _ _⟩

set_option maxHeartbeats 400000 in
theorem rSwap_any (A : Option Addr) (n c : Nat) (xs : List Int) (w : World) (h : Row w A n c xs) (hn : n ≤ 1000) :
    Calls Try.prog 55 #[.slice A n c] w fun e w' => ∃ A' n' c', e = .returned (.tuple #[.slice A' n' c', .int .i64 (errOf xs)]) ∧ Own w' w.heap.size A' n' c' (okl (errOf xs) (swapL xs)) ∧ Below w.heap.size w w' := by
  have HR := hide h
  have h1 := h.length
  by_cases he : errOf xs = 0
  · obtain ⟨l1, l2, l3⟩ := errOf_zero he
    have l1' : 1 ≤ n := by omega
    have l2' : n ≤ 24 := by omega
    have HE := hide he
    have HB := hide l3
    obtain ⟨b, off, q1, hcap, hmax, q2, q3, q4⟩ := h
    obtain rfl := q2 (by omega)
    have q3' := q3 (by omega)
    have H4 := hide q4
    have H1 := hide q1
    clear h1 he l1 l2 l3 q1 q2 q3 q4
    go_enter Try.func55, Try.ntmps55
    go_wp2_with fail
    refine (rValidate_any _ _ _ xs _ HR.out (by omega)).mono ?_
    rintro e w' ⟨rfl, rfl⟩
    rw [HE.out]
    go_wp2
    go_loopw [5, 6] (fun v j wr => ∃ (k : Nat) (A' : Option Addr) (c' : Nat), k ≤ n ∧ j = .int .i64 (k : Int) ∧ v = .slice A' k c' ∧ Own wr w.heap.size A' k c' (mapTo (swapF xs) k) ∧ Below w.heap.size w wr) (fun v _ _ => n - (match v with | .slice _ k _ => k | _ => 0))
    case atStart => exact ⟨0, none, 0, Nat.zero_le _, by go_num, rfl, Own.nil _ _, Below.refl _ _⟩
    case round =>
      obtain ⟨k, A', c', hk, rfl, rfl, hown, hb⟩ := hrel
      have hsz := hb.size
      by_cases hlt : k < n
      · have hcx := (hb.cell (p := ⟨b, off + k, none⟩) q3').trans (H4.out k hlt)
        have hbt := bitsB_of_mem HB.out (mem_getD (xs := xs) (k := k) (by rw [H1.out]; exact hlt))
        have hx1 : 0 ≤ xs.getD k 0 := by omega
        have hx2 : xs.getD k 0 ≤ 1 := by omega
        clear hbt
        generalize hx : xs.getD (k) 0 = x at *
        have HX := hide hx
        clear hx
        go_wp2_with (at_builtin; refine wpList_app1 _ rfl (.tmp 18) (.tmp 24) rfl w.heap.size k c' A' _ _ rfl rfl hown (by omega) hsz ?_; intro A1 c1 w1 hown1 hb1 hg1)
        go_roundw
        case rel => exact ⟨k + 1, A1, c1, by omega, by go_num, rfl, by rw [mapTo_succ]; rw [show swapF xs k = 1 - x from by unfold swapF; rw [HX.out]]; exact hown1, hb.trans (hb1.mono (by omega))⟩
        case measure => simp; omega
      · obtain rfl : k = n := by omega
        go_wp2
        go_ret2
        exact ⟨_, _, _, ret2_vi HE.out.symm, by rw [okl_zero HE.out]; unfold swapL; rw [H1.out]; exact hown, hb⟩
  · have he' : (errOf xs != 0) = true := by simp [he]
    clear h h1
    go_enter Try.func55, Try.ntmps55
    go_wp2_with fail
    refine (rValidate_any _ _ _ xs _ HR.out (by omega)).mono ?_
    rintro e w' ⟨rfl, rfl⟩
    go_wp2
    go_ret2
    exact ⟨none, 0, 0, rfl, by rw [okl_ne he]; exact Own.nil _ _, Below.refl _ _⟩

set_option maxHeartbeats 400000 in
theorem rBack_any (A : Option Addr) (n c : Nat) (xs : List Int) (w : World) (h : Row w A n c xs) (hn : n ≤ 1000) :
    Calls Try.prog 57 #[.slice A n c] w fun e w' => ∃ A' n' c', e = .returned (.tuple #[.slice A' n' c', .int .i64 (errOf xs)]) ∧ Own w' w.heap.size A' n' c' (okl (errOf xs) (xs.reverse)) ∧ Below w.heap.size w w' := by
  have HR := hide h
  have h1 := h.length
  by_cases he : errOf xs = 0
  · obtain ⟨l1, l2, l3⟩ := errOf_zero he
    have l1' : 1 ≤ n := by omega
    have l2' : n ≤ 24 := by omega
    have HE := hide he
    have HB := hide l3
    obtain ⟨b, off, q1, hcap, hmax, q2, q3, q4⟩ := h
    obtain rfl := q2 (by omega)
    have q3' := q3 (by omega)
    have H4 := hide q4
    have H1 := hide q1
    clear h1 he l1 l2 l3 q1 q2 q3 q4
    go_enter Try.func57, Try.ntmps57
    go_wp2_with fail
    refine (rValidate_any _ _ _ xs _ HR.out (by omega)).mono ?_
    rintro e w' ⟨rfl, rfl⟩
    rw [HE.out]
    go_wp2
    go_loopw [5, 6] (fun v j wr => ∃ (k : Nat) (A' : Option Addr) (c' : Nat), k ≤ n ∧ j = .int .i64 ((n : Int) - 1 - (k : Int)) ∧ v = .slice A' k c' ∧ Own wr w.heap.size A' k c' (mapTo (backF xs) k) ∧ Below w.heap.size w wr) (fun v _ _ => n - (match v with | .slice _ k _ => k | _ => 0))
    case atStart => exact ⟨0, none, 0, Nat.zero_le _, by go_num, rfl, Own.nil _ _, Below.refl _ _⟩
    case round =>
      obtain ⟨k, A', c', hk, rfl, rfl, hown, hb⟩ := hrel
      have hsz := hb.size
      by_cases hlt : k < n
      · have hcx := (hb.cell (p := ⟨b, off + (n - 1 - k), none⟩) q3').trans (H4.out (n - 1 - k) (by omega))
        generalize hx : xs.getD (n - 1 - k) 0 = x at *
        have HX := hide hx
        clear hx
        go_wp2_with (at_builtin; refine wpList_app1 _ rfl (.tmp 19) (.tmp 24) rfl w.heap.size k c' A' _ _ rfl rfl hown (by omega) hsz ?_; intro A1 c1 w1 hown1 hb1 hg1)
        go_roundw
        case rel => exact ⟨k + 1, A1, c1, by omega, by go_num, rfl, by rw [mapTo_succ]; rw [show backF xs k = x from by unfold backF; rw [H1.out, HX.out]]; exact hown1, hb.trans (hb1.mono (by omega))⟩
        case measure => simp; omega
      · obtain rfl : k = n := by omega
        go_wp2
        go_ret2
        exact ⟨_, _, _, ret2_vi HE.out.symm, by rw [okl_zero HE.out]; rw [← back_eq, H1.out]; exact hown, hb⟩
  · have he' : (errOf xs != 0) = true := by simp [he]
    clear h h1
    go_enter Try.func57, Try.ntmps57
    go_wp2_with fail
    refine (rValidate_any _ _ _ xs _ HR.out (by omega)).mono ?_
    rintro e w' ⟨rfl, rfl⟩
    go_wp2
    go_ret2
    exact ⟨none, 0, 0, rfl, by rw [okl_ne he]; exact Own.nil _ _, Below.refl _ _⟩

set_option maxHeartbeats 400000 in
theorem Back_any (A : Option Addr) (n c : Nat) (xs : List Int) (w : World) (h : Row w A n c xs) (hn : n ≤ 1000) :
    Calls Try.prog 56 #[.slice A n c] w fun e w' => ∃ A' n' c', e = .returned (.tuple #[.slice A' n' c', .int .i64 (errOf xs)]) ∧ Own w' w.heap.size A' n' c' (okl (errOf xs) (xs.reverse)) ∧ Below w.heap.size w w' := by
  have HR := hide h
  have h1 := h.length
  by_cases he : errOf xs = 0
  · obtain ⟨l1, l2, l3⟩ := errOf_zero he
    have l1' : 1 ≤ n := by omega
    have l2' : n ≤ 24 := by omega
    have HE := hide he
    have HB := hide l3
    obtain ⟨b, off, q1, hcap, hmax, q2, q3, q4⟩ := h
    obtain rfl := q2 (by omega)
    have q3' := q3 (by omega)
    have H4 := hide q4
    have H1 := hide q1
    clear h1 he l1 l2 l3 q1 q2 q3 q4
    go_enter Try.func56, Try.ntmps56
    go_wp2_with fail
    refine (Validate_any _ _ _ xs _ HR.out (by omega)).mono ?_
    rintro e w' ⟨rfl, rfl⟩
    rw [HE.out]
    go_wp2_with fail
    refine (Clone_any _ _ _ xs _ HR.out (by omega) (by omega)).mono ?_
    rintro e w1 ⟨A1, c1, rfl, hown, hb⟩
    go_wp2_with fail
    refine (Reverse_any _ _ _ xs _ _ hown (by omega) (by omega)).mono ?_
    rintro e w2 ⟨rfl, hown2, hb2⟩
    go_wp2
    go_ret2
    exact ⟨_, _, _, ret2_vi HE.out.symm, by rw [okl_zero HE.out]; exact hown2, hb.trans hb2⟩
  · have he' : (errOf xs != 0) = true := by simp [he]
    clear h h1
    go_enter Try.func56, Try.ntmps56
    go_wp2_with fail
    refine (Validate_any _ _ _ xs _ HR.out (by omega)).mono ?_
    rintro e w' ⟨rfl, rfl⟩
    go_wp2
    go_ret2
    exact ⟨none, 0, 0, rfl, by rw [okl_ne he]; exact Own.nil _ _, Below.refl _ _⟩


theorem okl_bd {e : Int} {l : List Int} (hl : l.length ≤ 24) : (okl e l).length ≤ 1000 := by
  unfold okl; split
  · omega
  · simp

set_option maxHeartbeats 1000000 in
theorem ToneSwaps_walk (A : Option Addr) (n c : Nat) (xs : List Int) (w : World) (h : Row w A n c xs) :
    Calls Try.prog 14 #[.slice A n c] w fun e w' => e = .returned (.bool true) ∧ Below w.heap.size w w' := by
  have HR := hide h
  have hl := h.length
  clear h
  by_cases hn : 200 < n
  · clear hl
    go_enter Try.func14, Try.ntmps14
    go_wp2_with (first | (go_at_call 15; refine (Long_yes _ _ _ _ hn).mono ?_; rintro e w' ⟨rfl, rfl⟩) | (go_at_call 16; refine (known_any _).mono ?_; rintro e w9 ⟨rfl, hb9⟩))
    go_ret
    exact ⟨rfl, hb9⟩
  · have hn' : n ≤ 200 := by omega
    have HP := hide (fun he : errOf xs = 0 => (⟨per_swap (errOf_zero he).1, per_back (errOf_zero he).1, err_of (by rw [swapL_length]; exact (errOf_zero he).1) (by rw [swapL_length]; exact (errOf_zero he).2.1) (bits_swap (errOf_zero he).2.2),
      err_of (by rw [List.length_reverse]; exact (errOf_zero he).1) (by rw [List.length_reverse]; exact (errOf_zero he).2.1) (bits_back (errOf_zero he).2.2)⟩ : per (swapL xs) = per xs ∧ per xs.reverse = per xs ∧ errOf (swapL xs) = 0 ∧ errOf xs.reverse = 0))
    have HL := hide hl
    clear hn hl
    go_enter Try.func14, Try.ntmps14
    go_wp2_with fail
    refine (Long_no _ _ _ _ hn').mono ?_
    rintro e w' ⟨rfl, rfl⟩
    go_wp2_with fail
    refine (Swap_any _ _ _ xs _ HR.out (by omega)).mono ?_
    rintro e w1 ⟨A1, n1, c1, rfl, o1, b1⟩
    have B1 := b1
    have z1 := b1.size
    go_wp2_with fail
    refine (rSwap_any _ _ _ xs _ (HR.out.below B1 (Nat.le_refl _)) (by omega)).mono ?_
    rintro e w2 ⟨A2, n2, c2, rfl, o2, b2⟩
    have B2 := B1.trans (b2.mono z1)
    have z2 := b2.size
    have o1 := o1.below b2 (Nat.le_refl _)
    go_wp2_with fail
    refine (Back_any _ _ _ xs _ (HR.out.below B2 (Nat.le_refl _)) (by omega)).mono ?_
    rintro e w3 ⟨A3, n3, c3, rfl, o3, b3⟩
    have B3 := B2.trans (b3.mono (by omega))
    have z3 := b3.size
    have o1 := o1.below b3 (Nat.le_refl _)
    have o2 := o2.below b3 (Nat.le_refl _)
    go_wp2_with fail
    refine (rBack_any _ _ _ xs _ (HR.out.below B3 (Nat.le_refl _)) (by omega)).mono ?_
    rintro e w4 ⟨A4, n4, c4, rfl, o4, b4⟩
    have B4 := B3.trans (b4.mono (by omega))
    have z4 := b4.size
    have o1 := o1.below b4 (Nat.le_refl _)
    have o2 := o2.below b4 (Nat.le_refl _)
    have o3 := o3.below b4 (Nat.le_refl _)
    clear b1 b2 b3 b4 B1 B2 B3
    go_wp2_with fail
    refine (SameInts_any _ _ _ _ _ _ _ _ _ o1.row o2.row).mono ?_
    rintro e w5 ⟨rfl, hd5⟩
    rw [eqL_self]
    have o1 := o1.below (hd5.below _) (Nat.le_refl _)
    have o3 := o3.below (hd5.below _) (Nat.le_refl _)
    have o4 := o4.below (hd5.below _) (Nat.le_refl _)
    have B5 := B4.trans (hd5.below _)
    have z5 := (hd5.below 0).size
    go_wp2_with fail
    refine (SameInts_any _ _ _ _ _ _ _ _ _ o3.row o4.row).mono ?_
    rintro e w6 ⟨rfl, hd6⟩
    rw [eqL_self]
    have o1 := o1.below (hd6.below _) (Nat.le_refl _)
    have o3 := o3.below (hd6.below _) (Nat.le_refl _)
    have B6 := B5.trans (hd6.below _)
    have z6 := (hd6.below 0).size
    have m1 : n1 ≤ 1000 := by
      have := o1.len
      by_cases he : errOf xs = 0
      · rw [okl_zero he, swapL_length, HL.out] at this; omega
      · rw [okl_ne he] at this; simp at this; omega
    have m3 : n3 ≤ 1000 := by
      have := o3.len
      by_cases he : errOf xs = 0
      · rw [okl_zero he, List.length_reverse, HL.out] at this; omega
      · rw [okl_ne he] at this; simp at this; omega
    go_wp2_with fail
    refine (Period_any _ _ _ xs _ (HR.out.below B6 (Nat.le_refl _)) (by omega)).mono ?_
    rintro e w' ⟨rfl, rfl⟩
    go_wp2_with fail
    refine (Period_any _ _ _ _ _ o1.row m1).mono ?_
    rintro e w' ⟨rfl, rfl⟩
    go_wp2_with fail
    refine (Period_any _ _ _ _ _ o3.row m3).mono ?_
    rintro e w' ⟨rfl, rfl⟩
    by_cases he : errOf xs = 0
    · obtain ⟨g1, g2, g3, g4⟩ := HP.out he
      rw [okl_zero he, okl_zero he, g3, g4, g1, g2]
      go_wp2_with (first | (go_at_call 16; refine (known_any _).mono ?_; rintro e w9 ⟨rfl, hb9⟩))
      go_ret
      exact ⟨rfl, B6.trans (hb9.mono (by omega))⟩
    · have he' : (errOf xs != 0) = true := by simp [he]
      clear he
      go_wp2_with (first | (go_at_call 16; refine (known_any _).mono ?_; rintro e w9 ⟨rfl, hb9⟩))
      go_ret
      exact ⟨rfl, B6.trans (hb9.mono (by omega))⟩

end Go.Proofs.Ytbehnhhgoeiofaa
