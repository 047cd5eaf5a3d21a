/- Walks of turning: slices.Reverse, Turn and Rising on both sides. -/
import Derived.Test.YtnngafndlgnclaaWalkS
namespace Go.Proofs.Ytnngafndlgnclaa
open Go.RowKit

def revTo (xs : Rd) : Nat → Rd
  | 0 => xs
  | k + 1 => ((revTo xs k).set k ((revTo xs k).getD (xs.length - 1 - k) (0, 0))).set (xs.length - 1 - k) ((revTo xs k).getD k (0, 0))
theorem revTo_succ (xs : Rd) (k : Nat) : revTo xs (k + 1) = ((revTo xs k).set k ((revTo xs k).getD (xs.length - 1 - k) (0, 0))).set (xs.length - 1 - k) ((revTo xs k).getD k (0, 0)) := rfl
theorem revTo_length (xs : Rd) (k : Nat) : (revTo xs k).length = xs.length := by
  induction k with
  | zero => rfl
  | succ k ih => rw [revTo_succ, List.length_set, List.length_set, ih]
theorem revTo_get (xs : Rd) : ∀ k, 2 * k ≤ xs.length → ∀ j, j < xs.length → (revTo xs k).getD j (0, 0) = if j < k ∨ xs.length - k ≤ j then xs.getD (xs.length - 1 - j) (0, 0) else xs.getD j (0, 0) := by
  intro k
  induction k with
  | zero => intro _ j hj; rw [if_neg (by omega)]; rfl
  | succ k ih =>
    intro hk j hj
    rw [revTo_succ, getD_set _ _ _ _ (by rw [List.length_set, revTo_length]; omega), getD_set _ _ _ _ (by rw [revTo_length]; omega), ih (by omega) k (by omega), ih (by omega) (xs.length - 1 - k) (by omega), ih (by omega) j hj,
      if_neg (show ¬ (k < k ∨ xs.length - k ≤ k) by omega), if_neg (show ¬ (xs.length - 1 - k < k ∨ xs.length - k ≤ xs.length - 1 - k) by omega)]
    by_cases h1 : j = xs.length - 1 - k
    · rw [if_pos h1, if_pos (by omega)]; congr 1; omega
    · rw [if_neg h1]
      by_cases h2 : j = k
      · rw [if_pos h2, if_pos (by omega)]; congr 1; omega
      · rw [if_neg h2]
        by_cases h3 : j < k ∨ xs.length - k ≤ j
        · rw [if_pos h3, if_pos (by omega)]
        · rw [if_neg h3, if_neg (by omega)]
theorem getD_reverse {xs : Rd} {j : Nat} (h : j < xs.length) : xs.reverse.getD j (0, 0) = xs.getD (xs.length - 1 - j) (0, 0) := by
  simp only [List.getD_eq_getElem?_getD]
  rw [List.getElem?_reverse h]
theorem revTo_all {xs : Rd} {k : Nat} (h1 : 2 * k ≤ xs.length) (h2 : xs.length ≤ 2 * k + 1) : revTo xs k = xs.reverse := by
  refine List.ext_getElem (by rw [revTo_length, List.length_reverse]) fun j hj hj2 => ?_
  rw [revTo_length] at hj
  have e : (revTo xs k).getD j (0, 0) = xs.reverse.getD j (0, 0) := by
    rw [revTo_get xs k h1 j hj, getD_reverse hj]
    by_cases h3 : j < k ∨ xs.length - k ≤ j
    · rw [if_pos h3]
    · rw [if_neg h3]; congr 1; omega
  simpa [List.getD_eq_getElem?_getD, revTo_length, hj] using e
theorem okH_rev {xs : Rd} (o : okH xs = true) : okH xs.reverse = true := List.all_eq_true.2 fun x hx => List.all_eq_true.1 o x (List.mem_reverse.1 hx)
theorem errH_rev {xs : Rd} (h : errH xs = 0) : errH xs.reverse = 0 := by
  obtain ⟨a, b, c⟩ := errH_zero h
  exact errH_ok (by rw [List.length_reverse]; exact a) (by rw [List.length_reverse]; exact b) (okH_rev c)
theorem Own.addr {w : World} {B n c : Nat} {e : TypeId} {A : Option Addr} {xs : Rd} (h : Own w B e A n c xs) (hn : 1 ≤ n) : ∃ g, A = some ⟨g, 0, none⟩ ∧ B ≤ g ∧ g < w.heap.size ∧ n ≤ c ∧ c ≤ maxLen := by
  rcases h.form with ⟨_, h1, _⟩ | h
  · omega
  · exact h

set_option maxHeartbeats 1000000 in
theorem ReverseQ_any (A : Option Addr) (n c : Nat) (xs : Rd) (B : Nat) (w : World) (h : Own w B 26 A n c xs) (hn1 : 1 ≤ n) (hn : n ≤ 1000) :
    Calls Try.prog 72 #[.slice A n c] w fun e w' => e = .returned (.tuple #[]) ∧ Own w' B 26 A n c xs.reverse ∧ Below B w w' := by
  obtain ⟨g, rfl, hBg, hgl, hnc, hcm⟩ := h.addr hn1
  have HL := hide h.len
  go_enter Try.func72, Try.ntmps72
  go_wp2
  go_loopw [2, 3] (fun i j wr => ∃ k : Nat, 2 * k ≤ n ∧ i = .int .i64 k ∧ j = .int .i64 ((n : Int) - 1 - k) ∧ Own wr B 26 (some ⟨g, 0, none⟩) n c (revTo xs k) ∧ Below B w wr) (fun i _ _ => n - (intOf i).toNat)
  case atStart => exact ⟨0, by omega, rfl, by go_num, h, Below.refl _ _⟩
  case round =>
    obtain ⟨k, hk, rfl, rfl, hown, hb⟩ := hrel
    by_cases hlt : 2 * k + 1 < n
    · obtain ⟨c1, c2⟩ := hown.cell (k := k) (by omega)
      obtain ⟨d1, d2⟩ := hown.cell (k := n - 1 - k) (by omega)
      have f1 := hown.frozen (k * 2)
      have f2 := hown.frozen (k * 2 + 1)
      have f3 := hown.frozen ((n - 1 - k) * 2)
      have f4 := hown.frozen ((n - 1 - k) * 2 + 1)
      have i1 : (k : Int) ≤ (n : Int) - 1 := by omega
      have i2 : (n : Int) - 1 - (k : Int) < (n : Int) := by omega
      have i3 : (k : Int) < (n : Int) := by omega
      have i4 : (0 : Int) ≤ (n : Int) - 1 - (k : Int) := by omega
      have i5 : ((n : Int) - 1 - (k : Int)).toNat = n - 1 - k := by omega
      have ne1 : k * 2 ≠ (n - 1 - k) * 2 := by omega
      have ne2 : k * 2 ≠ (n - 1 - k) * 2 + 1 := by omega
      have ne3 : k * 2 + 1 ≠ (n - 1 - k) * 2 := by omega
      have ne4 : k * 2 + 1 ≠ (n - 1 - k) * 2 + 1 := by omega
      have RS := hide (revTo_succ xs k)
      generalize hx : (revTo xs k).getD k (0, 0) = x at *
      generalize hy : (revTo xs k).getD (n - 1 - k) (0, 0) = y at *
      have HX := hide hx
      have HY := hide hy
      have HO := hide hown
      clear hx hy hown
      obtain ⟨x1, x2⟩ := x
      obtain ⟨y1, y2⟩ := y
      simp only at c1 c2 d1 d2
      go_wp2
      go_region
      all_goals
        go_wp2
        go_roundw
        case rel => exact ⟨k + 1, by omega, by go_num, by go_num, by rw [RS.out, HL.out, HY.out]; exact ((HO.out.stored (by omega) y1 y2).stored (k := n - 1 - k) (by omega) x1 x2).drew, ((((hb.setCell hBg _).setCell hBg _).setCell hBg _).setCell hBg _).drew⟩
        case measure => simp [intOf]; omega
    · go_wp2
      exact bodyPost_end (results_none rfl _ _ _) rfl ⟨rfl, by rw [← revTo_all (xs := xs) (k := k) (by rw [HL.out]; exact hk) (by rw [HL.out]; omega)]; exact hown, hb⟩

set_option maxHeartbeats 1000000 in
theorem ReverseR_any (A : Option Addr) (n c : Nat) (xs : Rd) (B : Nat) (w : World) (h : Own w B 51 A n c xs) (hn1 : 1 ≤ n) (hn : n ≤ 1000) :
    Calls Try.prog 82 #[.slice A n c] w fun e w' => e = .returned (.tuple #[]) ∧ Own w' B 51 A n c xs.reverse ∧ Below B w w' := by
  obtain ⟨g, rfl, hBg, hgl, hnc, hcm⟩ := h.addr hn1
  have HL := hide h.len
  go_enter Try.func82, Try.ntmps82
  go_wp2
  go_loopw [2, 3] (fun i j wr => ∃ k : Nat, 2 * k ≤ n ∧ i = .int .i64 k ∧ j = .int .i64 ((n : Int) - 1 - k) ∧ Own wr B 51 (some ⟨g, 0, none⟩) n c (revTo xs k) ∧ Below B w wr) (fun i _ _ => n - (intOf i).toNat)
  case atStart => exact ⟨0, by omega, rfl, by go_num, h, Below.refl _ _⟩
  case round =>
    obtain ⟨k, hk, rfl, rfl, hown, hb⟩ := hrel
    by_cases hlt : 2 * k + 1 < n
    · obtain ⟨c1, c2⟩ := hown.cell (k := k) (by omega)
      obtain ⟨d1, d2⟩ := hown.cell (k := n - 1 - k) (by omega)
      have f1 := hown.frozen (k * 2)
      have f2 := hown.frozen (k * 2 + 1)
      have f3 := hown.frozen ((n - 1 - k) * 2)
      have f4 := hown.frozen ((n - 1 - k) * 2 + 1)
      have i1 : (k : Int) ≤ (n : Int) - 1 := by omega
      have i2 : (n : Int) - 1 - (k : Int) < (n : Int) := by omega
      have i3 : (k : Int) < (n : Int) := by omega
      have i4 : (0 : Int) ≤ (n : Int) - 1 - (k : Int) := by omega
      have i5 : ((n : Int) - 1 - (k : Int)).toNat = n - 1 - k := by omega
      have ne1 : k * 2 ≠ (n - 1 - k) * 2 := by omega
      have ne2 : k * 2 ≠ (n - 1 - k) * 2 + 1 := by omega
      have ne3 : k * 2 + 1 ≠ (n - 1 - k) * 2 := by omega
      have ne4 : k * 2 + 1 ≠ (n - 1 - k) * 2 + 1 := by omega
      have RS := hide (revTo_succ xs k)
      generalize hx : (revTo xs k).getD k (0, 0) = x at *
      generalize hy : (revTo xs k).getD (n - 1 - k) (0, 0) = y at *
      have HX := hide hx
      have HY := hide hy
      have HO := hide hown
      clear hx hy hown
      obtain ⟨x1, x2⟩ := x
      obtain ⟨y1, y2⟩ := y
      simp only at c1 c2 d1 d2
      go_wp2
      go_region
      all_goals
        go_wp2
        go_roundw
        case rel => exact ⟨k + 1, by omega, by go_num, by go_num, by rw [RS.out, HL.out, HY.out]; exact ((HO.out.stored (by omega) y1 y2).stored (k := n - 1 - k) (by omega) x1 x2).drew, ((((hb.setCell hBg _).setCell hBg _).setCell hBg _).setCell hBg _).drew⟩
        case measure => simp [intOf]; omega
    · go_wp2
      exact bodyPost_end (results_none rfl _ _ _) rfl ⟨rfl, by rw [← revTo_all (xs := xs) (k := k) (by rw [HL.out]; exact hk) (by rw [HL.out]; omega)]; exact hown, hb⟩

set_option maxHeartbeats 1000000 in
theorem turn_any (A : Option Addr) (n c : Nat) (xs : Rd) (w : World) (h : Row w A n c xs) (hn1 : 1 ≤ n) (hn2 : n ≤ 1000) :
    Calls Try.prog 71 #[.slice A n c] w fun e w' => ∃ A' c', e = .returned (.slice A' n c') ∧ Own w' w.heap.size 51 A' n c' xs.reverse ∧ Below w.heap.size w w' := by
  have HR := hide h
  clear h
  go_enter Try.func71, Try.ntmps71
  go_wp2_with fail
  refine (Clone_any _ _ _ _ _ HR.out hn1 hn2).mono ?_
  rintro e w1 ⟨A', c', rfl, hown, hb1⟩
  go_wp2_with fail
  refine (ReverseR_any _ _ _ _ _ _ hown hn1 hn2).mono ?_
  rintro e w2 ⟨rfl, hown2, hb2⟩
  go_wp2_with fail
  go_ret
  exact ⟨A', c', rfl, hown2, hb1.trans hb2⟩

set_option maxHeartbeats 1000000 in
theorem turned_any (A : Option Addr) (n c : Nat) (xs : Rd) (w : World) (h : Row w A n c xs) (hn1 : 1 ≤ n) (hn2 : n ≤ 1000) :
    Calls Try.prog 73 #[.slice A n c] w fun e w' => ∃ A' c', e = .returned (.slice A' n c') ∧ Own w' w.heap.size 51 A' n c' xs.reverse ∧ Below w.heap.size w w' := by
  have hl := h.length
  obtain ⟨b, off, hr⟩ := h
  obtain rfl := hr.at_ (by omega)
  have hcap := hr.cap
  have hmax := hr.max
  have HR := hide hr
  have HL := hide hl
  clear hr hl
  go_enter Try.func73, Try.ntmps73
  go_wp2
  go_loopw [3, 4] (fun s t wr => ∃ (k : Nat) (A' : Option Addr) (c' : Nat), k ≤ n ∧ s = .slice A' k c' ∧ t = .int .i64 ((n : Int) - 1 - k) ∧ Own wr w.heap.size 51 A' k c' (xs.reverse.take k) ∧ Below w.heap.size w wr) (fun _ t _ => (intOf t + 1).toNat)
  case atStart => exact ⟨0, none, 0, Nat.zero_le _, rfl, by go_num, Own.nil _ _ _, Below.refl _ _⟩
  case round =>
    obtain ⟨k, A', c', hk, rfl, rfl, hown, hbel⟩ := hrel
    by_cases hlt : k < n
    · have HR1 := hide (HR.out.below hbel (Nat.le_refl _))
      obtain ⟨c1, c2⟩ := HR1.out.cell (n - 1 - k) (by omega)
      have hg := getD_reverse (xs := xs) (j := k) (by rw [HL.out]; exact hlt)
      rw [HL.out] at hg
      rw [← hg] at c1 c2
      have ht : xs.reverse.take (k + 1) = xs.reverse.take k ++ [xs.reverse.getD k (0, 0)] := by
        rw [List.take_succ_eq_append_getElem (by rw [List.length_reverse, HL.out]; exact hlt)]
        congr 2
        simp [List.getD_eq_getElem?_getD, HL.out, hlt]
      generalize xs.reverse.getD k (0, 0) = x at *
      have HT := hide ht
      have HOWN := hide hown
      obtain ⟨x1, x2⟩ := x
      simp only at c1 c2
      clear hg ht hown
      have i1 : (0 : Int) ≤ (n : Int) - 1 - (k : Int) := by omega
      have i2 : (n : Int) - 1 - (k : Int) < (n : Int) := by omega
      have i5 : ((n : Int) - 1 - (k : Int)).toNat = n - 1 - k := by omega
      go_wp2_with (at_builtin; refine wpList_app1 _ rfl (.tmp 12) (.tmp 17) 22 51 rfl Try.underlying22 info_reading w.heap.size k c' A' _ _ _ rfl rfl HOWN.out (by omega) hbel.size ?_; intro A2 c2 w5 hown5 hb5 hg5)
      go_roundw
      case rel => exact ⟨k + 1, A2, c2, by omega, rfl, by go_num, by rw [HT.out]; exact hown5, hbel.trans hb5⟩
      case measure => simp [intOf]; omega
    · obtain rfl : k = n := by omega
      have e : xs.reverse.take k = xs.reverse := List.take_of_length_le (by rw [List.length_reverse, HL.out]; exact Nat.le_refl _)
      rw [e] at hown
      have HO := hide hown
      clear hown e
      go_wp2_with fail
      go_ret
      exact ⟨_, _, rfl, HO.out, hbel⟩

end Go.Proofs.Ytnngafndlgnclaa
