/- Walks: SameInts, Compare, before, Clone, root, piece, turn. -/
import Derived.Test.YtbadihbcjdibeaaWalkB
namespace Go.Proofs.Ytbadihbcjdibeaa
open Go.RowKit

set_option maxHeartbeats 400000 in
theorem SameInts_any (A : Option Addr) (n c : Nat) (xs : List Int) (A' : Option Addr) (n' c' : Nat) (ys : List Int) (w : World) (h : Row w A n c xs) (h' : Row w A' n' c' ys) :
    Calls Try.prog 12 #[.slice A n c, .slice A' n' c'] w fun e w' => e = .returned (.bool (eqL xs ys)) ∧ Drew w w' := by
  obtain ⟨b, off, h1, hcap, hmax, h2, h3, h4⟩ := h
  obtain ⟨b', off', h1', hcap', hmax', h2', h3', h4'⟩ := h'
  have H1 := hide h1
  have H2 := hide h2
  have H4 := hide h4
  have H1' := hide h1'
  have H2' := hide h2'
  have H4' := hide h4'
  clear h1 h2 h3 h4 h1' h2' h3' h4'
  by_cases hl : n = n'
  · subst hl
    go_enter Try.func12, Try.ntmps12
    go_wp2
    go_loopw [5] (fun i wr => ∃ k : Nat, k ≤ n ∧ i = .int .i64 k ∧ EqTo xs ys k ∧ Drew w wr) (fun i _ => n - (intOf i).toNat)
    case atStart => exact ⟨0, Nat.zero_le _, rfl, eqTo_zero _ _, Drew.refl _⟩
    case round =>
      obtain ⟨k, hk, rfl, hrep, hd⟩ := hrel
      by_cases hlt : k < n
      · have hcell := (hd.cell _).trans (H4.out k hlt)
        have hcell' := (hd.cell _).trans (H4'.out k hlt)
        have hA := H2.out (by omega)
        have hA' := H2'.out (by omega)
        generalize hx : xs.getD k 0 = x at hcell
        generalize hy : ys.getD k 0 = y at hcell'
        have HX := hide hx
        have HY := hide hy
        clear hx hy
        subst hA hA'
        have hi : (k : Int) < (n : Int) := by omega
        cases hxy : (x != y) with
        | false =>
          go_wp2
          go_quiet (fail)
          go_wp2
          go_roundw
          case rel => exact ⟨k + 1, by omega, by go_num, eqTo_succ hrep (by rw [HX.out, HY.out]; simpa using hxy), hd.more _⟩
          case measure => simp [intOf]; omega
        | true =>
          go_wp2
          go_quiet (fail)
          go_wp2
          go_ret
          exact ⟨ret_bool (eqL_ne (k := k) (by rw [HX.out, HY.out]; simpa using hxy)).symm, hd.more _⟩
      · go_wp2
        go_ret
        exact ⟨ret_bool (eqL_true (by rw [H1.out, H1'.out]) (by rw [H1.out, show n = k from by omega]; exact hrep)).symm, hd⟩
  · go_enter Try.func12, Try.ntmps12
    go_wp2
    go_ret
    exact ⟨ret_bool (eqL_len (by rw [H1.out, H1'.out]; exact hl)).symm, Drew.refl _⟩

def cmpI (x y : Int) : Int := if x < y then -1 else if y < x then 1 else 0
theorem cmpI_lt {x y : Int} (h : x < y) : cmpI x y = -1 := by unfold cmpI; rw [if_pos h]
theorem cmpI_gt {x y : Int} (h : y < x) : cmpI x y = 1 := by unfold cmpI; rw [if_neg (by omega), if_pos h]
theorem cmpI_eq {x y : Int} (h1 : ¬ x < y) (h2 : ¬ y < x) : cmpI x y = 0 := by unfold cmpI; rw [if_neg h1, if_neg h2]
set_option maxHeartbeats 400000 in
theorem cmpInt_any (x y : Int) (w : World) :
    Calls Try.prog 67 #[.int .i64 x, .int .i64 y] w fun e w' => e = .returned (.int .i64 (cmpI x y)) ∧ w = w' := by
  by_cases h1 : x < y
  · go_enter Try.func67, Try.ntmps67
    go_wp2
    go_ret
    exact ⟨ret_i64 (cmpI_lt (by omega)).symm, rfl⟩
  · by_cases h2 : y < x
    · go_enter Try.func67, Try.ntmps67
      go_wp2
      go_ret
      exact ⟨ret_i64 (cmpI_gt (by omega)).symm, rfl⟩
    · go_enter Try.func67, Try.ntmps67
      go_wp2
      go_ret
      exact ⟨ret_i64 (cmpI_eq (by omega) (by omega)).symm, rfl⟩

set_option maxHeartbeats 400000 in
theorem Compare_any (A : Option Addr) (n c : Nat) (xs : List Int) (A' : Option Addr) (n' c' : Nat) (ys : List Int) (w : World) (h : Row w A n c xs) (h' : Row w A' n' c' ys) :
    Calls Try.prog 64 #[.slice A n c, .slice A' n' c'] w fun e w' => e = .returned (.int .i64 (cmpL xs ys)) ∧ w = w' := by
  obtain ⟨b, off, h1, hcap, hmax, h2, h3, h4⟩ := h
  obtain ⟨b', off', h1', hcap', hmax', h2', h3', h4'⟩ := h'
  have H1 := hide h1
  have H2 := hide h2
  have H4 := hide h4
  have H1' := hide h1'
  have H2' := hide h2'
  have H4' := hide h4'
  clear h1 h2 h3 h4 h1' h2' h3' h4'
  go_enter Try.func64, Try.ntmps64
  go_wp2
  go_loop [11] (fun i => ∃ k : Nat, k ≤ n ∧ k ≤ n' ∧ i = .int .i64 k ∧ EqTo xs ys k) (fun i => n - (intOf i).toNat)
  case atStart => exact ⟨0, Nat.zero_le _, Nat.zero_le _, rfl, eqTo_zero _ _⟩
  case round =>
    obtain ⟨k, hk, hk', rfl, hrep⟩ := hrel
    by_cases hlt : k < n
    · have hcell := H4.out k hlt
      have hA := H2.out (by omega)
      generalize hx : xs.getD k 0 = x at hcell
      have HX := hide hx
      clear hx
      subst hA
      by_cases hlt' : k < n'
      · have hcell' := H4'.out k hlt'
        have hA' := H2'.out (by omega)
        generalize hy : ys.getD k 0 = y at hcell'
        have HY := hide hy
        clear hy
        subst hA'
        by_cases c1 : x < y
        · go_wp2_with (go_at_call 67; refine (cmpInt_any _ _ _).mono ?_; rintro e w' ⟨rfl, rfl⟩; rw [cmpI_lt (by omega)])
          go_ret
          exact ⟨ret_i64 (cmpL_lt (k := k) (by rw [H1.out]; exact hlt) (by rw [H1'.out]; exact hlt') hrep (by rw [HX.out, HY.out]; exact c1)).symm, rfl⟩
        · by_cases c2 : y < x
          · go_wp2_with (go_at_call 67; refine (cmpInt_any _ _ _).mono ?_; rintro e w' ⟨rfl, rfl⟩; rw [cmpI_gt (by omega)])
            go_ret
            exact ⟨ret_i64 (cmpL_gt (k := k) (by rw [H1.out]; exact hlt) (by rw [H1'.out]; exact hlt') hrep (by rw [HX.out, HY.out]; exact c2)).symm, rfl⟩
          · go_wp2_with (go_at_call 67; refine (cmpInt_any _ _ _).mono ?_; rintro e w' ⟨rfl, rfl⟩; rw [cmpI_eq (by omega) (by omega)])
            go_round
            case rel => exact ⟨k + 1, by omega, by omega, by go_num, eqTo_succ hrep (by rw [HX.out, HY.out]; omega)⟩
            case measure => simp [intOf]; omega
      · go_wp2
        go_ret
        exact ⟨ret_i64 (cmpL_longer (k := k) (by rw [H1.out]; exact hlt) (by rw [H1'.out]; omega) hrep (by rw [H1'.out]; omega)).symm, rfl⟩
    · have hkn : k = n := by omega
      by_cases hl : n < n'
      · go_wp2
        go_ret
        exact ⟨ret_i64 (cmpL_shorter (by rw [H1.out, H1'.out]; exact hl) (by rw [H1.out, ← hkn]; exact hrep)).symm, rfl⟩
      · go_wp2
        go_ret
        exact ⟨ret_i64 (cmpL_same (by rw [H1.out, H1'.out]; omega) (by rw [H1.out, ← hkn]; exact hrep)).symm, rfl⟩

set_option maxHeartbeats 400000 in
theorem Clone_any (A : Option Addr) (n c : Nat) (xs : List Int) (w : World) (h : Row w A n c xs) (hn1 : 1 ≤ n) (hn : n ≤ 1000) :
    Calls Try.prog 51 #[.slice A n c] w fun e w' => ∃ A' c', e = .returned (.slice A' n c') ∧ Own w' w.heap.size A' n c' xs ∧ Below w.heap.size w w' := by
  have HR := hide h
  obtain ⟨b, off, h1, hcap, hmax, h2, h3, h4⟩ := h
  obtain rfl := h2 (by omega)
  clear h1 h2 h3 h4
  have hq := fun W : World => Lib.run_eql_slice_nil (P := Try.prog) W 23 3 (some ⟨b, off, none⟩) n c 0 0 Try.underlying23
  go_enter Try.func51, Try.ntmps51
  go_wp2_with (at_builtin; refine wpList_appN _ rfl (.tmp 5) (.tmp 6) rfl w.heap.size 0 0 (some ⟨w.heap.size, 0, none⟩) [] (some ⟨b, off, none⟩) n c xs rfl rfl (Own.lit w [] (Nat.le_refl _) (by simp)) (HR.out.alloc _) hn1 (by omega) (by omega) (by simp) ?_; intro A1 c1 w1 hown hb hg; rw [Nat.zero_add] at hown ⊢)
  go_ret
  exact ⟨A1, c1, rfl, by simpa using hown, ((Below.refl _ _).alloc (Nat.le_refl _) _).trans hb⟩

set_option maxHeartbeats 400000 in
theorem root_any (A : Option Addr) (n c : Nat) (xs : List Int) (w : World) (h : Row w A n c xs) (hn1 : 1 ≤ n) (hn : n ≤ 1000) :
    Calls Try.prog 53 #[.slice A n c] w fun e w' => ∃ A' c', e = .returned (.slice A' (per xs) c') ∧ Own w' w.heap.size A' (per xs) c' (rootL xs) ∧ Below w.heap.size w w' := by
  have HR := hide h
  have h0 := h
  obtain ⟨b, off, h1, hcap, hmax, h2, h3, h4⟩ := h
  obtain rfl := h2 (by omega)
  obtain ⟨_, s2, s3, _⟩ := per_spec (xs := xs) (by omega)
  have hrow : Row w (some ⟨b, off, none⟩) (per xs) c (rootL xs) := by
    refine ⟨b, off, pieceL_length _ _ _, by omega, hmax, fun _ => rfl, fun _ => h3 (by omega), fun k hk => ?_⟩
    rw [h4 k (by omega), show (rootL xs).getD k 0 = sec xs (0 + (k : Int)) from pieceL_getD hk, Int.zero_add, sec_nat (by omega)]
  have HR2 := hide hrow
  have s3' : per xs ≤ n := by omega
  have hcc : (per xs : Int) ≤ (c : Int) := by omega
  clear h1 h2 h3 h4 h0 hrow s3
  generalize hp : per xs = p at *
  have HP := hide hp
  clear hp
  go_enter Try.func53, Try.ntmps53
  go_wp2_with (first | (go_at_call 48; refine (period_any _ _ _ xs _ HR.out (by omega) (by omega)).mono ?_; rintro e w' ⟨rfl, rfl⟩; rw [HP.out]) | (go_at_call 51; refine (Clone_any _ _ _ (rootL xs) _ HR2.out (by omega) (by omega)).mono ?_; rintro e w1 ⟨A1, c1, rfl, hown, hb⟩))
  go_ret
  exact ⟨A1, c1, rfl, hown, hb⟩

end Go.Proofs.Ytbadihbcjdibeaa
