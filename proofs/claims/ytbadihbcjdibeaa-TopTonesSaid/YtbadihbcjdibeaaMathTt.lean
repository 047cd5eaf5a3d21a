/- Facts for TopTones: what two tones share, a piece cut off, the lists of two tones. -/
import Derived.Test.YtbadihbcjdibeaaLawAparts
namespace Go.Proofs.Ytbadihbcjdibeaa
open Go.RowKit

theorem lis_lit : lisO [1, 0] [1, 0, 0] = some 4 := by decide +kernel
theorem err_lit : err2 [1, 0] [1, 0, 0] = 0 := by decide +kernel
theorem sec_of_piece {xs ys : List Int} {m : Nat} (h : pieceL xs 0 m = pieceL ys 0 m) (k : Nat) (hk : k < m) : sec xs (k : Int) = sec ys (k : Int) := by
  have e : (pieceL xs 0 m).getD k 0 = (pieceL ys 0 m).getD k 0 := by rw [h]
  rw [pieceL_getD hk, pieceL_getD hk, Int.zero_add] at e
  exact e
theorem same_cut {xs ys : List Int} (h : 1 ≤ xs.length) (h' : 1 ≤ ys.length) :
    eqL (pieceL xs 0 (most (per xs) (per ys))) (pieceL ys 0 (most (per xs) (per ys))) = eqL (rootL xs) (rootL ys) := by
  rw [Bool.eq_iff_iff, root_same h h', eqL_iff]
  constructor
  · intro e i
    have := agree_long h h' 0 0 (fun k hk => by rw [Int.zero_add]; exact sec_of_piece e k hk) i
    rwa [Int.zero_add] at this
  · intro e
    exact piece_same e 0 _
theorem lis_is {xs ys : List Int} (h : errOf xs = 0) (h' : errOf ys = 0) :
    (eqL (nameL xs) (nameL ys) = true ∧ lisO xs ys = none) ∨
    (eqL (nameL xs) (nameL ys) = false ∧ eqL (rootL xs) (rootL ys) = false ∧ ∃ d : Nat, lisO xs ys = some d ∧ 1 ≤ d ∧ d ≤ most (per xs) (per ys) ∧ d ≤ 47) := by
  obtain ⟨a1, a2, _⟩ := errOf_zero h
  obtain ⟨b1, b2, _⟩ := errOf_zero h'
  cases hne : eqL (nameL xs) (nameL ys) with
  | true => exact .inl ⟨rfl, lis_none hne⟩
  | false =>
    obtain ⟨d, q1, q2, q3, q4, _⟩ := lis_spec a1 b1 a2 b2 hne
    refine .inr ⟨rfl, ?_, d, q1, q2, q3, q4⟩
    cases hr : eqL (rootL xs) (rootL ys) with
    | false => rfl
    | true =>
      have := (name_alike a1 b1).2 ⟨0, fun i => by rw [Int.add_zero]; exact (root_same a1 b1).1 hr i⟩
      rw [this] at hne; cases hne
theorem errLs_two {xs ys : List Int} (h : errOf xs = 0) (h' : errOf ys = 0) : errLs [xs, ys] = 0 := by
  refine errLs_ok (by simp) fun j hj => ?_
  simp at hj
  rcases (show j = 0 ∨ j = 1 by omega) with rfl | rfl
  · exact h
  · exact h'
theorem small_two {xs ys : List Int} (h : errOf xs = 0) (h' : errOf ys = 0) : Small [xs, ys] 200 := by
  intro j hj
  have a := errOf_zero h
  have b := errOf_zero h'
  simp at hj
  rcases (show j = 0 ∨ j = 1 by omega) with rfl | rfl
  · show xs.length ≤ 200; omega
  · show ys.length ≤ 200; omega
theorem two_tell {xs ys : List Int} {d : Nat} (h : errOf xs = 0) (h' : errOf ys = 0) (e : lisO xs ys = some d) (hd : d ≤ 47) :
    tellE [xs, ys] (pieceL xs 0 d) = 0 ∧ tellL [xs, ys] (pieceL xs 0 d) = [0] := by
  obtain ⟨a1, a2, a3⟩ := errOf_zero h
  have hE : tellE [xs, ys] (pieceL xs 0 d) = 0 := by
    rw [tellE_fit (errLs_two h h') (by rw [pieceL_length]; omega)]
    exact bitErr_true (bits_piece a3 0 d)
  refine ⟨hE, ?_⟩
  rw [tellL_ok hE, tellTo_only (q := 0)]
  · rfl
  · intro j hj
    simp at hj
    rcases (show j = 0 ∨ j = 1 by omega) with rfl | rfl
    · exact has_self a1 0 d
    · show hasB ys (pieceL xs 0 d) = false
      cases hh : hasB ys (pieceL xs 0 d) with
      | false => rfl
      | true => exact absurd (has_shr hh) (lis_no h h' e (Nat.le_refl _))
theorem turn_err {xs : List Int} (h : errOf xs = 0) (i : Int) : nameL (pieceL xs i xs.length) = nameL xs ∧ errOf (pieceL xs i xs.length) = 0 :=
  ⟨name_turn (errOf_zero h).1 i, err_of (by rw [pieceL_length]; exact (errOf_zero h).1) (by rw [pieceL_length]; exact (errOf_zero h).2.1) (bits_piece (errOf_zero h).2.2 _ _)⟩
theorem swap_err {xs : List Int} (h : errOf xs = 0) : per (swapL xs) = per xs ∧ errOf (swapL xs) = 0 :=
  ⟨per_swap (errOf_zero h).1, err_of (by rw [swapL_length]; exact (errOf_zero h).1) (by rw [swapL_length]; exact (errOf_zero h).2.1) (bits_swap (errOf_zero h).2.2)⟩
theorem back_err {xs : List Int} (h : errOf xs = 0) : per xs.reverse = per xs ∧ errOf xs.reverse = 0 :=
  ⟨per_back (errOf_zero h).1, err_of (by rw [List.length_reverse]; exact (errOf_zero h).1) (by rw [List.length_reverse]; exact (errOf_zero h).2.1) (bits_back (errOf_zero h).2.2)⟩
theorem turn_back {xs : List Int} (h : 1 ≤ xs.length) {i j : Int} (hj : (i + j) % (xs.length : Int) = 0) : pieceL (pieceL xs i xs.length) j (pieceL xs i xs.length).length = xs := by
  have hl : (pieceL xs i xs.length).length = xs.length := pieceL_length _ _ _
  apply list_ext_getD
  · rw [pieceL_length, hl]
  · intro k hk
    rw [pieceL_length, hl] at hk
    rw [hl, pieceL_getD hk]
    have e1 := Int.emod_lt_of_pos (j + (k : Int)) (show (0 : Int) < xs.length by omega)
    have e2 := Int.emod_nonneg (j + (k : Int)) (show (xs.length : Int) ≠ 0 by omega)
    show (pieceL xs i xs.length).getD ((j + (k : Int)) % ((pieceL xs i xs.length).length : Int)).toNat 0 = _
    rw [hl, pieceL_getD (by omega), Int.toNat_of_nonneg e2, ← sec_nat hk]
    refine sec_congr ?_
    rw [Int.add_emod_emod, ← Int.add_assoc, ← Int.emod_add_emod, hj, Int.zero_add]
theorem tmod_back (i : Int) (n : Nat) : (i + -(Int.tmod i (n : Int))) % (n : Int) = 0 := by
  have := Int.mul_tdiv_add_tmod i (n : Int)
  have e : i + -(Int.tmod i (n : Int)) = (n : Int) * Int.tdiv i n := by omega
  rw [e, Int.mul_emod_right]
theorem twice_err {xs : List Int} (h : errOf xs = 0) (h2 : repE xs 2 = 0) : errOf (pieceL xs 0 (xs.length * 2)) = 0 ∧ eqL (rootL xs) (rootL (pieceL xs 0 (xs.length * 2))) = true := by
  obtain ⟨a1, a2, a3⟩ := errOf_zero h
  obtain ⟨_, k, hk, k1, k2, k3⟩ := repE_zero h2
  have : k = 2 := by omega
  subst this
  refine ⟨err_of (by rw [pieceL_length]; omega) (by rw [pieceL_length]; omega) (bits_piece a3 0 _), ?_⟩
  exact (root_same a1 (by rw [pieceL_length]; omega)).2 fun i => (sec_times a1 (by omega) i).symm
theorem twice_big {xs : List Int} (h : errOf xs = 0) (h2 : repE xs 2 ≠ 0) : 24 < 2 * (xs.length : Int) := by
  false_or_by_contra
  apply h2
  unfold repE
  rw [if_pos h, if_pos (by omega), if_pos (by omega)]

theorem grid_two {w : World} {A A' : Option Addr} {n c n' c' : Nat} {xs ys : List Int} (h : Row w A n c xs) (h' : Row w A' n' c' ys) :
    Grid (w.alloc (.cells #[.slice A n c, .slice A' n' c'] 23)) (some ⟨w.heap.size, 0, none⟩) 2 2 [xs, ys] := by
  refine ⟨w.heap.size, 0, rfl, by omega, by omega, fun _ => rfl, fun _ => by simp, fun k hk => ?_⟩
  rcases (show k = 0 ∨ k = 1 by omega) with rfl | rfl
  · exact ⟨A, n, c, by simp, h.alloc _⟩
  · exact ⟨A', n', c', by simp, h'.alloc _⟩

set_option maxHeartbeats 1000000 in
theorem cut_any (A : Option Addr) (n c : Nat) (xs : List Int) (f : Int) (a : Nat) (w : World) (h : Row w A n c xs) (hn : n ≤ 1000) (he : errOf xs = 0) (ha : a ≤ 1000) (hf1 : -1000 ≤ f) (hf2 : f ≤ 1000) :
    Calls Try.prog 23 #[.slice A n c, .int .i64 f, .int .i64 a] w fun e w' => ∃ A' c', e = .returned (.tuple #[.slice A' a c', .bool true]) ∧ Own w' w.heap.size A' a c' (pieceL xs f a) ∧ Below w.heap.size w w' := by
  have HR := hide h
  have HE := hide he
  clear h he
  go_enter Try.func23, Try.ntmps23
  go_wp2_with fail
  go_loopw [8, 9] (fun s i wr => ∃ (k : Nat) (A1 : Option Addr) (k1 : Nat), k ≤ a ∧ i = .int .i64 k ∧ s = .slice A1 k k1 ∧ Hid (Own wr w.heap.size A1 k k1 (pieceL xs f k)) ∧ Hid (Below w.heap.size w wr)) (fun _ i _ => a - (intOf i).toNat)
  case atStart => exact ⟨0, none, 0, Nat.zero_le _, rfl, rfl, hide (Own.nil _ _), hide (Below.refl _ _)⟩
  case round =>
    obtain ⟨k, A1, k1, hk, rfl, rfl, HO, HB⟩ := hrel
    have hz := HB.out.size
    by_cases hlt : k < a
    · have w1 : IntKind.i64.wrap (f + (k : Int)) = f + (k : Int) := IntWalk.i64_in _ (by omega)
      have HP := hide (pieceL_succ xs f k)
      go_wp2_with (first | (go_at_call 15; refine (At_any _ _ _ xs _ _ (HR.out.below HB.out (Nat.le_refl _)) hn).mono ?_; rintro e w4 ⟨rfl, rfl⟩; rw [HE.out, okv_zero rfl]) | (at_builtin; refine wpList_app1 _ rfl (.tmp 27) (.tmp 29) rfl w.heap.size k k1 A1 _ _ rfl rfl HO.out (by omega) hz ?_; intro A3 c3 w3 hown3 hb3 hg3))
      go_roundw
      case rel => exact ⟨k + 1, A3, c3, by omega, by go_num, by go_num, hide (by rw [HP.out]; exact hown3), hide (HB.out.trans hb3)⟩
      case measure => simp [intOf]; omega
    · obtain rfl : k = a := by omega
      go_wp2_with fail
      go_ret2
      exact ⟨A1, k1, rfl, HO.out, HB.out⟩

end Go.Proofs.Ytbadihbcjdibeaa
