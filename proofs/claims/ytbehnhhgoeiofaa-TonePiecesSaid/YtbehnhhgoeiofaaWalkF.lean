/- Walks: the functions of two tones, and the rest of the document's own answers on names. -/
import Derived.Test.YtbehnhhgoeiofaaWalkE
import Derived.Test.YtbehnhhgoeiofaaMathC
namespace Go.Proofs.Ytbehnhhgoeiofaa
open Go.RowKit

set_option maxHeartbeats 400000 in
theorem rPeriod_any (A : Option Addr) (n c : Nat) (xs : List Int) (w : World) (h : Row w A n c xs) (hn2 : n ≤ 1000) :
    Calls Try.prog 22 #[.slice A n c] w fun e w' => e = .returned (.tuple #[.int .i64 (okv (errOf xs) (per xs)), .int .i64 (errOf xs)]) ∧ w = w' := by
  have HR := hide h
  have h1 := h.length
  by_cases he : errOf xs = 0
  · obtain ⟨l1, l2, _⟩ := errOf_zero he
    have l1' : 1 ≤ n := by omega
    have HE := hide he
    clear h h1 he l1 l2
    go_enter Try.func22, Try.ntmps22
    go_wp2_with (first | (go_at_call 20; refine (rValidate_any _ _ _ xs _ HR.out (by omega)).mono ?_; rintro e w' ⟨rfl, rfl⟩; rw [HE.out]) | (go_at_call 64; refine (rperiod_any _ _ _ xs _ HR.out (by omega) (by omega)).mono ?_; rintro e w' ⟨rfl, rfl⟩))
    go_ret2
    exact ⟨ret2_ii (okv_zero HE.out _).symm HE.out.symm, rfl⟩
  · have he' : (errOf xs != 0) = true := by simp [he]
    clear h h1
    go_enter Try.func22, Try.ntmps22
    go_wp2_with (first | (go_at_call 20; refine (rValidate_any _ _ _ xs _ HR.out (by omega)).mono ?_; rintro e w' ⟨rfl, rfl⟩))
    go_ret2
    exact ⟨ret2_ii (okv_ne he _).symm rfl, rfl⟩

set_option maxHeartbeats 400000 in
theorem rname_any (A : Option Addr) (n c : Nat) (xs : List Int) (w : World) (h : Row w A n c xs) (hn1 : 1 ≤ n) (hn : n ≤ 1000) :
    Calls Try.prog 68 #[.slice A n c] w fun e w' => ∃ A' c', e = .returned (.slice A' (per xs) c') ∧ Own w' w.heap.size A' (per xs) c' (nameL xs) ∧ Below w.heap.size w w' := by
  have HR := hide h
  have hl := h.length
  have hx : 1 ≤ xs.length := by omega
  obtain ⟨_, s2, s3, _⟩ := per_spec hx
  have hp2 : per xs ≤ 1000 := by omega
  clear h hl s3 hx
  go_enter Try.func68, Try.ntmps68
  go_wp2_with (first | (go_at_call 64; refine (rperiod_any _ _ _ xs _ HR.out (by omega) (by omega)).mono ?_; rintro e w' ⟨rfl, rfl⟩) | (go_at_call 66; refine (piece_any _ _ _ xs _ (per xs) _ HR.out (by omega) (by omega) (by omega) (by omega) (by omega)).mono ?_; rintro e w1 ⟨Ar, cr, rfl, hown, hb⟩))
  go_loopw [4, 5] (fun v j wr => ∃ (k : Nat) (A' : Option Addr) (c' : Nat), 1 ≤ k ∧ k ≤ per xs ∧ j = .int .i64 k ∧ v = .slice A' (per xs) c' ∧ Own wr w.heap.size A' (per xs) c' (bestTo xs (per xs) k) ∧ Below w.heap.size w wr) (fun _ i _ => per xs - (intOf i).toNat)
  case atStart => exact ⟨1, Ar, cr, by omega, by omega, rfl, rfl, by rw [bestTo_one]; exact hown, hb⟩
  case round =>
    obtain ⟨k, A', c', hk1, hk, rfl, rfl, hownb, hbr⟩ := hrel
    have hsz := hbr.size
    by_cases hlt : k < per xs
    · have HRr := hide (HR.out.below hbr (Nat.le_refl _))
      cases hbf : befB (pieceL xs (k : Int) (per xs)) (bestTo xs (per xs) k) with
      | true =>
        go_wp2_with (first | (go_at_call 66; refine (piece_any _ _ _ xs _ (per xs) _ HRr.out (by omega) (by omega) (by omega) (by omega) (by omega)).mono ?_; rintro e w2 ⟨A2, c2, rfl, hown2, hb2⟩; have hb3 := hownb.below hb2 (Nat.le_refl _)) | (go_at_call 90; refine (before_any _ _ _ (pieceL xs (k : Int) (per xs)) _ _ (bestTo xs (per xs) k) _ hown2.row hb3.row).mono ?_; rintro e w3 ⟨rfl, hd3⟩; rw [hbf]))
        go_roundw
        case rel => exact ⟨k + 1, A2, c2, by omega, by omega, by go_num, rfl, by rw [bestTo_yes hbf]; exact (hown2.more (by omega)).below (hd3.below _) (Nat.le_refl _), (hbr.trans (hb2.mono (by omega))).trans (hd3.below _)⟩
        case measure => simp [intOf]; omega
      | false =>
        go_wp2_with (first | (go_at_call 66; refine (piece_any _ _ _ xs _ (per xs) _ HRr.out (by omega) (by omega) (by omega) (by omega) (by omega)).mono ?_; rintro e w2 ⟨A2, c2, rfl, hown2, hb2⟩; have hb3 := hownb.below hb2 (Nat.le_refl _)) | (go_at_call 90; refine (before_any _ _ _ (pieceL xs (k : Int) (per xs)) _ _ (bestTo xs (per xs) k) _ hown2.row hb3.row).mono ?_; rintro e w3 ⟨rfl, hd3⟩; rw [hbf]))
        go_roundw
        case rel => exact ⟨k + 1, A', c', by omega, by omega, by go_num, rfl, by rw [bestTo_no hbf]; exact hb3.below (hd3.below _) (Nat.le_refl _), (hbr.trans (hb2.mono (by omega))).trans (hd3.below _)⟩
        case measure => simp [intOf]; omega
    · go_wp2
      go_ret
      exact ⟨A', c', rfl, by rw [show nameL xs = bestTo xs (per xs) k from by rw [show k = per xs from by omega]; rfl]; exact hownb, hbr⟩

set_option maxHeartbeats 400000 in
theorem rRoot_any (A : Option Addr) (n c : Nat) (xs : List Int) (w : World) (h : Row w A n c xs) (hn : n ≤ 1000) :
    Calls Try.prog 24 #[.slice A n c] w fun e w' => ∃ A' n' c', e = .returned (.tuple #[.slice A' n' c', .int .i64 (errOf xs)]) ∧ Own w' w.heap.size A' n' c' (okl (errOf xs) (rootL xs)) ∧ Below w.heap.size w w' := by
  have HR := hide h
  have h1 := h.length
  by_cases he : errOf xs = 0
  · obtain ⟨l1, l2, _⟩ := errOf_zero he
    have l1' : 1 ≤ n := by omega
    have l2' : n ≤ 24 := by omega
    have HE := hide he
    have HL := hide h1
    obtain ⟨_, p2, p3, _⟩ := per_spec (xs := xs) l1
    have hp3 : per xs ≤ 1000 := by omega
    clear h h1 he l1 l2 p3
    go_enter Try.func24, Try.ntmps24
    go_wp2_with (first | (go_at_call 20; refine (rValidate_any _ _ _ xs _ HR.out (by omega)).mono ?_; rintro e w' ⟨rfl, rfl⟩; rw [HE.out]) | (go_at_call 64; refine (rperiod_any _ _ _ xs _ HR.out (by omega) (by omega)).mono ?_; rintro e w' ⟨rfl, rfl⟩) | (go_at_call 66; refine (piece_any _ _ _ xs _ (per xs) _ HR.out (by omega) (by omega) (by omega) (by omega) (by omega)).mono ?_; rintro e w1 ⟨A1, c1, rfl, hown, hb⟩))
    go_ret2
    exact ⟨A1, _, c1, ret2_vi HE.out.symm, by rw [okl_zero HE.out]; exact hown, hb⟩
  · have he' : (errOf xs != 0) = true := by simp [he]
    clear h h1
    go_enter Try.func24, Try.ntmps24
    go_wp2_with (first | (go_at_call 20; refine (rValidate_any _ _ _ xs _ HR.out (by omega)).mono ?_; rintro e w' ⟨rfl, rfl⟩))
    go_ret2
    exact ⟨none, 0, 0, rfl, by rw [okl_ne he]; exact Own.nil _ _, Below.refl _ _⟩

set_option maxHeartbeats 400000 in
theorem rName_any (A : Option Addr) (n c : Nat) (xs : List Int) (w : World) (h : Row w A n c xs) (hn : n ≤ 1000) :
    Calls Try.prog 26 #[.slice A n c] w fun e w' => ∃ A' n' c', e = .returned (.tuple #[.slice A' n' c', .int .i64 (errOf xs)]) ∧ Own w' w.heap.size A' n' c' (okl (errOf xs) (nameL xs)) ∧ Below w.heap.size w w' := by
  have HR := hide h
  have h1 := h.length
  by_cases he : errOf xs = 0
  · obtain ⟨l1, l2, _⟩ := errOf_zero he
    have l1' : 1 ≤ n := by omega
    have l2' : n ≤ 24 := by omega
    have HE := hide he
    have HL := hide h1
    obtain ⟨_, p2, p3, _⟩ := per_spec (xs := xs) l1
    have hp3 : per xs ≤ 1000 := by omega
    clear h h1 he l1 l2 p3
    go_enter Try.func26, Try.ntmps26
    go_wp2_with (first | (go_at_call 20; refine (rValidate_any _ _ _ xs _ HR.out (by omega)).mono ?_; rintro e w' ⟨rfl, rfl⟩; rw [HE.out]) | (go_at_call 68; refine (rname_any _ _ _ xs _ HR.out (by omega) (by omega)).mono ?_; rintro e w1 ⟨A1, c1, rfl, hown, hb⟩))
    go_ret2
    exact ⟨A1, _, c1, ret2_vi HE.out.symm, by rw [okl_zero HE.out]; exact hown, hb⟩
  · have he' : (errOf xs != 0) = true := by simp [he]
    clear h h1
    go_enter Try.func26, Try.ntmps26
    go_wp2_with (first | (go_at_call 20; refine (rValidate_any _ _ _ xs _ HR.out (by omega)).mono ?_; rintro e w' ⟨rfl, rfl⟩))
    go_ret2
    exact ⟨none, 0, 0, rfl, by rw [okl_ne he]; exact Own.nil _ _, Below.refl _ _⟩

theorem piece_tmod (xs : List Int) (i : Int) (n : Nat) (h : 1 ≤ xs.length) : pieceL xs (i.tmod (xs.length : Int)) n = pieceL xs i n := by
  refine piece_congr n fun j => sec_congr ?_
  have e := Int.tmod_eq_emod (a := i) (b := (xs.length : Int))
  have : ((xs.length : Int).natAbs : Int) = xs.length := by omega
  split at e
  · rw [e]; simp
  · rw [e, this, show i % (xs.length : Int) - (xs.length : Int) + j = (i % (xs.length : Int) + j) - (xs.length : Int) from by omega, Int.sub_emod_right, Int.emod_add_emod]
theorem tmod_bd (i : Int) (n : Nat) (h1 : 1 ≤ n) : -(n : Int) < i.tmod n ∧ i.tmod n < n := by
  have e := Int.tmod_eq_emod (a := i) (b := (n : Int))
  have l := Int.emod_lt_of_pos i (show (0 : Int) < n by omega)
  have g := Int.emod_nonneg i (show (n : Int) ≠ 0 by omega)
  split at e <;> omega

set_option maxHeartbeats 400000 in
theorem rTurn_any (A : Option Addr) (n c : Nat) (xs : List Int) (by_ : Int) (w : World) (h : Row w A n c xs) (hn : n ≤ 1000) :
    Calls Try.prog 29 #[.slice A n c, .int .i64 by_] w fun e w' => ∃ A' n' c', e = .returned (.tuple #[.slice A' n' c', .int .i64 (errOf xs)]) ∧ Own w' w.heap.size A' n' c' (okl (errOf xs) (pieceL xs by_ xs.length)) ∧ Below w.heap.size w w' := by
  have HR := hide h
  have h1 := h.length
  by_cases he : errOf xs = 0
  · obtain ⟨l1, l2, _⟩ := errOf_zero he
    have l1' : 1 ≤ n := by omega
    have l2' : n ≤ 24 := by omega
    have HE := hide he
    have HL := hide h1
    obtain ⟨_, p2, p3, _⟩ := per_spec (xs := xs) l1
    have hp3 : per xs ≤ 1000 := by omega
    obtain ⟨q1, q2⟩ := tmod_bd by_ n l1'
    clear h h1 he l2 p3
    go_enter Try.func29, Try.ntmps29
    go_wp2_with (first | (go_at_call 20; refine (rValidate_any _ _ _ xs _ HR.out (by omega)).mono ?_; rintro e w' ⟨rfl, rfl⟩; rw [HE.out]) | (go_at_call 66; refine (piece_any _ _ _ xs _ n _ HR.out (by omega) (by omega) (by omega) (by omega) (by omega)).mono ?_; rintro e w1 ⟨A1, c1, rfl, hown, hb⟩))
    go_ret2
    exact ⟨A1, _, c1, ret2_vi HE.out.symm, by rw [okl_zero HE.out, ← piece_tmod _ _ _ l1, HL.out]; exact hown, hb⟩
  · have he' : (errOf xs != 0) = true := by simp [he]
    clear h h1
    go_enter Try.func29, Try.ntmps29
    go_wp2_with (first | (go_at_call 20; refine (rValidate_any _ _ _ xs _ HR.out (by omega)).mono ?_; rintro e w' ⟨rfl, rfl⟩))
    go_ret2
    exact ⟨none, 0, 0, rfl, by rw [okl_ne he]; exact Own.nil _ _, Below.refl _ _⟩

set_option maxHeartbeats 400000 in
theorem validateBoth_any (A : Option Addr) (n c : Nat) (xs : List Int) (A' : Option Addr) (n' c' : Nat) (ys : List Int) (w : World) (h : Row w A n c xs) (h' : Row w A' n' c' ys) (hn : n ≤ 1000) (hn' : n' ≤ 1000) :
    Calls Try.prog 70 #[.slice A n c, .slice A' n' c'] w fun e w' => e = .returned (.int .i64 (err2 xs ys)) ∧ w = w' := by
  have HR := hide h
  have HR' := hide h'
  clear h h'
  by_cases he : errOf xs = 0
  · have HE := hide he
    clear he
    go_enter Try.func70, Try.ntmps70
    go_wp2_with fail
    refine (Validate_any _ _ _ xs _ HR.out (by omega)).mono ?_
    rintro e w' ⟨rfl, rfl⟩
    rw [HE.out]
    go_wp2_with fail
    refine (Validate_any _ _ _ ys _ HR'.out (by omega)).mono ?_
    rintro e w' ⟨rfl, rfl⟩
    go_wp2
    go_ret
    exact ⟨ret_i64 (by unfold err2; rw [if_pos HE.out]), rfl⟩
  · have he' : (errOf xs != 0) = true := by simp [he]
    go_enter Try.func70, Try.ntmps70
    go_wp2_with fail
    refine (Validate_any _ _ _ xs _ HR.out (by omega)).mono ?_
    rintro e w' ⟨rfl, rfl⟩
    go_wp2
    go_ret
    exact ⟨ret_i64 (by unfold err2; rw [if_neg he]), rfl⟩

set_option maxHeartbeats 400000 in
theorem two_any (A : Option Addr) (n c : Nat) (xs : List Int) (A' : Option Addr) (n' c' : Nat) (ys : List Int) (w : World) (h : Row w A n c xs) (h' : Row w A' n' c' ys) (hn : n ≤ 1000) (hn' : n' ≤ 1000) :
    Calls Try.prog 72 #[.slice A n c, .slice A' n' c'] w fun e w' => e = .returned (.int .i64 (err2 xs ys)) ∧ w = w' := by
  have HR := hide h
  have HR' := hide h'
  clear h h'
  by_cases he : errOf xs = 0
  · have HE := hide he
    clear he
    go_enter Try.func72, Try.ntmps72
    go_wp2_with fail
    refine (rValidate_any _ _ _ xs _ HR.out (by omega)).mono ?_
    rintro e w' ⟨rfl, rfl⟩
    rw [HE.out]
    go_wp2_with fail
    refine (rValidate_any _ _ _ ys _ HR'.out (by omega)).mono ?_
    rintro e w' ⟨rfl, rfl⟩
    go_wp2
    go_ret
    exact ⟨ret_i64 (by unfold err2; rw [if_pos HE.out]), rfl⟩
  · have he' : (errOf xs != 0) = true := by simp [he]
    go_enter Try.func72, Try.ntmps72
    go_wp2_with fail
    refine (rValidate_any _ _ _ xs _ HR.out (by omega)).mono ?_
    rintro e w' ⟨rfl, rfl⟩
    go_wp2
    go_ret
    exact ⟨ret_i64 (by unfold err2; rw [if_neg he]), rfl⟩

set_option maxHeartbeats 400000 in
theorem same_any (A : Option Addr) (n c : Nat) (xs : List Int) (A' : Option Addr) (n' c' : Nat) (ys : List Int) (w : World) (h : Row w A n c xs) (h' : Row w A' n' c' ys) (hn1 : 1 ≤ n) (hn : n ≤ 1000) (hn1' : 1 ≤ n') (hn' : n' ≤ 1000) :
    Calls Try.prog 71 #[.slice A n c, .slice A' n' c'] w fun e w' => e = .returned (.bool (eqL (rootL xs) (rootL ys))) ∧ Below w.heap.size w w' := by
  have HR := hide h
  have HR' := hide h'
  have p1 := (per_spec (xs := xs) (by have := h.length; omega)).2.2.1
  have p2 := (per_spec (xs := ys) (by have := h'.length; omega)).2.2.1
  have q1 : per xs ≤ 1000 := by have := h.length; omega
  have q2 : per ys ≤ 1000 := by have := h'.length; omega
  clear h h' p1 p2
  go_enter Try.func71, Try.ntmps71
  go_wp2_with fail
  refine (root_any _ _ _ xs _ HR.out (by omega) (by omega)).mono ?_
  rintro e w1 ⟨A1, c1, rfl, hown, hb⟩
  go_wp2_with fail
  refine (root_any _ _ _ ys _ (HR'.out.below hb (Nat.le_refl _)) (by omega) (by omega)).mono ?_
  rintro e w2 ⟨A2, c2, rfl, hown2, hb2⟩
  go_wp2_with fail
  refine (Equal_any _ _ _ (rootL xs) _ _ _ (rootL ys) _ (hown.below hb2 (Nat.le_refl _)).row hown2.row).mono ?_
  rintro e w3 ⟨rfl, hd3⟩
  go_wp2
  go_ret
  exact ⟨rfl, (hb.trans (hb2.mono hb.size)).trans (hd3.below _)⟩

set_option maxHeartbeats 400000 in
theorem alike_any (A : Option Addr) (n c : Nat) (xs : List Int) (A' : Option Addr) (n' c' : Nat) (ys : List Int) (w : World) (h : Row w A n c xs) (h' : Row w A' n' c' ys) (hn1 : 1 ≤ n) (hn : n ≤ 1000) (hn1' : 1 ≤ n') (hn' : n' ≤ 1000) :
    Calls Try.prog 74 #[.slice A n c, .slice A' n' c'] w fun e w' => e = .returned (.bool (eqL (nameL xs) (nameL ys))) ∧ Below w.heap.size w w' := by
  have HR := hide h
  have HR' := hide h'
  have p1 := (per_spec (xs := xs) (by have := h.length; omega)).2.2.1
  have p2 := (per_spec (xs := ys) (by have := h'.length; omega)).2.2.1
  have q1 : per xs ≤ 1000 := by have := h.length; omega
  have q2 : per ys ≤ 1000 := by have := h'.length; omega
  clear h h' p1 p2
  go_enter Try.func74, Try.ntmps74
  go_wp2_with fail
  refine (name_any _ _ _ xs _ HR.out (by omega) (by omega)).mono ?_
  rintro e w1 ⟨A1, c1, rfl, hown, hb⟩
  go_wp2_with fail
  refine (name_any _ _ _ ys _ (HR'.out.below hb (Nat.le_refl _)) (by omega) (by omega)).mono ?_
  rintro e w2 ⟨A2, c2, rfl, hown2, hb2⟩
  go_wp2_with fail
  refine (Equal_any _ _ _ (nameL xs) _ _ _ (nameL ys) _ (hown.below hb2 (Nat.le_refl _)).row hown2.row).mono ?_
  rintro e w3 ⟨rfl, hd3⟩
  go_wp2
  go_ret
  exact ⟨rfl, (hb.trans (hb2.mono hb.size)).trans (hd3.below _)⟩

theorem mul_bd {n m : Nat} (h1 : n ≤ 1000) (h2 : m ≤ 1000) : (n : Int) * (m : Int) ≤ 1000000 ∧ 0 ≤ (n : Int) * (m : Int) := by
  have := Nat.mul_le_mul h1 h2
  have e : ((n * m : Nat) : Int) = (n : Int) * (m : Int) := Int.natCast_mul n m
  omega
set_option maxHeartbeats 400000 in
theorem rsame_any (A : Option Addr) (n c : Nat) (xs : List Int) (A' : Option Addr) (n' c' : Nat) (ys : List Int) (b : Int) (w : World) (h : Row w A n c xs) (h' : Row w A' n' c' ys) (hn1 : 1 ≤ n) (hn : n ≤ 1000) (hn1' : 1 ≤ n') (hn' : n' ≤ 1000) (hb1 : 0 ≤ b) (hb2 : b ≤ 1000) :
    Calls Try.prog 73 #[.slice A n c, .slice A' n' c', .int .i64 b] w fun e w' => e = .returned (.bool (sameB xs ys b (n * n'))) ∧ w = w' := by
  have HR := hide h
  have HR' := hide h'
  obtain ⟨m1, m2⟩ := mul_bd hn hn'
  clear h h'
  go_enter Try.func73, Try.ntmps73
  go_wp2
  go_loop [7] (fun i => ∃ k : Nat, (k : Int) ≤ (n : Int) * (n' : Int) ∧ i = .int .i64 k ∧ sameB xs ys b k = true) (fun i => n * n' - (intOf i).toNat)
  case atStart => exact ⟨0, by simpa using m2, rfl, sameB_zero _ _ _⟩
  case round =>
    obtain ⟨k, hk, rfl, hs⟩ := hrel
    have HS := hide hs
    clear hs
    by_cases hlt : (k : Int) < (n : Int) * (n' : Int)
    · have hltn : k < n * n' := by have e : ((n * n' : Nat) : Int) = (n : Int) * (n' : Int) := Int.natCast_mul n n'; omega
      have HLT := hide hltn
      clear hltn
      cases hc : (sec xs ((k : Int) + b) != sec ys (k : Int)) with
      | false =>
        go_wp2_with fail
        refine (rat_any _ _ _ xs _ _ HR.out (by omega) (by omega)).mono ?_
        rintro e w' ⟨rfl, rfl⟩
        go_wp2_with fail
        refine (rat_any _ _ _ ys _ _ HR'.out (by omega) (by omega)).mono ?_
        rintro e w' ⟨rfl, rfl⟩
        go_wp2
        go_round
        case rel => exact ⟨k + 1, by omega, by go_num, sameB_succ_true HS.out (by simpa using hc)⟩
        case measure => have := HLT.out; simp [intOf]; omega
      | true =>
        go_wp2_with fail
        refine (rat_any _ _ _ xs _ _ HR.out (by omega) (by omega)).mono ?_
        rintro e w' ⟨rfl, rfl⟩
        go_wp2_with fail
        refine (rat_any _ _ _ ys _ _ HR'.out (by omega) (by omega)).mono ?_
        rintro e w' ⟨rfl, rfl⟩
        go_wp2
        go_ret
        exact ⟨ret_bool (sameB_false HLT.out (by simpa using hc)).symm, rfl⟩
    · have hkn : k = n * n' := by have e : ((n * n' : Nat) : Int) = (n : Int) * (n' : Int) := Int.natCast_mul n n'; omega
      have HK := hide hkn
      clear hkn
      go_wp2
      go_ret
      exact ⟨ret_bool (by rw [← HK.out, HS.out]), rfl⟩

set_option maxHeartbeats 400000 in
theorem ralike_any (A : Option Addr) (n c : Nat) (xs : List Int) (A' : Option Addr) (n' c' : Nat) (ys : List Int) (w : World) (h : Row w A n c xs) (h' : Row w A' n' c' ys) (hn1 : 1 ≤ n) (hn : n ≤ 1000) (hn1' : 1 ≤ n') (hn' : n' ≤ 1000) :
    Calls Try.prog 75 #[.slice A n c, .slice A' n' c'] w fun e w' => e = .returned (.bool (eqL (nameL xs) (nameL ys))) ∧ w = w' := by
  have HR := hide h
  have HR' := hide h'
  have l1 := h.length
  have l2 := h'.length
  have HA := hide (alike_eq (xs := xs) (ys := ys) (by omega) (by omega))
  have HL := hide (show n * n' = xs.length * ys.length by rw [l1, l2])
  have HL1 := hide l1
  clear h h' l1 l2
  go_enter Try.func75, Try.ntmps75
  go_wp2
  go_loop [5] (fun i => ∃ k : Nat, k ≤ n ∧ i = .int .i64 k ∧ alikeTo xs ys k = false) (fun i => n - (intOf i).toNat)
  case atStart => exact ⟨0, by omega, rfl, rfl⟩
  case round =>
    obtain ⟨k, hk, rfl, hs⟩ := hrel
    have HS := hide hs
    clear hs
    by_cases hlt : k < n
    · cases hc : sameB xs ys (k : Int) (n * n') with
      | false =>
        go_wp2_with (first | (go_at_call 73; refine (rsame_any _ _ _ xs _ _ _ ys _ _ HR.out HR'.out (by omega) (by omega) (by omega) (by omega) (by omega) (by omega)).mono ?_; rintro e w' ⟨rfl, rfl⟩; rw [hc]))
        go_round
        case rel => exact ⟨k + 1, by omega, by go_num, alikeTo_succ HS.out (by rw [← HL.out]; exact hc)⟩
        case measure => simp [intOf]; omega
      | true =>
        go_wp2_with (first | (go_at_call 73; refine (rsame_any _ _ _ xs _ _ _ ys _ _ HR.out HR'.out (by omega) (by omega) (by omega) (by omega) (by omega) (by omega)).mono ?_; rintro e w' ⟨rfl, rfl⟩; rw [hc]))
        go_ret
        exact ⟨ret_bool (by rw [HA.out, alikeTo_true (k := k) (by rw [HL1.out]; exact hlt) (by rw [← HL.out]; exact hc)]), rfl⟩
    · go_wp2
      go_ret
      exact ⟨ret_bool (by rw [HA.out, HL1.out, show n = k from by omega, HS.out]), rfl⟩


end Go.Proofs.Ytbehnhhgoeiofaa
