/- Walks: Pieces, both sides. -/
import Derived.Test.YtbehnhhgoeiofaaMathP
namespace Go.Proofs.Ytbehnhhgoeiofaa
open Go.RowKit

/-- The error of Pieces, and its count. -/
def pcE (xs : List Int) (m : Int) : Int := if errOf xs = 0 then (if 0 ≤ m ∧ m ≤ 60 then 0 else 1) else errOf xs
theorem pcE_ne {xs : List Int} {m : Int} (h : errOf xs ≠ 0) : pcE xs m = errOf xs := by unfold pcE; rw [if_neg h]
theorem pcE_in {xs : List Int} {m : Int} (h : errOf xs = 0) (h1 : 0 ≤ m) (h2 : m ≤ 60) : pcE xs m = 0 := by unfold pcE; rw [if_pos h, if_pos ⟨h1, h2⟩]
theorem pcE_out {xs : List Int} {m : Int} (h : errOf xs = 0) (h1 : m < 0 ∨ 60 < m) : pcE xs m = 1 := by unfold pcE; rw [if_pos h, if_neg (by omega)]

theorem run_setLen {w : World} {r : Nat} {ks : List (List Int)} (h : SetMap w r ks) (t k e ty : TypeId) (ht : Try.prog.underlying t = some (.map k e)) :
    (Builtin.len_ #[t] ty #[.map (some r)]).run Try.prog w = .ok (.int .i64 (ks.length : Int)) w := by
  have hgo : (getObj r).run Try.prog w = .ok (.map (ents ks).toArray ks.length) w := by simp [getObj, Sem.run, h.heap]
  simp [Builtin.len_, run_underlying ht, hgo, goInt, Result.andThen, ents_length]

set_option maxHeartbeats 400000 in
theorem Pieces_bad (A : Option Addr) (n c : Nat) (xs : List Int) (m : Int) (w : World) (h : Row w A n c xs) (hn : n ≤ 1000) (he : errOf xs ≠ 0) :
    Calls Try.prog 39 #[.slice A n c, .int .i64 m] w fun e w' => e = .returned (.tuple #[.int .i64 0, .int .i64 (errOf xs)]) ∧ Below w.heap.size w w' := by
  have HR := hide h
  have he' : (errOf xs != 0) = true := by simp [he]
  clear h he
  go_enter Try.func39, Try.ntmps39
  go_wp2_with fail
  refine (Validate_any _ _ _ xs _ HR.out (by omega)).mono ?_
  rintro e w' ⟨rfl, rfl⟩
  go_wp2
  go_ret2
  exact ⟨rfl, Below.refl _ _⟩
set_option maxHeartbeats 400000 in
theorem Pieces_out (A : Option Addr) (n c : Nat) (xs : List Int) (m : Int) (w : World) (h : Row w A n c xs) (hn : n ≤ 1000) (he : errOf xs = 0) (hm : m < 0 ∨ 60 < m) :
    Calls Try.prog 39 #[.slice A n c, .int .i64 m] w fun e w' => e = .returned (.tuple #[.int .i64 0, .int .i64 1]) ∧ Below w.heap.size w w' := by
  have HR := hide h
  clear h
  rcases hm with hm | hm
  · go_enter Try.func39, Try.ntmps39
    go_wp2_with fail
    refine (Validate_any _ _ _ xs _ HR.out (by omega)).mono ?_
    rintro e w' ⟨rfl, rfl⟩
    go_wp2
    go_ret2
    exact ⟨rfl, Below.refl _ _⟩
  · go_enter Try.func39, Try.ntmps39
    go_wp2_with fail
    refine (Validate_any _ _ _ xs _ HR.out (by omega)).mono ?_
    rintro e w' ⟨rfl, rfl⟩
    have hm0 : 0 ≤ m := by omega
    go_wp2
    go_ret2
    exact ⟨rfl, Below.refl _ _⟩
set_option maxHeartbeats 400000 in
theorem Pieces_in (A : Option Addr) (n c : Nat) (xs : List Int) (m : Nat) (w : World) (h : Row w A n c xs) (hn : n ≤ 1000) (he : errOf xs = 0) (hm : m ≤ 60) :
    Calls Try.prog 39 #[.slice A n c, .int .i64 m] w fun e w' => e = .returned (.tuple #[.int .i64 (pcN xs m), .int .i64 0]) ∧ Below w.heap.size w w' := by
  have HR := hide h
  have k1 := (errOf_zero he).1
  have l1 := h.length
  have j1 : 1 ≤ n := by omega
  clear h k1 l1
  go_enter Try.func39, Try.ntmps39
  go_wp2_with fail
  refine (Validate_any _ _ _ xs _ HR.out (by omega)).mono ?_
  rintro e w' ⟨rfl, rfl⟩
  go_wp2_with fail
  refine (piecesOf_any _ _ _ xs m _ HR.out (by omega) (by omega) (by omega)).mono ?_
  rintro e w2 ⟨r2, rfl, hr2, hs2, hb2⟩
  have hrun := run_setLen hs2 58 65 4 3 (by kernel_rfl)
  go_wp2
  go_ret2
  exact ⟨ret2_ii rfl rfl, hb2⟩

set_option maxHeartbeats 400000 in
theorem rPieces_bad (A : Option Addr) (n c : Nat) (xs : List Int) (m : Int) (w : World) (h : Row w A n c xs) (hn : n ≤ 1000) (he : errOf xs ≠ 0) :
    Calls Try.prog 40 #[.slice A n c, .int .i64 m] w fun e w' => e = .returned (.tuple #[.int .i64 0, .int .i64 (errOf xs)]) ∧ w = w' := by
  have HR := hide h
  have he' : (errOf xs != 0) = true := by simp [he]
  clear h he
  go_enter Try.func40, Try.ntmps40
  go_wp2_with fail
  refine (rValidate_any _ _ _ xs _ HR.out (by omega)).mono ?_
  rintro e w' ⟨rfl, rfl⟩
  go_wp2
  go_ret2
  exact ⟨rfl, rfl⟩
set_option maxHeartbeats 400000 in
theorem rPieces_out (A : Option Addr) (n c : Nat) (xs : List Int) (m : Int) (w : World) (h : Row w A n c xs) (hn : n ≤ 1000) (he : errOf xs = 0) (hm : m < 0 ∨ 60 < m) :
    Calls Try.prog 40 #[.slice A n c, .int .i64 m] w fun e w' => e = .returned (.tuple #[.int .i64 0, .int .i64 1]) ∧ w = w' := by
  have HR := hide h
  have hw : withinB m 0 60 = false := by unfold withinB; simp; omega
  clear h hm
  go_enter Try.func40, Try.ntmps40
  go_wp2_with fail
  refine (rValidate_any _ _ _ xs _ HR.out (by omega)).mono ?_
  rintro e w' ⟨rfl, rfl⟩
  go_wp2_with fail
  refine (within_any _ _ _ _).mono ?_
  rintro e w' ⟨rfl, rfl⟩
  go_wp2
  go_ret2
  exact ⟨rfl, rfl⟩
set_option maxHeartbeats 1000000 in
theorem rPieces_in (A : Option Addr) (n c : Nat) (xs : List Int) (m : Nat) (w : World) (h : Row w A n c xs) (hn : n ≤ 1000) (he : errOf xs = 0) (hm : m ≤ 60) :
    Calls Try.prog 40 #[.slice A n c, .int .i64 m] w fun e w' => e = .returned (.tuple #[.int .i64 (pcN xs m), .int .i64 0]) ∧ w = w' := by
  have HR := hide h
  have k1 := (errOf_zero he).1
  have l1 := h.length
  have j1 : 1 ≤ n := by omega
  have HP := hide (pcs_all k1 m)
  have HL := hide l1
  have hw : withinB (m : Int) 0 60 = true := by unfold withinB; simp; omega
  clear h k1 l1
  go_enter Try.func40, Try.ntmps40
  go_wp2_with fail
  refine (rValidate_any _ _ _ xs _ HR.out (by omega)).mono ?_
  rintro e w' ⟨rfl, rfl⟩
  go_wp2_with fail
  refine (within_any _ _ _ _).mono ?_
  rintro e w' ⟨rfl, rfl⟩
  go_wp2
  go_loop [7, 8] (fun s i => ∃ a b : Nat, a ≤ n ∧ b ≤ a ∧ i = .int .i64 a ∧ s = .int .i64 b ∧ (pcs xs m a).length = b) (fun _ i => n - (intOf i).toNat)
  case atStart => exact ⟨0, 0, by omega, by omega, rfl, rfl, rfl⟩
  case round =>
    obtain ⟨a, b, ha, hb, rfl, rfl, hB⟩ := hrel
    have HB := hide hB
    clear hB
    by_cases hlt : a < n
    · go_wp2
      go_loop [9, 10] (fun s i => ∃ k : Nat, k ≤ a ∧ i = .int .i64 k ∧ s = .bool (frB xs m a k)) (fun _ i => a - (intOf i).toNat)
      case atStart => exact ⟨0, by omega, rfl, by rw [frB_zero]⟩
      case round =>
        obtain ⟨k, hk, rfl, rfl⟩ := hrel
        by_cases hlt' : k < a
        · cases hf : frB xs m a k with
          | true =>
            have HF := hide hf
            clear hf
            go_wp2_with fail
            refine (shared_any _ _ _ xs _ _ _ xs a k m _ HR.out HR.out (by omega) (by omega) (by omega) (by omega) (by omega) (by omega) (by omega)).mono ?_
            rintro e w' ⟨⟨r, hr, rfl⟩, rfl⟩
            have HS := hide (frB_step HF.out hr)
            clear hr
            go_wp2
            go_round
            case rel => exact ⟨k + 1, by omega, by go_num, by rw [HS.out]⟩
            case measure => simp [intOf]; omega
          | false =>
            have HF := hide (frB_false hf)
            clear hf
            go_wp2
            go_round
            case rel => exact ⟨k + 1, by omega, by go_num, by rw [HF.out]⟩
            case measure => simp [intOf]; omega
        · obtain rfl : k = a := by omega
          have HC := hide (pcs_len_succ xs m k)
          cases hf : frB xs m k k with
          | true =>
            have HF := hide hf
            clear hf
            go_wp2
            go_round
            case rel => exact ⟨k + 1, b + 1, by omega, by omega, by go_num, by go_num, by rw [HC.out, HB.out, HF.out]; rfl⟩
            case measure => simp [intOf]; omega
          | false =>
            have HF := hide hf
            clear hf
            go_wp2
            go_round
            case rel => exact ⟨k + 1, b, by omega, by omega, by go_num, rfl, by rw [HC.out, HB.out, HF.out]; rfl⟩
            case measure => simp [intOf]; omega
    · obtain rfl : a = n := by omega
      go_wp2
      go_ret2
      exact ⟨ret2_ii (by rw [← HP.out, HL.out, HB.out]) rfl, rfl⟩

end Go.Proofs.Ytbehnhhgoeiofaa
