/- Walks: Pieces, both sides. -/
import Derived.Test.YtbadihbcjdibeaaMathP
namespace Go.Proofs.Ytbadihbcjdibeaa
open Go.RowKit

/-- The error of Pieces, and its count. -/
def pcE (xs : List Int) (m : Int) : Int := if errOf xs = 0 then (if 0 ≤ m ∧ m ≤ 60 then 0 else 1) else errOf xs
theorem pcE_ne {xs : List Int} {m : Int} (h : errOf xs ≠ 0) : pcE xs m = errOf xs := by unfold pcE; rw [if_neg h]
theorem pcE_in {xs : List Int} {m : Int} (h : errOf xs = 0) (h1 : 0 ≤ m) (h2 : m ≤ 60) : pcE xs m = 0 := by unfold pcE; rw [if_pos h, if_pos ⟨h1, h2⟩]
theorem pcE_out {xs : List Int} {m : Int} (h : errOf xs = 0) (h1 : m < 0 ∨ 60 < m) : pcE xs m = 1 := by unfold pcE; rw [if_pos h, if_neg (by omega)]

theorem run_setLen {w : World} {r : Nat} {ks : List (List Int)} (h : SetMap w r ks) (t k e ty : TypeId) (ht : Try.prog.underlying t = some (.map k e)) :
    (Builtin.len_ #[t] ty #[.map (some r)]).run Try.prog w = .ok (.int .i64 (ks.length : Int)) w := by
  have hgo : (getObj r).run Try.prog w = .ok (.map (ents ks).toArray ks.length) w := by simp [getObj, Sem.run, h.heap]
  simp [Builtin.len_, run_underlying ht, hgo, goInt, Result.andThen, ents_length]

set_option maxHeartbeats 400000 in
theorem Pieces_bad (A : Option Addr) (n c : Nat) (xs : List Int) (m : Int) (w : World) (h : Row w A n c xs) (hn : n ≤ 1000) (he : errOf xs ≠ 0) :
    Calls Try.prog 19 #[.slice A n c, .int .i64 m] w fun e w' => e = .returned (.tuple #[.int .i64 0, .int .i64 (errOf xs)]) ∧ Below w.heap.size w w' := by
  have HR := hide h
  have he' : (errOf xs != 0) = true := by simp [he]
  clear h he
  go_enter Try.func19, Try.ntmps19
  go_wp2_with fail
  refine (Validate_any _ _ _ xs _ HR.out (by omega)).mono ?_
  rintro e w' ⟨rfl, rfl⟩
  go_wp2
  go_ret2
  exact ⟨rfl, Below.refl _ _⟩
set_option maxHeartbeats 400000 in
theorem Pieces_out (A : Option Addr) (n c : Nat) (xs : List Int) (m : Int) (w : World) (h : Row w A n c xs) (hn : n ≤ 1000) (he : errOf xs = 0) (hm : m < 0 ∨ 60 < m) :
    Calls Try.prog 19 #[.slice A n c, .int .i64 m] w fun e w' => e = .returned (.tuple #[.int .i64 0, .int .i64 1]) ∧ Below w.heap.size w w' := by
  have HR := hide h
  clear h
  rcases hm with hm | hm
  · go_enter Try.func19, Try.ntmps19
    go_wp2_with fail
    refine (Validate_any _ _ _ xs _ HR.out (by omega)).mono ?_
    rintro e w' ⟨rfl, rfl⟩
    go_wp2
    go_ret2
    exact ⟨rfl, Below.refl _ _⟩
  · go_enter Try.func19, Try.ntmps19
    go_wp2_with fail
    refine (Validate_any _ _ _ xs _ HR.out (by omega)).mono ?_
    rintro e w' ⟨rfl, rfl⟩
    have hm0 : 0 ≤ m := by omega
    go_wp2
    go_ret2
    exact ⟨rfl, Below.refl _ _⟩
set_option maxHeartbeats 400000 in
theorem Pieces_in (A : Option Addr) (n c : Nat) (xs : List Int) (m : Nat) (w : World) (h : Row w A n c xs) (hn : n ≤ 1000) (he : errOf xs = 0) (hm : m ≤ 60) :
    Calls Try.prog 19 #[.slice A n c, .int .i64 m] w fun e w' => e = .returned (.tuple #[.int .i64 (pcN xs m), .int .i64 0]) ∧ Below w.heap.size w w' := by
  have HR := hide h
  have k1 := (errOf_zero he).1
  have l1 := h.length
  have j1 : 1 ≤ n := by omega
  clear h k1 l1
  go_enter Try.func19, Try.ntmps19
  go_wp2_with fail
  refine (Validate_any _ _ _ xs _ HR.out (by omega)).mono ?_
  rintro e w' ⟨rfl, rfl⟩
  go_wp2_with fail
  refine (piecesOf_any _ _ _ xs m _ HR.out (by omega) (by omega) (by omega)).mono ?_
  rintro e w2 ⟨r2, rfl, hr2, hs2, hb2⟩
  have hrun := run_setLen hs2 58 64 4 3 (by kernel_rfl)
  go_wp2
  go_ret2
  exact ⟨ret2_ii rfl rfl, hb2⟩

end Go.Proofs.Ytbadihbcjdibeaa
