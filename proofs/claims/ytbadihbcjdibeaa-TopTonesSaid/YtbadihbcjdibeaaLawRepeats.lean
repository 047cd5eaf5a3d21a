/- The walk of ToneRepeats. -/
import Derived.Test.YtbadihbcjdibeaaWalkRq
import Derived.Test.YtbadihbcjdibeaaLawPieces
namespace Go.Proofs.Ytbadihbcjdibeaa
open Go.RowKit

set_option maxHeartbeats 1000000 in
theorem ToneRepeats_walk (A : Option Addr) (n c : Nat) (xs : List Int) (t m : Int) (w : World) (h : Row w A n c xs) (_ : (Lit.int .i64 t).wf = true) (_ : (Lit.int .i64 m).wf = true) :
    Calls Try.prog 5 #[.slice A n c, .int .i64 t, .int .i64 m] w fun e w' => e = .returned (.bool true) ∧ Below w.heap.size w w' := by
  have HR := hide h
  have HL := hide h.length
  clear h
  by_cases hn : 200 < n
  · go_enter Try.func5, Try.ntmps5
    go_wp2_with (first | (go_at_call 8; refine (Long_yes _ _ _ _ hn).mono ?_; rintro e w' ⟨rfl, rfl⟩) | (go_at_call 9; refine (known_any _).mono ?_; rintro e w9 ⟨rfl, hb9⟩))
    go_ret
    exact ⟨rfl, hb9⟩
  · have hn1 : n ≤ 200 := by omega
    clear hn
    go_enter Try.func5, Try.ntmps5
    go_wp2_with fail
    refine (Long_no _ _ _ _ hn1).mono ?_
    rintro e w' ⟨rfl, rfl⟩
    go_wp2_with fail
    refine (Repeat_any _ _ _ xs t _ HR.out (by omega)).mono ?_
    rintro e w1 ⟨A1, n1, c1, rfl, o1, b1⟩
    have z1 := b1.size
    go_wp2_with fail
    refine (rRepeat_any _ _ _ xs t _ (HR.out.below b1 (Nat.le_refl _)) (by omega)).mono ?_
    rintro e w2 ⟨A2, n2, c2, rfl, o2, b2⟩
    replace o1 := o1.below b2 (Nat.le_refl _)
    have B2 := b1.trans (b2.mono z1)
    go_wp2_with fail
    refine (SameInts_any _ _ _ _ _ _ _ _ _ o1.row o2.row).mono ?_
    rintro e w3 ⟨rfl, d3⟩
    rw [eqL_self]
    replace o1 := o1.below (d3.below _) (Nat.le_refl _)
    have B3 := B2.trans (d3.below _)
    have z3 := B3.size
    clear o2 b1 b2 B2 d3
    by_cases he : repE xs t = 0
    · obtain ⟨e0, k, rfl, k1, k2, k3⟩ := repE_zero he
      have q1 := (errOf_zero e0).1
      have q2 := (errOf_zero e0).2.2
      have HE := hide he
      have HE0 := hide e0
      rw [repL_ok he] at o1
      have hpos : 1 ≤ xs.length * k := Nat.mul_pos q1 k1
      have hy1 : 1 ≤ (pieceL xs 0 (xs.length * k)).length := by rw [pieceL_length]; exact hpos
      have hse := fun i => sec_times (xs := xs) q1 k1 i
      have HY := hide (err_of hy1 (by rw [pieceL_length]; exact k3) (bits_piece q2 0 (xs.length * k)))
      have HRT := hide (root_times q1 hy1 hse)
      have HPC := hide (fun j => pcN_same q1 hy1 hse j)
      have hl1 := o1.len
      rw [pieceL_length] at hl1
      have hn2 : n1 ≤ 1000 := by omega
      have HER := hide (show err2 (pieceL xs 0 (xs.length * k)) xs = 0 by unfold err2; rw [if_pos HY.out, HE0.out])
      clear he e0 k3 q1 q2 hpos hy1 hse hl1
      generalize pieceL xs 0 (xs.length * k) = ys at *
      rw [HE.out]
      go_wp2_with fail
      refine (Same_any _ _ _ ys _ _ _ xs _ o1.row (HR.out.below B3 (Nat.le_refl _)) hn2 (by omega)).mono ?_
      rintro e w4 ⟨rfl, b4⟩
      rw [HER.out, okb_zero rfl, HRT.out]
      replace o1 := o1.below b4 (Nat.le_refl _)
      have B4 := B3.trans (b4.mono z3)
      have z4 := B4.size
      by_cases ho : m < 0 ∨ 60 < m
      · have HO := hide ho
        clear ho
        go_wp2_with fail
        refine (Pieces_out _ _ _ xs m _ (HR.out.below B4 (Nat.le_refl _)) (by omega) HE0.out HO.out).mono ?_
        rintro e w5 ⟨rfl, b5⟩
        replace o1 := o1.below b5 (Nat.le_refl _)
        have B5 := B4.trans (b5.mono z4)
        have z5 := B5.size
        go_wp2_with fail
        refine (Pieces_out _ _ _ ys m _ o1.row hn2 HY.out HO.out).mono ?_
        rintro e w6 ⟨rfl, b6⟩
        have B6 := B5.trans (b6.mono z5)
        have z6 := B6.size
        go_wp2_with (first | (go_at_call 9; refine (known_any _).mono ?_; rintro e w9 ⟨rfl, hb9⟩))
        go_ret
        exact ⟨rfl, B6.trans (hb9.mono z6)⟩
      · obtain ⟨j, rfl⟩ : ∃ j : Nat, m = (j : Int) := ⟨m.toNat, by omega⟩
        have hj : j ≤ 60 := by omega
        clear ho
        go_wp2_with fail
        refine (Pieces_in _ _ _ xs j _ (HR.out.below B4 (Nat.le_refl _)) (by omega) HE0.out hj).mono ?_
        rintro e w5 ⟨rfl, b5⟩
        replace o1 := o1.below b5 (Nat.le_refl _)
        have B5 := B4.trans (b5.mono z4)
        have z5 := B5.size
        go_wp2_with fail
        refine (Pieces_in _ _ _ ys j _ o1.row hn2 HY.out hj).mono ?_
        rw [HPC.out j]
        rintro e w6 ⟨rfl, b6⟩
        have B6 := B5.trans (b6.mono z5)
        have z6 := B6.size
        generalize pcN xs j = pp
        go_wp2_with (first | (go_at_call 9; refine (known_any _).mono ?_; rintro e w9 ⟨rfl, hb9⟩))
        go_ret
        exact ⟨rfl, B6.trans (hb9.mono z6)⟩
    · have he' : (repE xs t != 0) = true := by simp [he]
      generalize repE xs t = er at *
      go_wp2_with (first | (go_at_call 9; refine (known_any _).mono ?_; rintro e w9 ⟨rfl, hb9⟩))
      go_ret
      exact ⟨rfl, B3.trans (hb9.mono z3)⟩

end Go.Proofs.Ytbadihbcjdibeaa
