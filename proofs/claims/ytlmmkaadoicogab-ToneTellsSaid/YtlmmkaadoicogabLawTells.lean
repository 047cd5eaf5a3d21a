/- The walk of ToneTells. -/
import Derived.Test.YtlmmkaadoicogabLiftG
namespace Go.Proofs.Ytlmmkaadoicogab
open Go.RowKit

set_option maxHeartbeats 1000000 in
theorem ToneTells_walk (A : Option Addr) (n c : Nat) (ls : List (List Int)) (A' : Option Addr) (m c' : Nat) (ys : List Int) (w : World) (h : Grid w A n c ls) (h' : Row w A' m c' ys) :
    Calls Try.prog 3 #[.slice A n c, .slice A' m c'] w fun e w' => e = .returned (.bool true) ∧ Below w.heap.size w w' := by
  have HG := hide h
  have HR := hide h'
  clear h h'
  go_enter Try.func3, Try.ntmps3
  go_wp2_with fail
  refine (Many_any _ _ _ ls _ HG.out).mono ?_
  rintro e w' ⟨rfl, ⟨rfl, s1, s2⟩ | rfl⟩
  · have HS := hide s2
    clear s1 s2
    by_cases hm : 200 < m
    · go_wp2_with (first | (go_at_call 8; refine (Long_yes _ _ _ _ hm).mono ?_; rintro e w' ⟨rfl, rfl⟩) | (go_at_call 9; refine (known_any _).mono ?_; rintro e w9 ⟨rfl, hb9⟩))
      go_ret
      exact ⟨rfl, hb9⟩
    · have hm1 : m ≤ 200 := by omega
      clear hm
      go_wp2_with fail
      refine (Long_no _ _ _ _ hm1).mono ?_
      rintro e w' ⟨rfl, rfl⟩
      go_wp2_with fail
      refine (Tell_any _ _ _ ls _ _ _ ys _ HG.out HR.out HS.out (by omega)).mono ?_
      rintro e w1 ⟨A1, n1, c1, rfl, o1, b1⟩
      have z1 := b1.size
      go_wp2_with fail
      refine (rTell_any _ _ _ ls _ _ _ ys _ (HG.out.below b1 (Nat.le_refl _)) (HR.out.below b1 (Nat.le_refl _)) HS.out (by omega)).mono ?_
      rintro e w2 ⟨A2, n2, c2, rfl, o2, b2⟩
      replace o1 := o1.below b2 (Nat.le_refl _)
      have B2 := b1.trans (b2.mono z1)
      go_wp2_with fail
      refine (SameInts_any _ _ _ _ _ _ _ _ _ o1.row o2.row).mono ?_
      rintro e w3 ⟨rfl, d3⟩
      rw [eqL_self]
      have B3 := B2.trans (d3.below _)
      have z3 := B3.size
      generalize tellE ls ys = te at *
      go_wp2_with (first | (go_at_call 9; refine (known_any _).mono ?_; rintro e w9 ⟨rfl, hb9⟩))
      go_ret
      exact ⟨rfl, B3.trans (hb9.mono z3)⟩
  · go_wp2_with (first | (go_at_call 9; refine (known_any _).mono ?_; rintro e w9 ⟨rfl, hb9⟩))
    go_ret
    exact ⟨rfl, hb9⟩

end Go.Proofs.Ytlmmkaadoicogab
