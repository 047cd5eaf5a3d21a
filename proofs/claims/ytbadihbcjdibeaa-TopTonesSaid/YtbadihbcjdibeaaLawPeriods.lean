/- The walk of TonePeriods. -/
import Derived.Test.YtbadihbcjdibeaaLift
namespace Go.Proofs.Ytbadihbcjdibeaa
open Go.RowKit

theorem per_dvd {xs : List Int} (h : 1 ≤ xs.length) : (xs.length : Int) % (per xs : Int) = 0 := by
  obtain ⟨s1, s2, s3, s4⟩ := per_spec h
  have e := sec_rep_emod h s2 s1
  have l := Int.emod_lt_of_pos (xs.length : Int) (show (0 : Int) < per xs by omega)
  have g := Int.emod_nonneg (xs.length : Int) (show (per xs : Int) ≠ 0 by omega)
  generalize hr : (xs.length : Int) % (per xs : Int) = r at *
  by_cases h0 : r = 0
  · exact h0
  · exfalso
    have hn := s4 r.toNat (by omega) (by omega)
    have : repB xs (r.toNat : Int) = true := by
      rw [repB_all h]
      intro i
      rw [Int.toNat_of_nonneg g, ← hr, ← e (i + _), Int.add_emod_emod, e]
      exact sec_add_len xs i
    rw [this] at hn
    cases hn

end Go.Proofs.Ytbadihbcjdibeaa
