/- The misfit of the best row against a falling row of whole numbers; no program. -/
import Derived.Test.YtlmmkaadoicogaaMathN
namespace Go.Proofs.Ytlmmkaadoicogaa

def yI (ys : List Int) (i : Nat) : Int := ys.getD i 0
/-- The misfit of a row of whole numbers, over the first hours. -/
def sN (xs : Rd) (ys : List Int) (k : Nat) : Int := isum (fun i => wI xs i * (vI xs i - yI ys i) * (vI xs i - yI ys i)) k
theorem sN_succ (xs : Rd) (ys : List Int) (k : Nat) : sN xs ys (k + 1) = sN xs ys k + wI xs k * (vI xs k - yI ys k) * (vI xs k - yI ys k) := rfl
theorem nearest_le {xs : Rd} (o : okH xs = true) {ys : List Int} (hf : ∀ i, i + 1 < xs.length → yI ys (i + 1) ≤ yI ys i) : Mf xs xs.length ≤ ((sN xs ys xs.length : Int) : Rat) := by
  have h := (best_kkt o).nearest (x := fun i => ((yI ys i : Int) : Rat)) (wq_pos o) (fun i hi => Rat.intCast_le_intCast.2 (hf i hi))
  have e : ((sN xs ys xs.length : Int) : Rat) = misf xs.length (vq xs) (wq xs) (fun i => ((yI ys i : Int) : Rat)) := by
    unfold sN misf
    rw [isum_cast]
    refine psum_congr0 fun i _ => ?_
    rw [Rat.intCast_mul, Rat.intCast_mul, Rat.intCast_sub]
    unfold wq vq
    grind
  rw [e]
  exact h
theorem whole_le {q : Rat} {s : Int} (h0 : 0 ≤ nu q) (h : q ≤ (s : Rat)) : Int.tdiv (nu q) (de q) < s ∨ Int.tdiv (nu q) (de q) = s ∧ Int.tmod (nu q) (de q) = 0 := by
  have hd := de_pos q
  have h1 : nu q ≤ s * de q := by
    rw [← rt_one, ← rt_self q, rt_le (den_pos q) (by omega)] at h
    unfold nu de
    omega
  rw [Int.tdiv_eq_ediv_of_nonneg h0, Int.tmod_eq_emod_of_nonneg h0]
  have e := Int.mul_ediv_add_emod (nu q) (de q)
  have r0 := Int.emod_nonneg (nu q) (show de q ≠ 0 by omega)
  have le : nu q / de q ≤ s := Int.ediv_le_of_le_mul (by omega) h1
  by_cases hs : nu q / de q = s
  · right
    refine ⟨hs, ?_⟩
    rw [hs, Int.mul_comm] at e
    omega
  · left
    omega
end Go.Proofs.Ytlmmkaadoicogaa
