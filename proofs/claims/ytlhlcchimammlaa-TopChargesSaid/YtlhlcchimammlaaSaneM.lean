/- The chapter's examples, as numbers. -/
import Derived.Test.YtlhlcchimammlaaWalkM
namespace Go.Proofs.Ytlhlcchimammlaa

theorem gaps35 : gapsV [3, 5] = [1, 2, 4, 7] := by
  have he : errG [3, 5] = 0 := by decide +kernel
  rw [gapsV_ok he, gapV_th]
  have hg : gcdL [3, 5] = 1 := by decide +kernel
  have h8 : ∀ k, thV (fun n => !mu [3, 5] n) (8 + k) = [1, 2, 4, 7] := by
    intro k
    induction k with
    | zero => decide +kernel
    | succ k ih =>
      rw [show 8 + (k + 1) = (8 + k) + 1 by omega, thV_succ, ih, two_above (by omega) (by omega) (by omega) (by omega) hg (by omega)]
      rfl
  exact h8 893
theorem gapE35 : errG [3, 5] = 0 := by decide +kernel
theorem rsdE46 : errW [4, 6] = 0 := by decide +kernel
theorem rsd46 : rsdV [4, 6] = [0, -1, 6, -1] := by
  have hV := errW_vw.1 rsdE46
  rw [rsdV_ok rsdE46]
  have hodd : ∀ n, n % 2 = 1 → mu [4, 6] n = false := fun n hn => (mu_no hV.wt).2 fun c hc => by
    have h1 := gcdL_mk hc
    have h2 : gcdL [4, 6] = 2 := by decide +kernel
    rw [h2] at h1
    omega
  have r0 : resV [4, 6] 870 0 = 0 := by
    have := res_hit (w := [4, 6]) (N := 870) (r := 0) (j := 0) (s := 4) rfl (by omega) (by omega) (by decide +kernel) (fun i hi => by omega)
    simpa using this
  have r1 : resV [4, 6] 870 1 = -1 := res_none (s := 4) rfl fun i _ => hodd _ (by omega)
  have r2 : resV [4, 6] 870 2 = 6 := by
    have := res_hit (w := [4, 6]) (N := 870) (r := 2) (j := 1) (s := 4) rfl (by omega) (by omega) (by decide +kernel) (fun i hi => by
      obtain rfl : i = 0 := by omega
      decide +kernel)
    simpa using this
  have r3 : resV [4, 6] 870 3 = -1 := res_none (s := 4) rfl fun i _ => hodd _ (by omega)
  show rssV [4, 6] 870 4 = _
  rw [rssV_succ, rssV_succ, rssV_succ, rssV_succ, r0, r1, r2, r3]
  rfl
theorem few134 : fewV [1, 3, 4] 6 = 2 := by decide +kernel
theorem can134 : canV [1, 3, 4] 6 = true := by decide +kernel
theorem err134 : errA [1, 3, 4] 6 = 0 := by decide +kernel
end Go.Proofs.Ytlhlcchimammlaa
