/- Walks of the means of hours, on both sides. -/
import Derived.Test.YtlmmkaadoicogaaWalkB
namespace Go.Proofs.Ytlmmkaadoicogaa
open Go.RowKit

theorem OkH_bd {xs : Rd} (o : okH xs = true) (hl : xs.length ≤ 12) {k : Nat} (hk : k ≤ xs.length) : 0 ≤ nS xs k ∧ nS xs k ≤ 10800 ∧ 0 ≤ dS xs k ∧ dS xs k ≤ 108 := by
  have h1 := nS_bd o (a := 0) (b := k) (by omega) hk
  have h2 := dS_bd o (a := 0) (b := k) (by omega) hk
  simp only [nS, dS, isum] at h1 h2 ⊢
  omega
theorem nS_succ (xs : Rd) (k : Nat) : nS xs (k + 1) = nS xs k + wI xs k * vI xs k := rfl
theorem dS_succ (xs : Rd) (k : Nat) : dS xs (k + 1) = dS xs k + wI xs k := rfl
set_option maxHeartbeats 1000000 in
theorem mean_any (A : Option Addr) (n c : Nat) (xs : Rd) (w : World) (h : Row w A n c xs) (o : okH xs = true) (hn2 : n ≤ 12) :
    Calls Try.prog 61 #[.slice A n c] w fun e w' => e = .returned (.agg #[.int .i64 (nS xs n), .int .i64 (dS xs n)]) ∧ Below w.heap.size w w' := by
  obtain ⟨b, off, h1, hcap, hmax, h2, h3, h4⟩ := h
  have H1 := hide h1
  have H2 := hide h2
  have H3 := hide h3
  have H4 := hide h4
  have O := hide o
  clear h1 h2 h3 h4 o
  go_enter Try.func61, Try.ntmps61
  go_wp2
  go_loopw [8] (fun i wr => ∃ k : Nat, k ≤ n ∧ i = .int .i64 k ∧ Bk wr (w.heap.size + 1) 70 #[.int .i64 (nS xs k), .int .i64 (dS xs k)] ∧ Bk wr w.heap.size 70 #[.int .i64 0, .int .i64 0] ∧ Below w.heap.size w wr) (fun i _ => n - (intOf i).toNat)
  case atStart => exact ⟨0, Nat.zero_le _, rfl, (by have := Bk.born (w.alloc (.cells #[.int .i64 0, .int .i64 0] 70)) 70 #[.int .i64 0, .int .i64 0]; simpa [nS, dS, isum] using this), (Bk.born _ _ _).more _, (by (repeat' (first | exact Below.refl _ _ | exact Nat.le_refl _ | refine Below.drew ?_ | refine below_drewN ?_ _ | refine Below.alloc ?_ ?_ _ | refine Below.setCell ?_ ?_ _)); all_goals (first | (simp; done) | (simp; omega)))⟩
  case round =>
    obtain ⟨k, hk, rfl, hacc, hres, hbel⟩ := hrel
    by_cases hlt : k < n
    · have hA := H2.out (by omega)
      subst hA
      obtain ⟨hc1, hc2⟩ := H4.out k hlt
      rw [← hbel.cell (p := ⟨b, off + k * 2, none⟩) (H3.out (by omega))] at hc1
      rw [← hbel.cell (p := ⟨b, off + k * 2 + 1, none⟩) (H3.out (by omega))] at hc2
      have hb1 : 0 ≤ vI xs k ∧ vI xs k ≤ 100 ∧ 1 ≤ wI xs k ∧ wI xs k ≤ 9 := okH_get O.out (by rw [H1.out]; exact hlt)
      have hb2 := OkH_bd O.out (by rw [H1.out]; exact hn2) (k := k) (by rw [H1.out]; exact hk)
      have hb3 := OkH_bd O.out (by rw [H1.out]; exact hn2) (k := k + 1) (by rw [H1.out]; exact hlt)
      rw [nS_succ, dS_succ] at hb3
      rw [show (xs.getD k (0, 0)).1 = vI xs k from rfl] at hc1
      rw [show (xs.getD k (0, 0)).2 = wI xs k from rfl] at hc2
      have HS1 := hide (nS_succ xs k)
      have HS2 := hide (dS_succ xs k)
      generalize vI xs k = v at *
      generalize wI xs k = u at *
      have hm : 0 ≤ u * v ∧ u * v ≤ 900 := by
        have : u * v ≤ 9 * 100 := Int.mul_le_mul (by omega) (by omega) (by omega) (by omega)
        exact ⟨Int.mul_nonneg (by omega) (by omega), by omega⟩
      obtain ⟨k0, k1, f0, f1, hsz⟩ := hacc.two
      have HACC := hide hacc
      have HRES := hide hres
      clear hacc hres
      go_wp2_with fail
      refine (join_any _ _ _ _ _ (by omega) (by omega) (by omega) (by omega) (by omega) (by omega) (by omega) (by omega)).mono ?_
      rintro e w1 ⟨rfl, hb⟩
      have hz := hb.size
      simp at hz
      clear k0 k1 f0 f1
      have hacc1 := (HACC.out.more (.cells #[.int .i64 v, .int .i64 u] 51)).keep hb (by simp; omega)
      have hres1 := (HRES.out.more (.cells #[.int .i64 v, .int .i64 u] 51)).keep hb (by simp; omega)
      have hbel1 : Below w.heap.size w w1 := (hbel.alloc hbel.size _).trans (hb.mono (by simp; omega))
      obtain ⟨k0, k1, f0, f1, hsz1⟩ := hacc1.two
      have HACC1 := hide hacc1
      have HRES1 := hide hres1
      clear hacc1 hres1
      go_wp2
      go_roundw
      case rel =>
        refine ⟨k + 1, by omega, by go_num, ?_, ?_, ?_⟩
        · rw [HS1.out, HS2.out]; exact HACC1.out.set2
        · exact (HRES1.out.apart (by simp) _).apart (by simp) _
        · exact (hbel1.setCell (by simp) _).setCell (by simp) _
      case measure => simp [intOf]; omega
    · obtain rfl : n = k := by omega
      obtain ⟨k0, k1, f0, f1, hsz⟩ := hacc.two
      obtain ⟨r0, r1, s0, s1, rsz⟩ := hres.two
      have hne : ((w.heap.size : Nat) == w.heap.size + 1) = false := by simp
      go_wp2
      obtain ⟨q1, q2, q3⟩ := hres.res2 (.int .i64 (nS xs n)) (.int .i64 (dS xs n))
      refine bodyPost_ret (v := .agg #[.int .i64 (nS xs n), .int .i64 (dS xs n)]) (by simp [results, Try.results61, go_sem, q2, q3]) rfl ⟨rfl, ?_⟩
      exact (hbel.setCell (by simp) _).setCell (by simp) _

end Go.Proofs.Ytlmmkaadoicogaa
