/- Walks of the program's plans: way, stock, pumped, cost. -/
import Derived.Test.YtjhnfcmijijdcaaWalkC
import Derived.Test.YtjhnfcmijijdcaaMathC
namespace Go.Proofs.Ytjhnfcmijijdcaa
open Go.RowKit

theorem tk_c (K h : Int) (cs ds : List Int) (i : Nat) : (tk K h cs ds).c i = cs.getD i 0 := rfl
theorem tk_d (K h : Int) (cs ds : List Int) (i : Nat) : (tk K h cs ds).d i = ds.getD i 0 := rfl
/-- A plan as a function of the hour. -/
def pl (ps : List Int) (i : Nat) : Int := ps.getD i 0

set_option maxHeartbeats 1000000 in
theorem way_any (K h : Int) (A : Option Addr) (n c : Nat) (cs : List Int) (A' : Option Addr) (n' c' : Nat) (ds : List Int) (s u : Nat) (w : World) (hT : Tin w A n c cs A' n' c' ds)
    (ok : (tk K h cs ds).Ok n) (hs : s ≤ u) (hu : u < n) (hn : n ≤ 12) :
    Calls Try.prog 87 #[.agg #[.int .i64 K, .int .i64 h, .slice A n c, .slice A' n' c'], .int .i64 s, .int .i64 u] w fun e w' =>
      e = .returned (.int .i64 ((tk K h cs ds).way s u)) ∧ Below w.heap.size w w' := by
  have h0 := ok.h0
  have h1 := ok.h1
  have c0 := ok.c0 s (by omega)
  have c1 := ok.c1 s (by omega)
  rw [tk_c] at c0 c1
  replace h0 : 0 ≤ h := h0
  replace h1 : h ≤ 20 := h1
  have B := hide ((Below.refl w.heap.size w).alloc (Nat.le_refl _) (.cells #[.int .i64 K, .int .i64 h, .slice A n c, .slice A' n' c'] 24))
  obtain ⟨b, off, r⟩ := hT.1
  obtain rfl := r.at_ (by omega)
  have cell := (r.alloc (.cells #[.int .i64 K, .int .i64 h, .slice (some ⟨b, off, none⟩) n c, .slice A' n' c'] 24)).cell s (by omega)
  have hv : (tk K h cs ds).way s u = cs.getD s 0 + h * ((u : Int) - (s : Int)) := rfl
  have HV := hide hv
  have hcap := r.cap
  have hmax := r.max
  clear hT r hv ok
  generalize cs.getD s 0 = x at *
  have m0 : 0 ≤ h * ((u : Int) - (s : Int)) := Int.mul_nonneg h0 (by omega)
  have m1 : h * ((u : Int) - (s : Int)) ≤ 20 * 11 := Int.mul_le_mul h1 (by omega) (by omega) (by omega)
  have w1 : IntKind.i64.wrap ((u : Int) - (s : Int)) = (u : Int) - (s : Int) := IntWalk.i64_in _ (by omega)
  have w2 : IntKind.i64.wrap (h * ((u : Int) - (s : Int))) = h * ((u : Int) - (s : Int)) := IntWalk.i64_in _ (by omega)
  have w3 : IntKind.i64.wrap (x + h * ((u : Int) - (s : Int))) = x + h * ((u : Int) - (s : Int)) := IntWalk.i64_in _ (by omega)
  have l2 : (s : Int) < n := by omega
  go_enter Try.func87, Try.ntmps87
  go_wp2_with fail
  go_quiet (fail)
  clear w1 w2 w3
  go_wp2
  go_ret
  exact ⟨ret_i64 HV.out.symm, below_drewN B.out _⟩

end Go.Proofs.Ytjhnfcmijijdcaa
