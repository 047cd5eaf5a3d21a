/- TopEchoes: the walk. -/
import Derived.Test.YtllfkhcpdgdmnaaTpx
namespace Go.Proofs.Ytllfkhcpdgdmnaa
open Go.RowKit

theorem TopEchoes_walk (A : Option Addr) (n c : Nat) (xs : List Int) (A' : Option Addr) (n' c' : Nat) (ys : List Int) (p : Int) (w : World) (h : R E1 w A n c xs) (h' : R E1 w A' n' c' ys) (_ : (Lit.int .i64 p).wf = true) :
    Calls Try.prog 17 #[.slice A n c, .slice A' n' c', .int .i64 p] w fun e w' => e = .returned (.bool true) ∧ Below w.heap.size w w' := by
  by_cases hn : 100 < n ∨ 100 < n'
  · exact TopEchoes_long A n c xs A' n' c' ys p w h h' hn
  · by_cases hc : errC xs = 0
    · exact TopEchoes_ok A n c xs A' n' c' ys p w h h' hn hc
    · exact TopEchoes_no A n c xs A' n' c' ys p w h h' hn hc
end Go.Proofs.Ytllfkhcpdgdmnaa
