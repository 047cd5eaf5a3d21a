/- Walks: a copy of a row. -/
import Derived.Test.YtkjnhdkbojcojaaOwn
namespace Go.Proofs.Ytkjnhdkbojcojaa
open Go.RowKit Go.Shelf
attribute [local go_sem] Oper.semAt_some

set_option maxHeartbeats 400000 in
theorem CloneI_any (A : Option Addr) (n c : Nat) (xs : List (Int)) (w : World) (h : R E1 w A n c xs) (hn : n ≤ 1000) :
    Calls Try.prog 97 #[.slice A n c] w (ClonePostI xs n w) := by
  have HR := hide h
  have HL := hide h.length
  have hq := fun W : World => Lib.run_eql_slice_nil (P := Try.prog) W 23 3 A n c 0 0 Try.underlying23
  cases A with
  | none =>
    have hn0 : n = 0 := by
      obtain ⟨b, off, hr⟩ := h
      rcases Nat.eq_zero_or_pos n with e | e
      · exact e
      · have := hr.at_ e; cases this
    subst hn0
    have hx0 := h.zero rfl
    have HX := hide hx0
    clear hx0 h
    go_enter Try.func97, Try.ntmps97
    go_wp2_with fail
    go_ret
    exact ⟨none, 0, rfl, by rw [HX.out]; exact Own.nil _ _ _ _, Below.refl _ _⟩
  | some ad =>
    clear h
    go_enter Try.func97, Try.ntmps97
    go_wp2_with (at_builtin; refine wpList_appN (E := E1) _ (.int .i64 0) 8 rfl (.tmp 5) (.tmp 6) 23 3 rfl Try.underlying23 info_int rfl (by decide) (by omega) w.heap.size 0 0 (some ⟨w.heap.size, 0, none⟩) [] ad n c xs rfl rfl (Own.lit w [] (Nat.le_refl _) (by simp)) (HR.out.below ((Below.refl _ w).alloc (Nat.le_refl _) _) (Nat.le_refl _)) (by omega) (by omega) (by simp) ?_; intro A1 c1 w1 hown hb hg; rw [Nat.zero_add] at hown ⊢)
    go_ret
    exact ⟨A1, c1, rfl, by simpa using hown, ((Below.refl _ _).alloc (Nat.le_refl _) _).trans hb⟩
end Go.Proofs.Ytkjnhdkbojcojaa
