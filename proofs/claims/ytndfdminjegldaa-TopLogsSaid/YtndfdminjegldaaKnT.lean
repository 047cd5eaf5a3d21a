/- The chapter's examples. -/
import Derived.Test.YtndfdminjegldaaBth
import Derived.Test.YtndfdminjegldaaWalkH
import Derived.Test.YtndfdminjegldaaLift
namespace Go.Proofs.Ytndfdminjegldaa
open Go.RowKit Go.Shelf
attribute [local go_sem] Oper.semAt_some

/-- A new row, and another one behind it. -/
theorem lit_two (w : World) (l m : List Int) (h : l.length ≤ maxLen) (h' : m.length ≤ maxLen) :
    R E1 ((w.alloc (.cells (E1.cells l).toArray 3)).alloc (.cells (E1.cells m).toArray 3)) (some ⟨w.heap.size, 0, none⟩) l.length l.length l ∧
    R E1 ((w.alloc (.cells (E1.cells l).toArray 3)).alloc (.cells (E1.cells m).toArray 3)) (some ⟨w.heap.size + 1, 0, none⟩) m.length m.length m := by
  constructor
  · exact (lit_row w l h).below ((Below.refl _ _).alloc (Nat.le_refl _) _) (Nat.le_refl _)
  · have := lit_row (w.alloc (.cells (E1.cells l).toArray 3)) m h'
    rwa [show (w.alloc (.cells (E1.cells l).toArray 3)).heap.size = w.heap.size + 1 from by simp] at this
set_option maxRecDepth 100000 in
set_option maxHeartbeats 1000000 in
theorem large_any (A : Option Addr) (n c : Nat) (w : World) (hn : n ≤ 9223372036854775807) : Calls Try.prog 32 #[.slice A n c] w fun e w' => e = .returned (.bool (decide (100 < n))) ∧ w = w' := by
  by_cases h : 100 < n
  · have hd : decide (100 < n) = true := by simpa using h
    have h2 : (100 : Int) < n := by omega
    rw [hd]
    go_enter Try.func32, Try.ntmps32
    go_wp2_with fail
    go_ret
    exact ⟨ret_bool (by first | (simp; done) | (simp; omega)), rfl⟩
  · have hd : decide (100 < n) = false := by simpa using h
    have h2 : (n : Int) ≤ 100 := by omega
    rw [hd]
    go_enter Try.func32, Try.ntmps32
    go_wp2_with fail
    go_ret
    exact ⟨ret_bool (by first | (simp; done) | (simp; omega)), rfl⟩
abbrev tV (A : Option Addr) (n c : Nat) (A' : Option Addr) (n' c' : Nat) (o i h : Int) : Value := .agg #[.slice A n c, .slice A' n' c', .int .i64 o, .int .i64 i, .int .i64 h]
set_option maxRecDepth 100000 in
set_option maxHeartbeats 1000000 in
theorem Long_any (A : Option Addr) (n c : Nat) (A' : Option Addr) (n' c' : Nat) (o i h : Int) (w : World) (hn : n ≤ 9223372036854775807) (hn' : n' ≤ 9223372036854775807) :
    Calls Try.prog 18 #[tV A n c A' n' c' o i h] w fun e w' => e = .returned (.bool (decide (100 < n) || decide (100 < n'))) ∧ Below w.heap.size w w' := by
  have BX := hide ((Below.refl w.heap.size w).alloc (Nat.le_refl _) (.cells #[.slice A n c, .slice A' n' c', .int .i64 o, .int .i64 i, .int .i64 h] 26))
  cases h1 : decide (100 < n) <;> cases h2 : decide (100 < n')
  all_goals
    have H1 := hide h1
    have H2 := hide h2
    clear h1 h2
    go_enter Try.func18, Try.ntmps18
    go_wp2_with (first
      | (go_at_call_of 32 (Value.slice A n c); refine (large_any A n c _ hn).mono ?_; rw [H1.out]; rintro e w1 ⟨rfl, rfl⟩)
      | (go_at_call_of 32 (Value.slice A' n' c'); refine (large_any A' n' c' _ hn').mono ?_; rw [H2.out]; rintro e w1 ⟨rfl, rfl⟩))
    go_ret
    exact ⟨ret_bool (by simp), BX.out⟩
theorem two_cells {w0 w' : World} {g : Nat} {T : TypeId} {a b c d e : Value} (h : Bk w0 g T #[a, b, c, d, e]) (hb : Below w0.heap.size w0 w') (hg : g < w0.heap.size) :
    w'.cell? ⟨g, 0, none⟩ = some a ∧ w'.cell? ⟨g, 1, none⟩ = some b ∧ w'.cell? ⟨g, 2, none⟩ = some c ∧ w'.cell? ⟨g, 3, none⟩ = some d ∧ w'.cell? ⟨g, 4, none⟩ = some e :=
  ⟨(h.keep hb hg).at_ 0, (h.keep hb hg).at_ 1, (h.keep hb hg).at_ 2, (h.keep hb hg).at_ 3, (h.keep hb hg).at_ 4⟩
end Go.Proofs.Ytndfdminjegldaa
