/- Walks: comparing lists; lists that a call makes: Clone, root, turn, piece, name. -/
import Derived.Test.YtbadihbcjdibeaaOwn
import Derived.Deep.QuietTactic
import Derived.BigQuiet
namespace Go.Proofs.Ytbadihbcjdibeaa
open Go.RowKit

/-- Only draws. -/
def Drew (w w' : World) : Prop := ∃ m, w' = w.drewN m
theorem Drew.refl (w : World) : Drew w w := ⟨0, rfl⟩
theorem Drew.more {w w' : World} (h : Drew w w') (n : Nat) : Drew w (w'.drewN n) := by
  obtain ⟨m, rfl⟩ := h
  exact ⟨m + n, by rw [World.drewN_drewN]⟩
theorem below_drewN' {B : Nat} {a w : World} (h : Below B a w) (n : Nat) : Below B a (w.drewN n) := ⟨h.os, h.tape, h.output, h.size, h.block⟩
theorem Drew.below {w w' : World} (h : Drew w w') (B : Nat) : Below B w w' := by
  obtain ⟨m, rfl⟩ := h
  exact below_drewN' (Below.refl B w) m
theorem Drew.row {w w' : World} {A : Option Addr} {n c : Nat} {xs : List Int} (h : Row w A n c xs) (hd : Drew w w') : Row w' A n c xs := by
  obtain ⟨m, rfl⟩ := hd
  exact h.drewN m
theorem Drew.cell {w w' : World} (h : Drew w w') (a : Addr) : w'.cell? a = w.cell? a := by
  obtain ⟨m, rfl⟩ := h
  rfl

set_option maxHeartbeats 400000 in
theorem Equal_any (A : Option Addr) (n c : Nat) (xs : List Int) (A' : Option Addr) (n' c' : Nat) (ys : List Int) (w : World) (h : Row w A n c xs) (h' : Row w A' n' c' ys) :
    Calls Try.prog 61 #[.slice A n c, .slice A' n' c'] w fun e w' => e = .returned (.bool (eqL xs ys)) ∧ Drew w w' := by
  obtain ⟨b, off, h1, hcap, hmax, h2, h3, h4⟩ := h
  obtain ⟨b', off', h1', hcap', hmax', h2', h3', h4'⟩ := h'
  have H1 := hide h1
  have H2 := hide h2
  have H4 := hide h4
  have H1' := hide h1'
  have H2' := hide h2'
  have H4' := hide h4'
  clear h1 h2 h3 h4 h1' h2' h3' h4'
  by_cases hl : n = n'
  · subst hl
    go_enter Try.func61, Try.ntmps61
    go_wp2
    go_loopw [13] (fun i wr => ∃ k : Nat, k ≤ n ∧ i = .int .i64 k ∧ EqTo xs ys k ∧ Drew w wr) (fun i _ => n - (intOf i).toNat)
    case atStart => exact ⟨0, Nat.zero_le _, rfl, eqTo_zero _ _, Drew.refl _⟩
    case round =>
      obtain ⟨k, hk, rfl, hrep, hd⟩ := hrel
      by_cases hlt : k < n
      · have hcell := (hd.cell _).trans (H4.out k hlt)
        have hcell' := (hd.cell _).trans (H4'.out k hlt)
        have hA := H2.out (by omega)
        have hA' := H2'.out (by omega)
        generalize hx : xs.getD k 0 = x at hcell
        generalize hy : ys.getD k 0 = y at hcell'
        have HX := hide hx
        have HY := hide hy
        clear hx hy
        subst hA hA'
        have hi : (k : Int) < (n : Int) := by omega
        cases hxy : (x != y) with
        | false =>
          go_wp2
          go_quiet (fail)
          go_wp2
          go_roundw
          case rel => exact ⟨k + 1, by omega, by go_num, eqTo_succ hrep (by rw [HX.out, HY.out]; simpa using hxy), hd.more _⟩
          case measure => simp [intOf]; omega
        | true =>
          go_wp2
          go_quiet (fail)
          go_wp2
          go_ret
          exact ⟨ret_bool (eqL_ne (k := k) (by rw [HX.out, HY.out]; simpa using hxy)).symm, hd.more _⟩
      · go_wp2
        go_ret
        exact ⟨ret_bool (eqL_true (by rw [H1.out, H1'.out]) (by rw [H1.out, show n = k from by omega]; exact hrep)).symm, hd⟩
  · go_enter Try.func61, Try.ntmps61
    go_wp2
    go_ret
    exact ⟨ret_bool (eqL_len (by rw [H1.out, H1'.out]; exact hl)).symm, Drew.refl _⟩

end Go.Proofs.Ytbadihbcjdibeaa
