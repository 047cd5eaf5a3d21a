/- Which shifts run at a moment, on both sides. -/
import Derived.Test.YtpkjgnllkaafkaaWalkD
namespace Go.Proofs.Ytpkjgnllkaafkaa
open Go.RowKit

/-- Of the first k, the numbers of those that run. -/
def runTo (l : Ls) (m : Int) (k : Nat) : List Int := ((List.range k).filter fun i => runB (l.getD i sh0) m).map fun k : Nat => (k : Int)
theorem runTo_zero (l : Ls) (m : Int) : runTo l m 0 = [] := rfl
theorem runTo_yes {l : Ls} {m : Int} {k : Nat} {x : Sh} (hx : l.getD k sh0 = x) (h : runB x m = true) : runTo l m (k + 1) = runTo l m k ++ [(k : Int)] := by
  subst hx
  have e : [k].filter (fun i => runB (l.getD i sh0) m) = [k] := List.filter_cons_of_pos (p := fun i => runB (l.getD i sh0) m) h
  simp only [runTo, List.range_succ, List.filter_append, List.map_append, e]
  rfl
theorem runTo_no {l : Ls} {m : Int} {k : Nat} {x : Sh} (hx : l.getD k sh0 = x) (h : runB x m = false) : runTo l m (k + 1) = runTo l m k := by
  subst hx
  have e : [k].filter (fun i => runB (l.getD i sh0) m) = [] := List.filter_cons_of_neg (p := fun i => runB (l.getD i sh0) m) (by rw [h]; simp)
  simp only [runTo, List.range_succ, List.filter_append, List.map_append, e]
  simp
theorem runTo_all {l : Ls} {m : Int} {n : Nat} (h : l.length = n) : runTo l m n = runIx l m := by subst h; rfl
/-- A row of integers of its own, new. -/
def IntsPost (v : List Int) (w : World) (e : Ending) (w' : World) : Prop :=
  ∃ (A : Option Addr) (n c : Nat), e = .returned (.slice A n c) ∧ Own E1 w' w.heap.size 3 A n c v ∧ Below w.heap.size w w'

set_option maxHeartbeats 1000000 in
theorem running_any (A : Option Addr) (n c : Nat) (xs : Ls) (m : Int) (w : World) (h : R E3 w A n c xs) (hn : n ≤ 1000) :
    Calls Try.prog 63 #[.slice A n c, .int .i64 m] w (IntsPost (runIx xs m) w) := by
  obtain ⟨b, off, hr⟩ := h
  have HR := hide hr
  have HL := hide hr.len
  have hcap := hr.cap
  have hmax := hr.max
  clear hr
  go_enter Try.func63, Try.ntmps63
  go_wp2_with fail
  go_loopw [5, 10] (fun v i wr => ∃ (k : Nat) (B : Option Addr) (p q : Nat), k ≤ n ∧ i = .int .i64 k ∧ v = .slice B p q ∧ Hid (Own E1 wr w.heap.size 3 B p q (runTo xs m k)) ∧ Hid (p ≤ k) ∧ Hid (Below w.heap.size w wr)) (fun _ i _ => n - (intOf i).toNat)
  case atStart => exact ⟨0, none, 0, 0, Nat.zero_le _, rfl, rfl, hide (Own.nil E1 _ _ _), hide (Nat.le_refl _), hide (Below.refl _ _)⟩
  case round =>
    obtain ⟨k, B, p, q, hk, rfl, rfl, HO, HPK, HB⟩ := hrel
    by_cases hlt : k < n
    · obtain rfl := HR.out.at_ (by omega)
      have hbl := HR.out.lt (by omega)
      obtain ⟨c1, c2, c3⟩ := c3 (HR.out.under HB.out fun _ => hbl) hlt
      have hblr : b < wr.heap.size := Nat.lt_of_lt_of_le hbl HB.out.size
      have HY := hide (runTo_yes (l := xs) (m := m) (k := k) (x := xs.getD k sh0) rfl)
      have HN := hide (runTo_no (l := xs) (m := m) (k := k) (x := xs.getD k sh0) rfl)
      generalize xs.getD k sh0 = x at *
      obtain ⟨x1, x2, x3⟩ := x
      simp only at c1 c2 c3
      have hpk := HPK.out
      have hsz := HB.out.size
      cases hrun : runB (x1, x2, x3) m with
      | true =>
        have HO1 := hide (HY.out hrun)
        have HRUN := hide hrun
        clear hrun
        go_wp2_with (first | (go_at_call 81; refine (runs_any _ _ _ _ _).mono ?_; rintro e w1 ⟨rfl, b1⟩; rw [HRUN.out]; have HO2 := hide ((HO.out.alloc _).below b1 (Nat.le_refl _)); have HB2 := hide ((HB.out.alloc hsz _).trans (b1.mono (by simp; omega))); have hs2 := HB2.out.size; clear b1) | (at_builtin; refine wpList_app1 (E := E1) _ (.int .i64 0) 8 rfl (.tmp 18) (.tmp 20) 30 3 rfl Try.underlying30 info_int rfl (by decide) (by omega) _ _ _ _ _ ((k : Int)) _ rfl rfl rfl HO2.out (by omega) hs2 ?_; intro A2 c2 w5 o5 b5 g5))
        go_roundw
        case rel => exact ⟨k + 1, A2, p + 1, c2, by omega, by go_num, rfl, hide (by rw [HO1.out]; exact o5), hide (by omega), hide (HB2.out.trans b5)⟩
        case measure => simp [intOf]; omega
      | false =>
        have HO1 := hide (HN.out hrun)
        have HRUN := hide hrun
        clear hrun
        go_wp2_with (go_at_call 81; refine (runs_any _ _ _ _ _).mono ?_; rintro e w1 ⟨rfl, b1⟩; rw [HRUN.out])
        go_roundw
        case rel => exact ⟨k + 1, B, p, q, by omega, by go_num, rfl, hide (by rw [HO1.out]; exact (HO.out.alloc _).below b1 (Nat.le_refl _)), hide (by omega), hide ((HB.out.alloc hsz _).trans (b1.mono (by simp; omega)))⟩
        case measure => simp [intOf]; omega
    · obtain rfl : k = n := by omega
      go_wp2_with fail
      go_ret
      exact ⟨B, p, q, rfl, by rw [← runTo_all HL.out]; exact HO.out, HB.out⟩
end Go.Proofs.Ytpkjgnllkaafkaa
