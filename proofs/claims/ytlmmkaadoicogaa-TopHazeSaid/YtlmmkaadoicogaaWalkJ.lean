/- Walks of copies: slices.Clone, Copy, SameReadings, Begin on both sides. -/
import Derived.Test.YtlmmkaadoicogaaWalkH
namespace Go.Proofs.Ytlmmkaadoicogaa
open Go.RowKit

set_option maxHeartbeats 1000000 in
theorem SameReadings_any (A : Option Addr) (n c : Nat) (xs : Rd) (A2 : Option Addr) (n2 c2 : Nat) (ys : Rd) (w : World) (h : Row w A n c xs) (h2 : Row w A2 n2 c2 ys) :
    Calls Try.prog 41 #[.slice A n c, .slice A2 n2 c2] w fun e w' => e = .returned (.bool (eqL xs ys)) ∧ ∃ m, w' = w.drewN m := by
  have hl1 := h.length
  have hl2 := h2.length
  obtain ⟨b, off, h1, hcap, hmax, ha, hlt, hcell⟩ := h
  obtain ⟨b2, off2, h1', hcap2, hmax2, ha2, hlt2, hcell2⟩ := h2
  have H1 := hide hl1
  have H2 := hide hl2
  have HA := hide ha
  have HA2 := hide ha2
  have HC := hide hcell
  have HC2 := hide hcell2
  clear h1 ha hlt hcell h1' ha2 hlt2 hcell2 hl1 hl2
  by_cases hn : n = n2
  · subst hn
    go_enter Try.func41, Try.ntmps41
    go_wp2
    go_loopw [5] (fun i wr => ∃ k m : Nat, k ≤ n ∧ i = .int .i64 k ∧ EqTo xs ys k ∧ wr = w.drewN m) (fun i _ => n - (intOf i).toNat)
    case atStart => exact ⟨0, 0, Nat.zero_le _, rfl, eqTo_zero _ _, rfl⟩
    case round =>
      obtain ⟨k, m, hk, rfl, hrep, rfl⟩ := hrel
      by_cases hlt : k < n
      · obtain ⟨c1, c2⟩ := HC.out k hlt
        obtain ⟨d1, d2⟩ := HC2.out k hlt
        have hA := HA.out (by omega)
        have hA' := HA2.out (by omega)
        generalize hx : xs.getD k (0, 0) = x at c1 c2
        generalize hy : ys.getD k (0, 0) = y at d1 d2
        have HX := hide hx
        have HY := hide hy
        clear hx hy
        obtain ⟨x1, x2⟩ := x
        obtain ⟨y1, y2⟩ := y
        simp only at c1 c2 d1 d2
        subst hA hA'
        have hi : (k : Int) < (n : Int) := by omega
        by_cases e1 : x1 = y1
        · subst e1
          by_cases e2 : x2 = y2
          · subst e2
            go_wp2
            go_quiet (fail)
            go_wp2
            go_roundw
            case rel => exact ⟨k + 1, _, by omega, by go_num, eqTo_succ hrep (by rw [HX.out, HY.out]), rfl⟩
            case measure => simp [intOf]; omega
          · have b2 : (x2 != y2) = true := by simp [e2]
            have b2' : (x2 == y2) = false := by simp [e2]
            go_wp2
            go_quiet (fail)
            go_wp2
            go_ret
            exact ⟨ret_bool (eqL_false (k := k) (by rw [HX.out, HY.out]; simp [e2])).symm, _, World.drewN_drewN ..⟩
        · have b1 : (x1 != y1) = true := by simp [e1]
          have b1' : (x1 == y1) = false := by simp [e1]
          go_wp2
          go_quiet (fail)
          go_wp2
          go_ret
          exact ⟨ret_bool (eqL_false (k := k) (by rw [HX.out, HY.out]; simp [e1])).symm, _, World.drewN_drewN ..⟩
      · go_wp2
        go_ret
        exact ⟨ret_bool (eqL_true (by rw [H1.out, H2.out]) (by rw [H1.out, show n = k from by omega]; exact hrep)).symm, _, rfl⟩
  · go_enter Try.func41, Try.ntmps41
    go_wp2
    go_ret
    exact ⟨ret_bool (eqL_len (by rw [H1.out, H2.out]; exact hn)).symm, 0, rfl⟩



theorem Own.empty (w : World) (e : TypeId) : Own (w.alloc (.cells #[] e)) w.heap.size e (some ⟨w.heap.size, 0, none⟩) 0 0 [] := Own.lit w [] (Nat.le_refl _) (by unfold maxLen; simp)
set_option maxHeartbeats 1000000 in
theorem Clone_any (A : Option Addr) (n c : Nat) (xs : Rd) (w : World) (h : Row w A n c xs) (hn1 : 1 ≤ n) (hn2 : n ≤ 1000) :
    Calls Try.prog 79 #[.slice A n c] w fun e w' => ∃ A' c', e = .returned (.slice A' n c') ∧ Own w' w.heap.size 51 A' n c' xs ∧ Below w.heap.size w w' := by
  have HR := hide h
  obtain ⟨b, off, hr⟩ := h
  obtain rfl := hr.at_ (by omega)
  clear hr
  go_enter Try.func79, Try.ntmps79
  have he := fun W : World => Lib.run_eql_slice_nil (P := Try.prog) W 22 51 (some ⟨b, off, none⟩) n c 0 0 Try.underlying22
  go_wp2_with (at_builtin; refine wpList_appN _ rfl (.tmp 5) (.tmp 6) 22 51 rfl Try.underlying22 info_reading w.heap.size 0 0 (some ⟨w.heap.size, 0, none⟩) [] (some ⟨b, off, none⟩) n c xs rfl rfl (Own.empty _ _) (HR.out.alloc _) hn1 (by omega) (by omega) (by simp) ?_; intro A2 c2 w5 hown5 hb5 hg5; clear hg5)
  rw [Nat.zero_add] at *
  rw [List.nil_append] at hown5
  go_ret
  exact ⟨A2, c2, rfl, hown5, ((Below.refl _ _).alloc (Nat.le_refl _) _).trans hb5⟩

set_option maxHeartbeats 1000000 in
theorem Copy_any (A : Option Addr) (n c : Nat) (xs : Rd) (w : World) (h : Row w A n c xs) (hn2 : n ≤ 1000) :
    Calls Try.prog 46 #[.slice A n c] w fun e w' => ∃ A' c', e = .returned (.slice A' n c') ∧ Own w' w.heap.size 51 A' n c' xs ∧ Below w.heap.size w w' := by
  have HR := hide h
  have hl := h.length
  have HL := hide hl
  clear h hl
  by_cases hn : n = 0
  · subst hn
    have hx := List.eq_nil_of_length_eq_zero HL.out
    subst hx
    cases A with
    | none =>
      go_enter Try.func46, Try.ntmps46
      go_wp2_with fail
      go_ret
      exact ⟨_, 0, rfl, Own.empty _ _, (by (repeat' (first | exact Below.refl _ _ | exact Nat.le_refl _ | refine Below.drew ?_ | refine below_drewN ?_ _ | refine Below.alloc ?_ ?_ _ | refine Below.setCell ?_ ?_ _)); all_goals (first | (simp; done) | (simp; omega)))⟩
    | some a =>
      go_enter Try.func46, Try.ntmps46
      go_wp2_with fail
      go_outline
      trace_state
      go_ret
      exact ⟨_, 0, rfl, Own.empty _ _, (by (repeat' (first | exact Below.refl _ _ | exact Nat.le_refl _ | refine Below.drew ?_ | refine below_drewN ?_ _ | refine Below.alloc ?_ ?_ _ | refine Below.setCell ?_ ?_ _)); all_goals (first | (simp; done) | (simp; omega)))⟩
  · go_enter Try.func46, Try.ntmps46
    go_wp2_with (at_builtin; refine wpList_appN _ rfl (.tmp 3) (.tmp 4) 22 51 rfl Try.underlying22 info_reading w.heap.size 0 0 (some ⟨w.heap.size, 0, none⟩) [] A n c xs rfl rfl (Own.empty _ _) (HR.out.alloc _) (by omega) (by omega) (by omega) (by simp) ?_; intro A2 c2 w5 hown5 hb5 hg5; clear hg5)
    rw [Nat.zero_add] at *
    rw [List.nil_append] at hown5
    go_ret
    exact ⟨A2, c2, rfl, hown5, ((Below.refl _ _).alloc (Nat.le_refl _) _).trans hb5⟩

end Go.Proofs.Ytlmmkaadoicogaa
