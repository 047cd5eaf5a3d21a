/- Walks: the edits that two logs allow. -/
import Derived.Test.YtndfdminjegldaaWalkD
namespace Go.Proofs.Ytndfdminjegldaa
open Go.RowKit Go.Shelf
attribute [local go_sem] Oper.semAt_some

theorem info_edit : (Try.prog.info? 71).map (fun i => (i.zero, i.size, i.bytes)) = some (some .nilIface, 1, 16) := by kernel_rfl
def EdPost (es : List Int) (w : World) (e : Ending) (w' : World) : Prop :=
  ∃ A n c, e = .returned (.slice A n c) ∧ Own EI w' w.heap.size 71 A n c es ∧ Below w.heap.size w w'
theorem eds00 (l m : List Int) : eds l m 0 0 = [] := rfl
theorem edsR (l m : List Int) {r : Nat} (h : 0 < r) : eds l m r 0 = [0] := by simp [eds, h]
theorem edsK (l m : List Int) {k : Nat} (h : 0 < k) : eds l m 0 k = [1] := by simp [eds, h]
theorem edsB (l m : List Int) {r k : Nat} (h : 0 < r) (h' : 0 < k) : eds l m r k = [0, 1, if l.getD (r - 1) 0 = m.getD (k - 1) 0 then 3 else 2] := by simp [eds, h, h']
set_option maxRecDepth 100000 in
set_option maxHeartbeats 4000000 in
theorem edits_any (A : Option Addr) (n c : Nat) (xs : List Int) (A' : Option Addr) (n' c' : Nat) (ys : List Int) (w : World) (h : R E1 w A n c xs) (h' : R E1 w A' n' c' ys) (hn : n ≤ 100) (hn' : n' ≤ 100) :
    Calls Try.prog 84 #[.slice A n c, .slice A' n' c'] w (EdPost (eds xs ys n n') w) := by
  by_cases h0 : n = 0
  · subst h0
    by_cases h1 : n' = 0
    · subst h1
      rw [eds00]
      clear h h'
      go_enter Try.func84, Try.ntmps84
      go_wp2_with fail
      go_ret
      exact ⟨none, 0, 0, rfl, Own.nil _ _ _ _, Below.refl _ _⟩
    · have hp : 0 < n' := by omega
      rw [edsK xs ys hp]
      clear h h'
      go_enter Try.func84, Try.ntmps84
      go_wp2_with (at_builtin; refine wpList_app1 (E := EI) w .nilIface 16 rfl (.tmp 17) (.tmp 20) 72 71 rfl Try.underlying72 info_edit rfl (by decide) (by omega) w.heap.size 0 0 none [] (1 : Int) _ rfl rfl rfl (Own.nil EI w w.heap.size _) (by omega) (Nat.le_refl _) ?_; intro A2 q2 w2 o2 b2 g2; have O2 := hide o2; have B2 := hide (b2); have z2 : w.heap.size ≤ w2.heap.size := B2.out.size; clear o2 b2 g2)
      go_ret
      exact ⟨_, _, _, rfl, O2.out, B2.out⟩
  · have hq : 0 < n := by omega
    by_cases h1 : n' = 0
    · subst h1
      rw [edsR xs ys hq]
      clear h h'
      go_enter Try.func84, Try.ntmps84
      go_wp2_with (at_builtin; refine wpList_app1 (E := EI) w .nilIface 16 rfl (.tmp 9) (.tmp 12) 72 71 rfl Try.underlying72 info_edit rfl (by decide) (by omega) w.heap.size 0 0 none [] (0 : Int) _ rfl rfl rfl (Own.nil EI w w.heap.size _) (by omega) (Nat.le_refl _) ?_; intro A1 q1 w1 o1 b1 g1; have O1 := hide o1; have B1 := hide (b1); have z1 : w.heap.size ≤ w1.heap.size := B1.out.size; clear o1 b1 g1)
      go_ret
      exact ⟨_, _, _, rfl, O1.out, B1.out⟩
    · have hp : 0 < n' := by omega
      rw [edsB xs ys hq hp]
      generalize hev : (if xs.getD (n - 1) 0 = ys.getD (n' - 1) 0 then (3 : Int) else 2) = ev
      have HEV := hide hev
      clear hev
      obtain ⟨b, off, hr⟩ := h
      obtain rfl := hr.at_ hq
      obtain ⟨b', off', hr'⟩ := h'
      obtain rfl := hr'.at_ hp
      have HR := hide hr
      have HR' := hide hr'
      have hbl := hr.lt hq
      have hbl' := hr'.lt hp
      clear hr hr'
      go_enter Try.func84, Try.ntmps84
      go_wp2_with (first
        | (at_builtin; refine wpList_app1 (E := EI) w .nilIface 16 rfl (.tmp 9) (.tmp 12) 72 71 rfl Try.underlying72 info_edit rfl (by decide) (by omega) w.heap.size 0 0 none [] (0 : Int) _ rfl rfl rfl (Own.nil EI w w.heap.size _) (by omega) (Nat.le_refl _) ?_; intro A1 q1 w1 o1 b1 g1; have O1 := hide o1; have B1 := hide (b1); have z1 : w.heap.size ≤ w1.heap.size := B1.out.size; clear o1 b1 g1)
        | (at_builtin; refine wpList_app1 (E := EI) w1 .nilIface 16 rfl (.tmp 17) (.tmp 20) 72 71 rfl Try.underlying72 info_edit rfl (by decide) (by omega) w.heap.size 1 q1 A1 [0] (1 : Int) _ rfl rfl rfl O1.out (by omega) z1 ?_; intro A2 q2 w2 o2 b2 g2; have O2 := hide o2; have B2 := hide (B1.out.trans b2); have z2 : w.heap.size ≤ w2.heap.size := B2.out.size; clear o2 b2 g2))
      have x1 := c1 (HR.out.below B2.out (Nat.le_refl _)) (k := n - 1) (by omega)
      have x2 := c1 (HR'.out.below B2.out (Nat.le_refl _)) (k := n' - 1) (by omega)
      have e1 : (n : Int) - 1 = ((n - 1 : Nat) : Int) := by omega
      have e2 : (n' : Int) - 1 = ((n' - 1 : Nat) : Int) := by omega
      have w1' : IntKind.i64.wrap ((n : Int) - 1) = ((n - 1 : Nat) : Int) := by rw [e1]; exact IntWalk.i64_in _ (by omega)
      have w2' : IntKind.i64.wrap ((n' : Int) - 1) = ((n' - 1 : Nat) : Int) := by rw [e2]; exact IntWalk.i64_in _ (by omega)
      have i1 : ((n - 1 : Nat) : Int) < (n : Int) := by omega
      have i2 : ((n' - 1 : Nat) : Int) < (n' : Int) := by omega
      have i3 : (0 : Int) ≤ ((n - 1 : Nat) : Int) := by omega
      have i4 : (0 : Int) ≤ ((n' - 1 : Nat) : Int) := by omega
      clear e1 e2
      generalize xs.getD (n - 1) 0 = x at *
      generalize ys.getD (n' - 1) 0 = y at *
      have x1 : w2.drew.cell? ⟨b, off + (n - 1), none⟩ = some (.int .i64 x) := x1
      have x2 : w2.drew.cell? ⟨b', off' + (n' - 1), none⟩ = some (.int .i64 y) := x2
      have OD := hide O2.out.drew
      have BD := hide B2.out.drew
      have zD : w.heap.size ≤ w2.drew.heap.size := z2
      by_cases hxy : x = y
      · have hb : (x == y) = true := by simpa using hxy
        obtain rfl : ev = 3 := by have := HEV.out; rw [if_pos hxy] at this; exact this.symm
        clear hxy
        go_region_law (refine step_app1 (E := EI) w2.drew .nilIface 16 rfl (.tmp 30) (.tmp 46) 72 71 rfl Try.underlying72 info_edit rfl (by decide) (by omega) w.heap.size 2 q2 A2 [0, 1] (3 : Int) _ rfl rfl rfl OD.out (by omega) zD ?_; intro A3 q3 w3 o3 b3; have O3 := hide o3; have B3 := hide (BD.out.trans b3); clear o3 b3)
        all_goals
          go_wp2_with fail
          go_ret
          exact ⟨_, _, _, rfl, O3.out, B3.out⟩
      · have hb : (x == y) = false := by simpa using hxy
        obtain rfl : ev = 2 := by have := HEV.out; rw [if_neg hxy] at this; exact this.symm
        clear hxy
        go_region_law (refine step_app1 (E := EI) w2.drew .nilIface 16 rfl (.tmp 30) (.tmp 46) 72 71 rfl Try.underlying72 info_edit rfl (by decide) (by omega) w.heap.size 2 q2 A2 [0, 1] (2 : Int) _ rfl rfl rfl OD.out (by omega) zD ?_; intro A3 q3 w3 o3 b3; have O3 := hide o3; have B3 := hide (BD.out.trans b3); clear o3 b3)
        all_goals
          go_wp2_with fail
          go_ret
          exact ⟨_, _, _, rfl, O3.out, B3.out⟩
end Go.Proofs.Ytndfdminjegldaa
