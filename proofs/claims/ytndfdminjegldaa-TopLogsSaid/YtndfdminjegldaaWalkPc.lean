/- The greatest common part on the document's side; a part is found by the check. -/
import Derived.Test.YtndfdminjegldaaWalkPr
namespace Go.Proofs.Ytndfdminjegldaa
open Go.RowKit Go.Shelf
attribute [local go_sem] Oper.semAt_some

theorem sub_snoc {a b : List Int} {x y : Int} (h : (a ++ [x]).Sublist (b ++ [y])) : (a ++ [x]).Sublist b ∨ (x = y ∧ a.Sublist b) := by
  have h1 := List.reverse_sublist.2 h
  rw [List.reverse_append, List.reverse_append] at h1
  simp only [List.reverse_cons, List.reverse_nil, List.nil_append, List.singleton_append] at h1
  cases h1 with
  | cons _ h2 =>
    left
    have : (a ++ [x]).reverse.Sublist b.reverse := by rw [List.reverse_append]; exact h2
    exact List.reverse_sublist.1 this
  | cons_cons _ h2 =>
    right
    exact ⟨rfl, List.reverse_sublist.1 h2⟩
theorem fnd_mono (p l : List Int) (t : Nat) : fnd p l t ≤ fnd p l (t + 1) := by
  rw [fnd_succ]; split <;> omega
theorem fnd_ge (p l : List Int) : ∀ t, t ≤ l.length → ∀ j, j ≤ p.length → (p.take j).Sublist (l.take t) → j ≤ fnd p l t
  | 0, _, j, hj, h => by
    have h1 := h.length_le
    have h2 : (p.take j).length = j := by rw [List.length_take]; omega
    have h3 : (l.take 0).length = 0 := by simp
    omega
  | t + 1, ht, j, hj, h => by
    rcases Nat.eq_zero_or_pos j with e | e
    · omega
    · obtain ⟨q, rfl⟩ : ∃ q, j = q + 1 := ⟨j - 1, by omega⟩
      have e1 : p.take (q + 1) = p.take q ++ [p.getD q 0] := take_get (by omega)
      have e2 : l.take (t + 1) = l.take t ++ [l.getD t 0] := take_get (by omega)
      have hm := fnd_mono p l t
      have h0 := h
      rw [e1, e2] at h
      rcases sub_snoc h with h1 | ⟨h1, h2⟩
      · rw [← e1] at h1
        have := fnd_ge p l t (by omega) (q + 1) hj h1
        omega
      · have ih := fnd_ge p l t (by omega) q (by omega) h2
        by_cases e3 : q + 1 ≤ fnd p l t
        · omega
        · have e4 : fnd p l t = q := by omega
          rw [fnd_succ, e4, if_pos ⟨by omega, h1⟩]
          exact Nat.le_refl _
theorem sub_part {p l : List Int} (h : p.Sublist l) : partB p l = true := by
  unfold partB
  have h1 := fnd_ge p l l.length (Nat.le_refl _) p.length (Nat.le_refl _) (by rw [List.take_length, List.take_length]; exact h)
  have h2 := fnd_le p l l.length
  rw [decide_eq_true_eq]
  omega
theorem par_errP {l m : List Int} (h : errB l m = 0) : errP l m (parV l m) = 0 := by
  have hs := part_spec l.length l m (Nat.le_refl _) (sg_errL (errB_ok.1 h).1)
  rw [parV_ok h]
  exact errP_yes h (sub_part hs.1) (sub_part hs.2.1)
theorem par_len {l m : List Int} (h : errB l m = 0) : (parV l m).length = cmn l m := by rw [parV_ok h]; exact (part_spec l.length l m (Nat.le_refl _) (sg_errL (errB_ok.1 h).1)).2.2
theorem cmn_le (l m : List Int) : cmn l m ≤ l.length ∧ cmn l m ≤ m.length := by
  obtain ⟨⟨p, h1, h2, h3⟩, _⟩ := cmn_spec l m
  have := h1.length_le
  have := h2.length_le
  omega
theorem par_len10 (l m : List Int) : (parV l m).length ≤ 10 := by
  by_cases h : errB l m = 0
  · rw [par_len h]
    have := (cmn_le l m).1
    have := (errL_ok.1 (errB_ok.1 h).1).1
    omega
  · rw [parV_no h]; simp
set_option maxRecDepth 100000 in
set_option maxHeartbeats 4000000 in
theorem rCommon_any (A : Option Addr) (n c : Nat) (xs : List Int) (A' : Option Addr) (n' c' : Nat) (ys : List Int) (w : World) (hx : R E1 w A n c xs) (hy : R E1 w A' n' c' ys) :
    Calls Try.prog 38 #[.slice A n c, .slice A' n' c'] w fun e w' => e = .returned (.tuple #[.int .i64 (comV xs ys), .int .i64 (errB xs ys)]) ∧ Below w.heap.size w w' := by
  have HX := hide hx
  have HY := hide hy
  by_cases he : errB xs ys = 0
  · have HE := hide he
    have HV := hide (comV_ok he)
    obtain ⟨h1, h2⟩ := errB_ok.1 he
    have HP := hide (show (partF (n + 1) xs ys).length = cmn xs ys from (part_spec (n + 1) xs ys (by rw [hx.length]; omega) (sg_errL h1)).2.2)
    have hn : n ≤ 10 := by rw [← hx.length]; exact (errL_ok.1 h1).1
    have hn' : n' ≤ 10 := by rw [← hy.length]; exact (errL_ok.1 h2).1
    have HSG := hide (sg_errL h1)
    clear hx hy he h1 h2
    go_enter Try.func38, Try.ntmps38
    go_wp2_with (first
      | (go_at_call 74; refine (rtwo_any A n c xs A' n' c' ys _ HX.out HY.out).mono ?_; rintro e1 w1 ⟨rfl, rfl⟩; rw [HE.out])
      | (go_at_call 75; refine (rpart_any n A n c xs A' n' c' ys _ HX.out HY.out (Nat.le_refl _) hn hn' HSG.out).mono ?_; rintro e2 w2 ⟨A2, n2, c2, rfl, o2, b2⟩; have HN := hide (o2.len.symm.trans HP.out); have B2 := hide b2; clear o2 b2))
    go_ret2
    exact ⟨by rw [HV.out, HE.out, ← HN.out]; rfl, B2.out⟩
  · have HV := hide (comV_no he)
    have hne : (errB xs ys != 0) = true := by simpa using he
    clear hx hy he
    go_enter Try.func38, Try.ntmps38
    go_wp2_with (go_at_call 74; refine (rtwo_any A n c xs A' n' c' ys _ HX.out HY.out).mono ?_; rintro e1 w1 ⟨rfl, rfl⟩)
    go_ret2
    exact ⟨by rw [HV.out]; rfl, Below.refl _ _⟩
end Go.Proofs.Ytndfdminjegldaa
