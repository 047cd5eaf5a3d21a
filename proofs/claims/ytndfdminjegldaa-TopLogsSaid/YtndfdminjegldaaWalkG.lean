/- Walks: the distance. -/
import Derived.Test.YtndfdminjegldaaWalkF
namespace Go.Proofs.Ytndfdminjegldaa
open Go.RowKit Go.Shelf
attribute [local go_sem] Oper.semAt_some

set_option maxRecDepth 100000 in
set_option maxHeartbeats 4000000 in
theorem distance_any (A : Option Addr) (n c : Nat) (xs : List Int) (A' : Option Addr) (n' c' : Nat) (ys : List Int) (o i h : Int) (w : World) (hx : R E1 w A n c xs) (hy : R E1 w A' n' c' ys) (hn : n ≤ 10) (hn' : n' ≤ 10)
    (ho : 1 ≤ o ∧ o ≤ 9) (hi : 1 ≤ i ∧ i ≤ 9) (hh : 1 ≤ h ∧ h ≤ 9) :
    Calls Try.prog 61 #[.slice A n c, .slice A' n' c', cV o i h] w fun e w' => e = .returned (.int .i64 (dist xs ys ⟨o, i, h⟩)) ∧ Below w.heap.size w w' := by
  have BX := hide ((Below.refl w.heap.size w).alloc (Nat.le_refl _) (.cells #[.int .i64 o, .int .i64 i, .int .i64 h] 24))
  have HL := hide hx.length
  have HL' := hide hy.length
  have HX := hide (hx.below BX.out (Nat.le_refl _))
  have HY := hide (hy.below BX.out (Nat.le_refl _))
  clear hx hy
  go_enter Try.func61, Try.ntmps61
  go_wp2_with (go_at_call 63; refine (distances_any A n c xs A' n' c' ys o i h _ HX.out HY.out hn hn' ho hi hh).mono ?_; rintro e1 w1 ⟨gO, gC, L, rfl, t1, k1, b1⟩; have B1 := hide (le_call BX.out b1); have m1 := t1.head (r := n) (by omega); have m2 := t1.cell (r := n) (k := n') (by omega) (by omega); rw [k1 n n' (Nat.le_refl _) (Nat.le_refl _)] at m2; clear t1 k1 b1)
  go_ret
  exact ⟨by rw [← HL.out, ← HL'.out]; rfl, B1.out⟩
set_option maxRecDepth 100000 in
set_option maxHeartbeats 4000000 in
theorem Distance_any (A : Option Addr) (n c : Nat) (xs : List Int) (A' : Option Addr) (n' c' : Nat) (ys : List Int) (o i h : Int) (w : World) (hx : R E1 w A n c xs) (hy : R E1 w A' n' c' ys) :
    Calls Try.prog 26 #[.slice A n c, .slice A' n' c', cV o i h] w fun e w' => e = .returned (.tuple #[.int .i64 (distV xs ys ⟨o, i, h⟩), .int .i64 (errD xs ys ⟨o, i, h⟩)]) ∧ Below w.heap.size w w' := by
  have BX := hide ((Below.refl w.heap.size w).alloc (Nat.le_refl _) (.cells #[.int .i64 o, .int .i64 i, .int .i64 h] 24))
  have HBK := hide (Bk.born w 24 #[.int .i64 o, .int .i64 i, .int .i64 h])
  have HX := hide (hx.below BX.out (Nat.le_refl _))
  have HY := hide (hy.below BX.out (Nat.le_refl _))
  have hz : w.heap.size < (w.alloc (.cells #[.int .i64 o, .int .i64 i, .int .i64 h] 24)).heap.size := by simp
  by_cases he : errD xs ys ⟨o, i, h⟩ = 0
  · have HE := hide he
    have HV := hide (distV_ok he)
    obtain ⟨h1, h2, h3⟩ := errD_ok.1 he
    have hn : n ≤ 10 := by rw [← hx.length]; exact (errL_ok.1 h1).1
    have hn' : n' ≤ 10 := by rw [← hy.length]; exact (errL_ok.1 h2).1
    obtain ⟨ho, hi, hh⟩ := h3
    simp only at ho hi hh
    clear hx hy he h1 h2
    go_enter Try.func26, Try.ntmps26
    go_wp2_with (first
      | (go_at_call 55; refine (validateAll_any A n c xs A' n' c' ys o i h _ HX.out HY.out).mono ?_; rintro e1 w1 ⟨rfl, b1⟩; rw [HE.out]; have k0 := (HBK.out.keep b1 hz).at_ 0; have k1 := (HBK.out.keep b1 hz).at_ 1; have k2 := (HBK.out.keep b1 hz).at_ 2; simp at k0 k1 k2; have B1 := hide b1; clear b1)
      | (go_at_call 61; refine (distance_any A n c xs A' n' c' ys o i h _ (HX.out.below B1.out (Nat.le_refl _)) (HY.out.below B1.out (Nat.le_refl _)) hn hn' ho hi hh).mono ?_; rintro e2 w2 ⟨rfl, b2⟩; have B2 := hide b2; clear b2))
    go_ret2
    exact ⟨by rw [HV.out, HE.out]; rfl, le_call (le_call BX.out B1.out) B2.out⟩
  · have HV := hide (distV_no he)
    have hne : (errD xs ys ⟨o, i, h⟩ != 0) = true := by simpa using he
    clear hx hy he
    go_enter Try.func26, Try.ntmps26
    go_wp2_with (go_at_call 55; refine (validateAll_any A n c xs A' n' c' ys o i h _ HX.out HY.out).mono ?_; rintro e1 w1 ⟨rfl, b1⟩; have B1 := hide b1; clear b1)
    go_ret2
    exact ⟨by rw [HV.out]; rfl, le_call BX.out B1.out⟩
end Go.Proofs.Ytndfdminjegldaa
