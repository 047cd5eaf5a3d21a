/- The numbers of shifts, mirrored; copies of lists. -/
import Derived.Test.YtpkjgnllkaafkaaWalkMi
namespace Go.Proofs.Ytpkjgnllkaafkaa
open Go.RowKit

def bestL (xs : Ls) : Int := best lenI (setsTo xs xs.length)
def bestP (xs : Ls) : Int := best (payI xs) (setsTo xs xs.length)
theorem best_le {f g : List Int → Int} {ss tt : List (List Int)} (h : ∀ I ∈ ss, ∃ I' ∈ tt, f I ≤ g I') : best f ss ≤ best g tt := by
  obtain ⟨_, _, h1⟩ := best_spec f _ ss rfl
  obtain ⟨h2, h3, _⟩ := best_spec g _ tt rfl
  rcases h1 with h1 | ⟨s, hs, h1⟩
  · omega
  · obtain ⟨t, ht, hle⟩ := h s hs
    have := h2 t ht
    omega
theorem sets_mir {xs : Ls} {I : List Int} : I ∈ setsTo (mirL xs) (mirL xs).length ↔ I ∈ setsTo xs xs.length := by
  rw [mem_setsTo, mem_setsTo, mirL_len]
  constructor
  · rintro ⟨h1, h2⟩; exact ⟨h1, (mir_alone h1.rng).1 h2⟩
  · rintro ⟨h1, h2⟩; exact ⟨h1, (mir_alone h1.rng).2 h2⟩
theorem bestL_mir (xs : Ls) : bestL (mirL xs) = bestL xs := Int.le_antisymm (best_le fun I hI => ⟨I, sets_mir.1 hI, Int.le_refl _⟩) (best_le fun I hI => ⟨I, sets_mir.2 hI, Int.le_refl _⟩)
theorem bestP_mir (xs : Ls) : bestP (mirL xs) = bestP xs := by
  have key : ∀ I ∈ setsTo xs xs.length, payI (mirL xs) I = payI xs I := fun I hI => mir_pay (mem_setsTo.1 hI).1.rng
  refine Int.le_antisymm (best_le fun I hI => ⟨I, sets_mir.1 hI, ?_⟩) (best_le fun I hI => ⟨I, sets_mir.2 hI, ?_⟩)
  · rw [key I (sets_mir.1 hI)]; exact Int.le_refl _
  · rw [key I hI]; exact Int.le_refl _
theorem peak_mir {xs : Ls} (he : errV xs = 0) : (peak (mirL xs)).2 = (peak xs).2 := by
  unfold peak
  rw [if_pos he, if_pos (mir_errV he)]
  exact mir_peak (errV_ok.1 he).2
theorem covV_mir {xs : Ls} (he : errV xs = 0) : covV (mirL xs) = covV xs := by
  rw [covV_ok he, covV_ok (mir_errV he), mir_covN]
/-- Alone, by how many it returns. -/
def AlnPost (xs : Ls) (w : World) (e : Ending) (w' : World) : Prop :=
  ∃ (A : Option Addr) (n c : Nat), e = .returned (.tuple #[.slice A n c, .int .i64 0]) ∧ (n : Int) = bestL xs ∧ Below w.heap.size w w'
theorem AloneN_any (A : Option Addr) (n c : Nat) (xs : Ls) (w : World) (h : R E3 w A n c xs) (hn : n ≤ 1000) (he : errV xs = 0) :
    Calls Try.prog 35 #[.slice A n c] w (AlnPost xs w) := by
  refine (Alone_any _ _ _ xs _ h hn).mono ?_
  rintro e w' ⟨A', n', c', I, rfl, hI, _, o, b⟩
  obtain ⟨L, hL, hC⟩ := hI he
  refine ⟨A', n', c', by rw [he], ?_, b⟩
  have := (best_len he hL hC).1
  rw [o.len] at this
  exact this.symm
def EanPost (xs : Ls) (w : World) (e : Ending) (w' : World) : Prop :=
  ∃ (A : Option Addr) (n c : Nat), e = .returned (.tuple #[.slice A n c, .int .i64 (bestP xs), .int .i64 0]) ∧ Below w.heap.size w w'
theorem EarnN_any (A : Option Addr) (n c : Nat) (xs : Ls) (w : World) (h : R E3 w A n c xs) (hn : n ≤ 1000) (he : errV xs = 0) :
    Calls Try.prog 36 #[.slice A n c] w (EanPost xs w) := by
  refine (Earn_any _ _ _ xs _ h hn).mono ?_
  rintro e w' ⟨A', n', c', I, rfl, hI, _, o, b⟩
  obtain ⟨L, hL, hC⟩ := hI he
  refine ⟨A', n', c', ?_, b⟩
  rw [he]
  unfold bestP
  rw [earns_best (errV_ok.1 he).2 hL hC]
section
variable {α : Type} {E : Enc α} {P : Program} (w : World) {ops : Array Oper} {rest : List Oper} {o : Oper} {a : Act} {Q : Exit → Act → World → Prop}
/-- append([]T{}, xs...): a copy. -/
theorem wpList_appX (z : Value) (bytes : Nat) (hgd : o.guard = none) (s x : Operand) (t e : TypeId) (ho : o.op = .call { callee := .builtin .append, args := #[s, x], argTypes := #[t, t] })
    (hu : P.underlying t = some (.slice e)) (hinfo : (P.info? e).map (fun i => (i.zero, i.size, i.bytes)) = some (some z, E.size, bytes)) (hz : z.cells.size = E.size) (hE : 0 < E.size) (hby : bytes ≤ 64)
    (B g : Nat) (A2 : Option Addr) (m c2 : Nat) (ys : List α) (hs : a.eval s = .slice (some ⟨g, 0, none⟩) 0 0) (hx : a.eval x = .slice A2 m c2)
    (hown : Own E w B e (some ⟨g, 0, none⟩) 0 0 []) (hrow : R E w A2 m c2 ys) (hm2 : m ≤ 1000000) (hB : B ≤ w.heap.size)
    (h : ∀ A' c' w', Own E w' B e A' m c' ys → Below B w w' → wpList P ops Q rest (a.put o.dst (.slice A' m c')) w') :
    wpList P ops Q (o :: rest) a w := by
  by_cases hm : m = 0
  · subst hm
    obtain ⟨i0, hi, hz0, hz1, hz2⟩ := info_parts hinfo
    obtain rfl : ys = [] := List.eq_nil_of_length_eq_zero hrow.length
    have hrun : (Builtin.append_ #[t, t] o.type #[.slice (some ⟨g, 0, none⟩) 0 0, .slice A2 0 c2]).run P w = .ok (.slice (some ⟨g, 0, none⟩) 0 0) w := by
      cases A2 <;> simp [Builtin.append_, run_underlying hu, sizeOf, typeInfo, hi, Builtin.lenOf, Builtin.firstCells, loadCells, loadCellsFrom, storeCells]
    refine wpList_plain hgd fun K hK => ?_
    unfold Oper.wp
    simp [execOp, ho, resolve, invoke, builtin, hs, hx, hrun, Result.andThen]
    exact hK _ _ (h _ _ w hown (Below.refl _ _))
  · have hA : ∃ ad, A2 = some ad := by
      obtain ⟨b, off, hr⟩ := hrow
      exact ⟨_, hr.at_ (by omega)⟩
    obtain ⟨ad, rfl⟩ := hA
    refine wpList_appN w z bytes hgd s x t e ho hu hinfo hz hE hby B 0 0 _ [] ad m c2 ys hs hx hown hrow hm2 (by omega) hB fun A' c' w' h1 h2 _ => ?_
    rw [Nat.zero_add] at h1 ⊢
    exact h A' c' w' (by simpa using h1) h2
end

set_option maxHeartbeats 2000000 in
theorem same_any (A : Option Addr) (n c : Nat) (xs : Ls) (A' : Option Addr) (n' c' : Nat) (w : World) (h : R E3 w A n c xs) (h' : R E3 w A' n' c' (mirL xs)) (hn : n ≤ 1000) (hn' : n' ≤ 1000) (he : errV xs = 0) :
    Calls Try.prog 52 #[.slice A n c, .slice A' n' c'] w fun e w' => e = .returned (.bool true) ∧ Below w.heap.size w w' := by
  have HX := hide h
  have HY := hide h'
  have HE := hide he
  have HE' := hide (mir_errV he)
  have HPK := hide (peak_mir he)
  have HL := hide (bestL_mir xs)
  have HBP := hide (bestP_mir xs)
  have HC := hide (covV_mir he)
  clear h h' he
  go_enter Try.func52, Try.ntmps52
  go_wp2_with fail
  refine (Peak_any _ _ _ xs _ HX.out hn).mono ?_
  rintro e w1 ⟨rfl, b1⟩
  rw [HE.out]
  have B1 := hide b1
  clear b1
  go_wp2_with fail
  refine (Peak_any _ _ _ (mirL xs) _ (HY.out.below B1.out (Nat.le_refl _)) hn').mono ?_
  rintro e w2 ⟨rfl, b2⟩
  rw [HE'.out, HPK.out]
  have B2 := hide (B1.out.trans (b2.mono B1.out.size))
  clear b2
  go_wp2_with fail
  refine (AloneN_any _ _ _ xs _ (HX.out.below B2.out (Nat.le_refl _)) hn HE.out).mono ?_
  rintro e w3 ⟨A3, n3, c3, rfl, hl3, b3⟩
  have HL3 := hide hl3
  have B3 := hide (B2.out.trans (b3.mono B2.out.size))
  clear hl3 b3
  go_wp2_with fail
  refine (AloneN_any _ _ _ (mirL xs) _ (HY.out.below B3.out (Nat.le_refl _)) hn' HE'.out).mono ?_
  rintro e w4 ⟨A4, n4, c4, rfl, hl4, b4⟩
  obtain rfl : n4 = n3 := by have h1 := HL.out; have h2 := HL3.out; omega
  have B4 := hide (B3.out.trans (b4.mono B3.out.size))
  clear hl4 b4
  go_wp2_with fail
  refine (EarnN_any _ _ _ xs _ (HX.out.below B4.out (Nat.le_refl _)) hn HE.out).mono ?_
  rintro e w5 ⟨A5, n5, c5, rfl, b5⟩
  have B5 := hide (B4.out.trans (b5.mono B4.out.size))
  clear b5
  go_wp2_with fail
  refine (EarnN_any _ _ _ (mirL xs) _ (HY.out.below B5.out (Nat.le_refl _)) hn' HE'.out).mono ?_
  rintro e w6 ⟨A6, n6, c6, rfl, b6⟩
  rw [HBP.out]
  have B6 := hide (B5.out.trans (b6.mono B5.out.size))
  clear b6
  go_wp2_with fail
  refine (Covered_any _ _ _ xs _ (HX.out.below B6.out (Nat.le_refl _)) hn).mono ?_
  rintro e w7 ⟨rfl, b7⟩
  rw [HE.out]
  have B7 := hide (B6.out.trans (b7.mono B6.out.size))
  clear b7
  go_wp2_with fail
  refine (Covered_any _ _ _ (mirL xs) _ (HY.out.below B7.out (Nat.le_refl _)) hn').mono ?_
  rintro e w8 ⟨rfl, b8⟩
  rw [HE'.out, HC.out]
  have B8 := hide (B7.out.trans (b8.mono B7.out.size))
  clear b8
  generalize covV xs = cv at *
  generalize bestP xs = bp at *
  generalize peak xs = pk at *
  obtain ⟨pk1, pk2⟩ := pk
  dsimp only at *
  go_wp2_with fail
  go_ret
  exact ⟨rfl, B8.out⟩
end Go.Proofs.Ytpkjgnllkaafkaa
