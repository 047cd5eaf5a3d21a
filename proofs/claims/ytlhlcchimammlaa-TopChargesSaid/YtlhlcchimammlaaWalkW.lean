/- Weights with one more: on both sides. -/
import Derived.Test.YtlhlcchimammlaaWalkV
import Derived.Test.YtlhlcchimammlaaIns
namespace Go.Proofs.Ytlhlcchimammlaa
open Go.RowKit Go.Shelf
attribute [local go_sem] Oper.semAt_some

section
variable {α : Type} {E : Enc α} {P : Program} (w : World) {ops : Array Oper} {o : Oper} {a : Act} {K : Act → World → Prop} {Q : Exit → Act → World → Prop} {F : Prop}
/-- out = append(out, xs...) at a step of a region that draws its order. -/
theorem step_appG (z : Value) (bytes : Nat) (hgd : o.guard = none) (s x : Operand) (t e : TypeId) (ho : o.op = .call { callee := .builtin .append, args := #[s, x], argTypes := #[t, t] })
    (hu : P.underlying t = some (.slice e)) (hinfo : (P.info? e).map (fun i => (i.zero, i.size, i.bytes)) = some (some z, E.size, bytes)) (hz : z.cells.size = E.size) (hE : 0 < E.size) (hby : bytes ≤ 64)
    (B n c : Nat) (A : Option Addr) (l : List α) (A2 : Option Addr) (m c2 : Nat) (ys : List α) (hs : a.eval s = .slice A n c) (hx : a.eval x = .slice A2 m c2)
    (hown : Own E w B e A n c l) (hrow : R E w A2 m c2 ys) (hm2 : m ≤ 1000000) (hn : n ≤ 1000000) (hB : B ≤ w.heap.size)
    (h : ∀ A' c' w', Own E w' B e A' (n + m) c' (l ++ ys) → Below B w w' → K (a.put o.dst (.slice A' (n + m) c')) w') :
    if Region.wanted o (yielded ops a.tmps) = true then Oper.wp P o a w K Q else F := by
  obtain ⟨i0, hi, hz0, hz1, hz2⟩ := info_parts hinfo
  by_cases hm : m = 0
  · subst hm
    obtain rfl : ys = [] := List.eq_nil_of_length_eq_zero hrow.length
    have hrun : (Builtin.append_ #[t, t] o.type #[.slice A n c, .slice A2 0 c2]).run P w = .ok (.slice A n c) w := by
      rcases hown.form with ⟨rfl, rfl, rfl, _⟩ | ⟨g, rfl, _, _, hnc, _⟩
      · cases A2 <;> simp [Builtin.append_, run_underlying hu, sizeOf, typeInfo, hi, Builtin.lenOf, Builtin.firstCells, loadCells, loadCellsFrom, storeCells]
      · cases A2 <;> simp [Builtin.append_, run_underlying hu, sizeOf, typeInfo, hi, Builtin.lenOf, Builtin.firstCells, loadCells, loadCellsFrom, storeCells, hnc]
    have hw : Region.wanted o (yielded ops a.tmps) = true := by simp [Region.wanted, hgd]
    rw [if_pos hw]
    unfold Oper.wp
    simp [execOp, ho, resolve, invoke, builtin, hs, hx, hrun, Result.andThen]
    exact h _ _ w (by rw [List.append_nil]; exact hown) (Below.refl _ _)
  · obtain ⟨b, off, hr⟩ := hrow
    have hA := hr.at_ (by omega)
    subst hA
    have hrl := hr.len
    have hl := hown.len
    refine step_append_lies w hgd s x t ho B e i0 z E.size bytes hu hi hz0 hz1 hz2 hz hE _ n (E.cells l) hs hown.2 ⟨b, off, none⟩ m c2 (E.cells ys) hx (by rw [E.cells_len, hrl]) ?_ (E.cells_one ys) (by omega) (by unfold maxLen; omega) ?_ hB _ rfl ?_
    · intro j u hu'
      have hj := (List.getElem?_eq_some_iff.1 hu').1
      rw [E.cells_len, hrl] at hj
      have hadd : (⟨b, off, none⟩ : Addr).add j = ⟨b, off + j, none⟩ := by unfold Addr.add; split <;> simp_all
      have hq : j / E.size < m := Nat.div_lt_of_lt_mul (by rw [Nat.mul_comm]; exact hj)
      have hrr : j % E.size < E.size := Nat.mod_lt _ hE
      have ej : j / E.size * E.size + j % E.size = j := by rw [Nat.mul_comm]; exact Nat.div_add_mod _ _
      have g1 := E.cells_get ys (k := j / E.size) (j := j % E.size) (by omega) hrr
      have g2 := hr.cell (j / E.size) hq (j % E.size) hrr
      rw [ej] at g1 g2
      rw [hadd, g2, ← g1]
      exact hu'
    · have : (n + m) * bytes ≤ (n + m) * 64 := Nat.mul_le_mul_left _ hby
      omega
    · intro g cap w' hown' hg _ _
      refine h _ cap w' ⟨by simp [hl, hrl], by rw [E.cells_app]; exact hown'⟩ ((Below.refl B w).grown hg hB fun k hk => ?_)
      rcases hown.form with ⟨rfl, _⟩ | ⟨g, rfl, hbg, _⟩
      · simp [Value.ownBlock] at hk
      · simp [Value.ownBlock] at hk; omega
end

theorem asc_le {xs : List Int} (h : xs.Pairwise (· < ·)) (n : Nat) : (xs.take n).Pairwise (· ≤ ·) := (h.imp fun h => Int.le_of_lt h).sublist (List.take_sublist n xs)
set_option maxRecDepth 100000 in
set_option maxHeartbeats 4000000 in
theorem With_any (A : Option Addr) (n c : Nat) (xs : List Int) (x : Int) (w : World) (h : R E1 w A n c xs) :
    Calls Try.prog 54 #[.slice A n c, .int .i64 x] w (RowPost (withE xs x) (withV xs x) w) := by
  have H := hide h
  by_cases he : errW xs = 0
  · have HE := hide he
    have hV := errW_vw.1 he
    have hl := h.length
    have hn1 : 1 ≤ n := by rw [← hl]; exact hV.1
    have hn4 : n ≤ 4 := by rw [← hl]; exact hV.2.1
    have HL := hide hl
    have HAS := hide (asc_le hV.2.2.2 n)
    have hps := posW_le xs x
    rw [hl] at hps
    have HPS := hide hps
    have htk : xs.take n = xs := by rw [← hl]; exact List.take_length
    have HCP := hide (show (xs.take n).countP (fun y => decide (y < x)) = posW xs x from by rw [htk]; rfl)
    obtain ⟨b, off, hr⟩ := h
    obtain rfl := hr.at_ (by omega)
    have HRR := hide hr
    by_cases hx : x ∈ xs
    · have HC := hide (show (xs.take n).contains x = true from by rw [htk]; simpa using hx)
      have HT := hide (withE_in he hx)
      have HTV := hide (withV_no (xs := xs) (x := x) (by rw [withE_in he hx]; decide))
      clear he hV hl hps htk hr hx
      go_enter Try.func54, Try.ntmps54
      go_wp2_with (first
        | (go_at_call 25; refine (Validate_any _ _ _ xs _ H.out).mono ?_; rintro e w1 ⟨rfl, rfl⟩; rw [HE.out])
        | (go_at_call 78; refine (Any.slices_BinarySearch_int seaLays b off n c xs x _ (by have := HL.out; omega) (by omega) (fun j hj => c1 HRR.out (by have := HL.out; omega)) HAS.out).mono ?_; rintro e w2 ⟨rfl, q2, rfl⟩; rw [HCP.out, HC.out]))
      go_ret2
      exact ⟨none, 0, 0, by rw [HT.out]; rfl, by rw [HTV.out]; exact Own.nil _ _ _ _, below_drewN (Below.refl _ _) q2⟩
    · have HC := hide (show (xs.take n).contains x = false from by rw [htk]; simpa using hx)
      have HT := hide (withE_new he hx)
      by_cases h0 : errW (withL xs x) = 0
      · have H0 := hide h0
        have HTV := hide (withV_ok (xs := xs) (x := x) (by rw [withE_new he hx]; exact h0))
        clear he hV hl hps htk hr hx h0
        go_enter Try.func54, Try.ntmps54
        go_wp2_with (first
          | (go_at_call 25; refine (Validate_any _ _ _ (withL xs x) _ O4.out.row).mono ?_; rintro e w5 ⟨rfl, rfl⟩; rw [H0.out])
          | (go_at_call 25; refine (Validate_any _ _ _ xs _ H.out).mono ?_; rintro e w1 ⟨rfl, rfl⟩; rw [HE.out])
          | (go_at_call 78; refine (Any.slices_BinarySearch_int seaLays b off n c xs x _ (by have := HL.out; omega) (by omega) (fun j hj => c1 HRR.out (by have := HL.out; omega)) HAS.out).mono ?_; rintro e w2 ⟨rfl, q2, rfl⟩; rw [HCP.out, HC.out])
          | (go_at_call 77; refine (CloneI_any _ n c xs _ (H.out.drewN q2) (by omega)).mono ?_; rintro e w3 ⟨A3, c3, rfl, o3, b3⟩; obtain ⟨g, rfl, hg, hg2, hg3, hg4⟩ := o3.addr (by omega); have O3 := hide o3; have B3 := hide ((below_drewN (Below.refl w.heap.size w) q2).trans b3); have hg6 : w.heap.size ≤ w3.heap.size := b3.size; clear o3 b3)
          | (go_at_call 79; refine (InsertI_any _ w.heap.size n c3 (posW xs x) w3.heap.size x xs _ (O3.out.alloc _) (Own.lit w3 [x] hg6 (by unfold maxLen; simp)) (by intro e; injection e with e; injection e with e; omega) HPS.out (by omega) (by simp; omega)).mono ?_; rintro e w4 ⟨A4, c4, rfl, o4, b4⟩; have O4 := hide (show Own E1 w4 w.heap.size 3 A4 (n + 1) c4 (withL xs x) from o4); have B4 := hide ((B3.out.alloc hg6 _).trans b4); clear o4 b4))
        go_ret2
        exact ⟨_, _, _, by rw [HT.out, H0.out]; rfl, by rw [HTV.out]; exact O4.out, B4.out⟩
      · have hne : (errW (withL xs x) != 0) = true := by simpa using h0
        have HTV := hide (withV_no (xs := xs) (x := x) (by rw [withE_new he hx]; exact h0))
        clear he hV hl hps htk hr hx h0
        go_enter Try.func54, Try.ntmps54
        go_wp2_with (first
          | (go_at_call 25; refine (Validate_any _ _ _ (withL xs x) _ O4.out.row).mono ?_; rintro e w5 ⟨rfl, rfl⟩)
          | (go_at_call 25; refine (Validate_any _ _ _ xs _ H.out).mono ?_; rintro e w1 ⟨rfl, rfl⟩; rw [HE.out])
          | (go_at_call 78; refine (Any.slices_BinarySearch_int seaLays b off n c xs x _ (by have := HL.out; omega) (by omega) (fun j hj => c1 HRR.out (by have := HL.out; omega)) HAS.out).mono ?_; rintro e w2 ⟨rfl, q2, rfl⟩; rw [HCP.out, HC.out])
          | (go_at_call 77; refine (CloneI_any _ n c xs _ (H.out.drewN q2) (by omega)).mono ?_; rintro e w3 ⟨A3, c3, rfl, o3, b3⟩; obtain ⟨g, rfl, hg, hg2, hg3, hg4⟩ := o3.addr (by omega); have O3 := hide o3; have B3 := hide ((below_drewN (Below.refl w.heap.size w) q2).trans b3); have hg6 : w.heap.size ≤ w3.heap.size := b3.size; clear o3 b3)
          | (go_at_call 79; refine (InsertI_any _ w.heap.size n c3 (posW xs x) w3.heap.size x xs _ (O3.out.alloc _) (Own.lit w3 [x] hg6 (by unfold maxLen; simp)) (by intro e; injection e with e; injection e with e; omega) HPS.out (by omega) (by simp; omega)).mono ?_; rintro e w4 ⟨A4, c4, rfl, o4, b4⟩; have O4 := hide (show Own E1 w4 w.heap.size 3 A4 (n + 1) c4 (withL xs x) from o4); have B4 := hide ((B3.out.alloc hg6 _).trans b4); clear o4 b4))
        go_ret2
        exact ⟨none, 0, 0, by rw [HT.out]; rfl, by rw [HTV.out]; exact Own.nil _ _ _ _, B4.out⟩
  · have HT := hide (withE_no (x := x) he)
    have HTV := hide (withV_no (xs := xs) (x := x) (by rw [withE_no he]; exact he))
    have hne : (errW xs != 0) = true := by simpa using he
    clear he h
    go_enter Try.func54, Try.ntmps54
    go_wp2_with (go_at_call 25; refine (Validate_any _ _ _ xs _ H.out).mono ?_; rintro e w1 ⟨rfl, rfl⟩)
    go_ret2
    exact ⟨none, 0, 0, by rw [HT.out]; rfl, by rw [HTV.out]; exact Own.nil _ _ _ _, Below.refl _ _⟩
end Go.Proofs.Ytlhlcchimammlaa
