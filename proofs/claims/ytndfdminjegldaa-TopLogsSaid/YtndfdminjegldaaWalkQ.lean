/- Two logs and costs exchanged: on both sides. -/
import Derived.Test.YtndfdminjegldaaWalkL
import Derived.Deep.RegionHeldLaw
namespace Go.Proofs.Ytndfdminjegldaa
open Go.RowKit Go.Shelf
attribute [local go_sem] Oper.semAt_some

section
variable {α : Type} {E : Enc α} {P : Program} (w : World) {ops : Array Oper} {o : Oper} {a : Act} {K : Act → World → Prop} {Q : Exit → Act → World → Prop} {F : Prop}
/-- out = append(out, xs...) at a step of a region that draws its order. -/
theorem step_appG (z : Value) (bytes : Nat) (hgd : o.guard = none) (s x : Operand) (t e : TypeId) (ho : o.op = .call { callee := .builtin .append, args := #[s, x], argTypes := #[t, t] })
    (hu : P.underlying t = some (.slice e)) (hinfo : (P.info? e).map (fun i => (i.zero, i.size, i.bytes)) = some (some z, E.size, bytes)) (hz : z.cells.size = E.size) (hE : 0 < E.size) (hby : bytes ≤ 64)
    (B n c : Nat) (A : Option Addr) (l : List α) (A2 : Option Addr) (m c2 : Nat) (ys : List α) (hs : a.eval s = .slice A n c) (hx : a.eval x = .slice A2 m c2)
    (hown : Own E w B e A n c l) (hrow : R E w A2 m c2 ys) (hm2 : m ≤ 1000000) (hn : n ≤ 1000000) (hB : B ≤ w.heap.size)
    (h : ∀ A' c' w', Own E w' B e A' (n + m) c' (l ++ ys) → Below B w w' → w.grownBy w' (Value.slice A n c).ownBlock → (A' = A ∨ ∃ g', A' = some ⟨g', 0, none⟩ ∧ w.heap.size ≤ g') → K (a.put o.dst (.slice A' (n + m) c')) w') :
    if Region.wanted o (yielded ops a.tmps) = true then Oper.wp P o a w K Q else F := by
  obtain ⟨i0, hi, hz0, hz1, hz2⟩ := info_parts hinfo
  by_cases hm : m = 0
  · subst hm
    obtain rfl : ys = [] := List.eq_nil_of_length_eq_zero hrow.length
    have hrun : (Builtin.append_ #[t, t] o.type #[.slice A n c, .slice A2 0 c2]).run P w = .ok (.slice A n c) w := by
      rcases hown.form with ⟨rfl, rfl, rfl, _⟩ | ⟨g, rfl, _, _, hnc, _⟩
      · cases A2 <;> simp [Builtin.append_, run_underlying hu, sizeOf, typeInfo, hi, Builtin.lenOf, Builtin.firstCells, loadCells, loadCellsFrom, storeCells]
      · cases A2 <;> simp [Builtin.append_, run_underlying hu, sizeOf, typeInfo, hi, Builtin.lenOf, Builtin.firstCells, loadCells, loadCellsFrom, storeCells, hnc]
    have hw : Region.wanted o (yielded ops a.tmps) = true := by simp [Region.wanted, hgd]
    rw [if_pos hw]
    unfold Oper.wp
    simp [execOp, ho, resolve, invoke, builtin, hs, hx, hrun, Result.andThen]
    exact h _ _ w (by rw [List.append_nil]; exact hown) (Below.refl _ _) (gb_refl _ _) (.inl rfl)
  · obtain ⟨b, off, hr⟩ := hrow
    have hA := hr.at_ (by omega)
    subst hA
    have hrl := hr.len
    have hl := hown.len
    refine step_append_lies w hgd s x t ho B e i0 z E.size bytes hu hi hz0 hz1 hz2 hz hE _ n (E.cells l) hs hown.2 ⟨b, off, none⟩ m c2 (E.cells ys) hx (by rw [E.cells_len, hrl]) ?_ (E.cells_one ys) (by omega) (by unfold maxLen; omega) ?_ hB _ rfl ?_
    · intro j u hu'
      have hj := (List.getElem?_eq_some_iff.1 hu').1
      rw [E.cells_len, hrl] at hj
      have hadd : (⟨b, off, none⟩ : Addr).add j = ⟨b, off + j, none⟩ := by unfold Addr.add; split <;> simp_all
      have hq : j / E.size < m := Nat.div_lt_of_lt_mul (by rw [Nat.mul_comm]; exact hj)
      have hrr : j % E.size < E.size := Nat.mod_lt _ hE
      have ej : j / E.size * E.size + j % E.size = j := by rw [Nat.mul_comm]; exact Nat.div_add_mod _ _
      have g1 := E.cells_get ys (k := j / E.size) (j := j % E.size) (by omega) hrr
      have g2 := hr.cell (j / E.size) hq (j % E.size) hrr
      rw [ej] at g1 g2
      rw [hadd, g2, ← g1]
      exact hu'
    · have : (n + m) * bytes ≤ (n + m) * 64 := Nat.mul_le_mul_left _ hby
      omega
    · intro g cap w' hown' hg hgo _
      refine h _ cap w' ⟨by simp [hl, hrl], by rw [E.cells_app]; exact hown'⟩ ((Below.refl B w).grown hg hB fun k hk => ?_) hg ?_
      · rcases hown.form with ⟨rfl, _⟩ | ⟨g, rfl, hbg, _⟩
        · simp [Value.ownBlock] at hk
        · simp [Value.ownBlock] at hk; omega
      · rcases hgo with h1 | h1
        · rcases hown.form with ⟨rfl, _⟩ | ⟨g', rfl, hbg, _⟩
          · simp [Value.ownBlock] at h1
          · simp [Value.ownBlock] at h1
            left
            rw [h1]
        · right
          exact ⟨g, rfl, by rw [h1]; exact Nat.le_refl _⟩
end
def swL (xs ys : List Int) (c : Cst) : List Int := if errD xs ys c = 0 then ys else []
def swM (xs ys : List Int) (c : Cst) : List Int := if errD xs ys c = 0 then xs else []
def swC (xs ys : List Int) (c : Cst) : Cst := if errD xs ys c = 0 then c.swap else ⟨0, 0, 0⟩
theorem sw_ok {xs ys : List Int} {c : Cst} (h : errD xs ys c = 0) : swL xs ys c = ys ∧ swM xs ys c = xs ∧ swC xs ys c = c.swap := ⟨if_pos h, if_pos h, if_pos h⟩
theorem sw_no {xs ys : List Int} {c : Cst} (h : errD xs ys c ≠ 0) : swL xs ys c = [] ∧ swM xs ys c = [] ∧ swC xs ys c = ⟨0, 0, 0⟩ := ⟨if_neg h, if_neg h, if_neg h⟩
def SwpPost (l m : List Int) (d : Cst) (er : Int) (w : World) (e : Ending) (w' : World) : Prop :=
  ∃ A n c A' n' c', e = .returned (.tuple #[.slice A n c, .slice A' n' c', cV d.o d.i d.h, .int .i64 er]) ∧ Own E1 w' w.heap.size 3 A n c l ∧ Own E1 w' w.heap.size 3 A' n' c' m ∧ Below w.heap.size w w'
theorem bk_three {w : World} {g : Nat} {t : TypeId} {a b c : Value} (h : Bk w g t #[a, b, c]) : w.cell? ⟨g, 0, none⟩ = some a ∧ w.cell? ⟨g, 1, none⟩ = some b ∧ w.cell? ⟨g, 2, none⟩ = some c := ⟨h.at_ 0, h.at_ 1, h.at_ 2⟩
theorem Bk.set3 {w : World} {g : Nat} {t : TypeId} {a b c : Value} (h : Bk w g t #[a, b, c]) (x y z : Value) : Bk (((w.setCell ⟨g, 0, none⟩ x).setCell ⟨g, 1, none⟩ y).setCell ⟨g, 2, none⟩ z) g t #[x, y, z] := by
  have := ((h.put 0 x).put 1 y).put 2 z
  simpa using this
theorem below_set3 {B g : Nat} {a w : World} (h : Below B a w) (hg : B ≤ g) (x y z : Value) : Below B a (((w.setCell ⟨g, 0, none⟩ x).setCell ⟨g, 1, none⟩ y).setCell ⟨g, 2, none⟩ z) :=
  ((h.setCell (p := ⟨g, 0, none⟩) hg x).setCell (p := ⟨g, 1, none⟩) hg y).setCell (p := ⟨g, 2, none⟩) hg z
/-- A block that lies behind what came before keeps a row that lies behind it. -/
theorem own_set3 {w : World} {B g n c : Nat} {e : TypeId} {A : Option Addr} {l : List Int} (h : Own E1 w B e A n c l) (hg : g < B) (x y z : Value) : Own E1 (((w.setCell ⟨g, 0, none⟩ x).setCell ⟨g, 1, none⟩ y).setCell ⟨g, 2, none⟩ z) B e A n c l :=
  own_other (own_other (own_other h hg 0 x) hg 1 y) hg 2 z
theorem app_ne {A' : Option Addr} {g0 S x : Nat} (h : A' = some ⟨g0, 0, none⟩ ∨ ∃ g', A' = some ⟨g', 0, none⟩ ∧ S ≤ g') (hx : x < S) (h0 : g0 ≠ x) {n c n' c' : Nat} : (Value.slice (some ⟨x, 0, none⟩) n c).ownBlock ≠ (Value.slice A' n' c').ownBlock := by
  rcases h with rfl | ⟨g', rfl, hg⟩
  · simp [Value.ownBlock]; omega
  · simp [Value.ownBlock]; omega
theorem size_setCell (w : World) (p : Addr) (v : Value) : (w.setCell p v).heap.size = w.heap.size := by simp
set_option maxRecDepth 100000 in
set_option maxHeartbeats 4000000 in
theorem Swap_any (A : Option Addr) (n c : Nat) (xs : List Int) (A' : Option Addr) (n' c' : Nat) (ys : List Int) (o i h : Int) (w : World) (hx : R E1 w A n c xs) (hy : R E1 w A' n' c' ys) :
    Calls Try.prog 49 #[.slice A n c, .slice A' n' c', cV o i h] w (SwpPost (swL xs ys ⟨o, i, h⟩) (swM xs ys ⟨o, i, h⟩) (swC xs ys ⟨o, i, h⟩) (errD xs ys ⟨o, i, h⟩) w) := by
  have hs1 : (w.alloc (.cells #[.int .i64 o, .int .i64 i, .int .i64 h] 24)).heap.size = w.heap.size + 1 := by simp
  have hs2 : ((w.alloc (.cells #[.int .i64 o, .int .i64 i, .int .i64 h] 24)).alloc (.cells #[.int .i64 0, .int .i64 0, .int .i64 0] 24)).heap.size = w.heap.size + 2 := by simp
  have BX := hide (((Below.refl w.heap.size w).alloc (Nat.le_refl _) (.cells #[.int .i64 o, .int .i64 i, .int .i64 h] 24)).alloc (by omega) (.cells #[.int .i64 0, .int .i64 0, .int .i64 0] 24))
  have HBK := hide ((Bk.born w 24 #[.int .i64 o, .int .i64 i, .int .i64 h]).more (.cells #[.int .i64 0, .int .i64 0, .int .i64 0] 24))
  have HRK := hide (Bk.born (w.alloc (.cells #[.int .i64 o, .int .i64 i, .int .i64 h] 24)) 24 #[.int .i64 0, .int .i64 0, .int .i64 0])
  rw [hs1] at HRK
  have HX := hide (hx.below BX.out (Nat.le_refl _))
  have HY := hide (hy.below BX.out (Nat.le_refl _))
  have hx0 := hide hx
  have hy0 := hide hy
  clear hs1
  by_cases he : errD xs ys ⟨o, i, h⟩ = 0
  · have HE := hide he
    obtain ⟨v1, v2, v3⟩ := sw_ok he
    have HV1 := hide v1
    have HV2 := hide v2
    have HV3 := hide v3
    obtain ⟨h1, h2, h3⟩ := errD_ok.1 he
    have hn : n ≤ 10 := by rw [← hx.length]; exact (errL_ok.1 h1).1
    have hn' : n' ≤ 10 := by rw [← hy.length]; exact (errL_ok.1 h2).1
    clear hx hy he h1 h2 h3 v1 v2 v3
    go_enter Try.func49, Try.ntmps49
    go_upto_region 5 with (go_at_call 55; refine (validateAll_any A n c xs A' n' c' ys o i h _ HX.out HY.out).mono ?_; rintro e1 w1 ⟨rfl, b1⟩; rw [HE.out]; have K1 := hide (HBK.out.keep b1 (by omega)); have R1 := hide (HRK.out.keep b1 (by omega)); obtain ⟨k0, k1, k2⟩ := bk_three K1.out; have fz0 := K1.out.fr 0; have fz1 := K1.out.fr 1; have X1 := hide (HX.out.below b1 (Nat.le_refl _)); have Y1 := hide (HY.out.below b1 (Nat.le_refl _)); have D1 := hide (BX.out.trans (b1.mono (by omega))); have hz1 := b1.size; clear b1)
    have K2 := hide (show Bk ((w1.setCell ⟨w.heap.size, 0, none⟩ (.int .i64 i)).setCell ⟨w.heap.size, 1, none⟩ (.int .i64 o)) w.heap.size 24 #[.int .i64 i, .int .i64 o, .int .i64 h] from by have := (K1.out.put 0 (.int .i64 i)).put 1 (.int .i64 o); simpa using this)
    have R2 := hide ((R1.out.apart (p := ⟨w.heap.size, 0, none⟩) (by simp) (.int .i64 i)).apart (p := ⟨w.heap.size, 1, none⟩) (by simp) (.int .i64 o))
    have D2 := hide ((D1.out.setCell (p := ⟨w.heap.size, 0, none⟩) (Nat.le_refl _) (.int .i64 i)).setCell (p := ⟨w.heap.size, 1, none⟩) (Nat.le_refl _) (.int .i64 o))
    have hbx : w.heap.size ≤ w.heap.size := Nat.le_refl _
    have X2 := hide ((hx0.out.below D2.out (Nat.le_refl _)))
    have Y2 := hide ((hy0.out.below D2.out (Nat.le_refl _)))
    have hz2 : w.heap.size + 2 ≤ ((w1.setCell ⟨w.heap.size, 0, none⟩ (.int .i64 i)).setCell ⟨w.heap.size, 1, none⟩ (.int .i64 o)).heap.size := by simp only [size_setCell]; omega
    generalize (w1.setCell ⟨w.heap.size, 0, none⟩ (.int .i64 i)).setCell ⟨w.heap.size, 1, none⟩ (.int .i64 o) = W at *
    clear k0 k1 k2 fz0 fz1 K1 R1 D1 X1 Y1 HBK HRK HX HY BX hz1 hs2
    obtain ⟨p0, p1, p2⟩ := bk_three K2.out
    go_region_law (first
      | (have hgd := O8; clear hgd; go_simp; go_at_call 79; refine (CloneI_any A n c xs w8 (hx0.out.below D8.out (Nat.le_refl _)) (by omega)).mono ?_; rintro e9 w9 ⟨A9, c9, rfl, o9, b9⟩; have K9 := hide (K8.out.keep b9 K8.out.in_); have R9 := hide (R8.out.keep b9 R8.out.in_); have O89 := hide (O8.out.below b9 (Nat.le_refl _)); have O9 := hide (o9.more (B' := w.heap.size + 2) (by have := R8.out.in_; omega)); have D9 := hide (le_call D8.out b9); obtain ⟨p0, p1, p2⟩ := bk_three K9.out; obtain ⟨r0, r1, r2⟩ := bk_three R9.out; have f0 := R9.out.fr 0; have f1 := R9.out.fr 1; have f2 := R9.out.fr 2; clear o9 b9)
      | (go_simp; go_at_call 79; refine (CloneI_any A' n' c' ys W.drew (show R E1 W.drew A' n' c' ys from Y2.out.drewN 1) (by omega)).mono ?_; rintro e8 w8 ⟨A8, c8, rfl, o8, b8⟩; have K8 := hide (K2.out.draw.keep b8 (by simp; omega)); have R8 := hide (R2.out.draw.keep b8 (by simp; omega)); have O8 := hide (o8.more (B' := w.heap.size + 2) (by simp; omega)); have D8 := hide (le_call D2.out.drew b8); obtain ⟨p0, p1, p2⟩ := bk_three K8.out; clear o8 b8))
    all_goals
      obtain ⟨z0, z1, z2⟩ := bk_three (R9.out.set3 (.int .i64 i) (.int .i64 o) (.int .i64 h))
      go_wp2_with fail
      refine bodyPost_ret (v := .tuple #[.slice A8 n' c8, .slice A9 n c9, cV i o h, .int .i64 0]) ?_ rfl ⟨A8, n', c8, A9, n, c9, by rw [HV3.out, HE.out]; rfl, by rw [HV1.out]; exact (own_set3 O89.out (by omega) _ _ _).more (by omega), by rw [HV2.out]; exact (own_set3 O9.out (by omega) _ _ _).more (by omega), below_set3 D9.out (by omega) _ _ _⟩
      simp [results, Try.results49, go_sem, z0, z1, z2]
  · obtain ⟨v1, v2, v3⟩ := sw_no he
    have HV1 := hide v1
    have HV2 := hide v2
    have HV3 := hide v3
    have hne : (errD xs ys ⟨o, i, h⟩ != 0) = true := by simpa using he
    clear hx hy he v1 v2 v3
    go_enter Try.func49, Try.ntmps49
    go_wp2_with (go_at_call 55; refine (validateAll_any A n c xs A' n' c' ys o i h _ HX.out HY.out).mono ?_; rintro e1 w1 ⟨rfl, b1⟩; have R1 := hide (HRK.out.keep b1 (by omega)); obtain ⟨r0, r1, r2⟩ := bk_three R1.out; have f0 := R1.out.fr 0; have f1 := R1.out.fr 1; have f2 := R1.out.fr 2; obtain ⟨z0, z1, z2⟩ := bk_three (R1.out.set3 (.int .i64 0) (.int .i64 0) (.int .i64 0)); have D1 := hide (BX.out.trans (b1.mono (by omega))); clear b1)
    refine bodyPost_ret (v := .tuple #[.slice none 0 0, .slice none 0 0, cV 0 0 0, .int .i64 (errD xs ys ⟨o, i, h⟩)]) ?_ rfl ⟨none, 0, 0, none, 0, 0, by rw [HV3.out], by rw [HV1.out]; exact Own.nil _ _ _ _, by rw [HV2.out]; exact Own.nil _ _ _ _, below_set3 D1.out (by omega) _ _ _⟩
    simp [results, Try.results49, go_sem, z0, z1, z2]
set_option maxRecDepth 100000 in
set_option maxHeartbeats 4000000 in
theorem rSwap_any (A : Option Addr) (n c : Nat) (xs : List Int) (A' : Option Addr) (n' c' : Nat) (ys : List Int) (o i h : Int) (w : World) (hx : R E1 w A n c xs) (hy : R E1 w A' n' c' ys) :
    Calls Try.prog 50 #[.slice A n c, .slice A' n' c', cV o i h] w (SwpPost (swL xs ys ⟨o, i, h⟩) (swM xs ys ⟨o, i, h⟩) (swC xs ys ⟨o, i, h⟩) (errD xs ys ⟨o, i, h⟩) w) := by
  have hs1 : (w.alloc (.cells #[.int .i64 o, .int .i64 i, .int .i64 h] 24)).heap.size = w.heap.size + 1 := by simp
  have hs2 : ((w.alloc (.cells #[.int .i64 o, .int .i64 i, .int .i64 h] 24)).alloc (.cells #[.int .i64 0, .int .i64 0, .int .i64 0] 24)).heap.size = w.heap.size + 2 := by simp
  have BX := hide (((Below.refl w.heap.size w).alloc (Nat.le_refl _) (.cells #[.int .i64 o, .int .i64 i, .int .i64 h] 24)).alloc (by omega) (.cells #[.int .i64 0, .int .i64 0, .int .i64 0] 24))
  have HBK := hide ((Bk.born w 24 #[.int .i64 o, .int .i64 i, .int .i64 h]).more (.cells #[.int .i64 0, .int .i64 0, .int .i64 0] 24))
  have HRK := hide (Bk.born (w.alloc (.cells #[.int .i64 o, .int .i64 i, .int .i64 h] 24)) 24 #[.int .i64 0, .int .i64 0, .int .i64 0])
  rw [hs1] at HRK
  have HX := hide (hx.below BX.out (Nat.le_refl _))
  have HY := hide (hy.below BX.out (Nat.le_refl _))
  have hx0 := hide hx
  have hy0 := hide hy
  clear hs1
  by_cases he : errD xs ys ⟨o, i, h⟩ = 0
  · have HE := hide he
    obtain ⟨v1, v2, v3⟩ := sw_ok he
    have HV1 := hide v1
    have HV2 := hide v2
    have HV3 := hide v3
    obtain ⟨h1, h2, h3⟩ := errD_ok.1 he
    have hn : n ≤ 10 := by rw [← hx.length]; exact (errL_ok.1 h1).1
    have hn' : n' ≤ 10 := by rw [← hy.length]; exact (errL_ok.1 h2).1
    clear hx hy he h1 h2 h3 v1 v2 v3
    go_enter Try.func50, Try.ntmps50
    go_upto_region 4 with (go_at_call 57; refine (rcosted_any A n c xs A' n' c' ys o i h _ HX.out HY.out).mono ?_; rintro e1 W ⟨rfl, b1⟩; rw [HE.out]; have K1 := hide (HBK.out.keep b1 (by omega)); have R1 := hide (HRK.out.keep b1 (by omega)); have D1 := hide (BX.out.trans (b1.mono (by omega))); have hz1 := b1.size; clear b1)
    have hz2 : w.heap.size + 2 ≤ W.heap.size := by omega
    clear HBK HRK HX HY BX hz1 hs2
    obtain ⟨p0, p1, p2⟩ := bk_three K1.out
    have hk1 := K1.out.in_
    have HA := hide (fun (W1 : World) (hb : Below W.heap.size W W1) => (hy0.out.below D1.out (Nat.le_refl _)).below hb (Nat.le_refl _))
    have HB := hide (fun (W1 : World) (hb : Below W.heap.size W W1) => (hx0.out.below D1.out (Nat.le_refl _)).below hb (Nat.le_refl _))
    have BW1 := hide (show Below W.heap.size W (W.drew.alloc (.cells #[] 3)) from ((Below.refl W.heap.size W).drew).alloc (Nat.le_refl _) _)
    have BW2 := hide (show Below W.heap.size W ((W.drew.alloc (.cells #[] 3)).alloc (.cells #[] 3)) from BW1.out.alloc (by have : W.drew.heap.size = W.heap.size := rfl; simp) _)
    have e1 : (W.drew.alloc (.cells #[] 3)).heap.size = W.heap.size + 1 := by have : W.drew.heap.size = W.heap.size := rfl; simp
    have HO1 := hide (show Own E1 (W.drew.alloc (.cells #[] 3)) W.heap.size 3 (some ⟨W.heap.size, 0, none⟩) 0 0 [] from Own.lit W.drew [] (Nat.le_refl _) (by simp))
    have HO2 := hide (HO1.out.alloc (.cells #[] 3))
    have HO3 := hide (show Own E1 ((W.drew.alloc (.cells #[] 3)).alloc (.cells #[] 3)) W.heap.size 3 (some ⟨W.heap.size + 1, 0, none⟩) 0 0 [] from by have := Own.lit (B := W.heap.size) (E := E1) (e := 3) (W.drew.alloc (.cells #[] 3)) [] (by omega) (by simp); rw [e1] at this; exact this)
    have hzw1 : W.heap.size ≤ (W.drew.alloc (.cells #[] 3)).heap.size := by omega
    have hzw2 : W.heap.size ≤ ((W.drew.alloc (.cells #[] 3)).alloc (.cells #[] 3)).heap.size := by simp; omega
    obtain ⟨y0, y1, y2⟩ := bk_three (K1.out.keep BW1.out hk1)
    obtain ⟨y3, y4, y5⟩ := bk_three (K1.out.keep BW2.out hk1)
    have hD1 := D1
    have hx1 : W.heap.size + 1 < ((W.drew.alloc (.cells #[] 3)).alloc (.cells #[] 3)).heap.size := by simp only [Array.size_push, World.alloc] at e1 ⊢; omega
    have hx2 : W.heap.size < ((W.drew.alloc (.cells #[] 3)).alloc (.cells #[] 3)).heap.size := by omega
    clear e1
    go_region_held_law (fun w' => w'.cell? ⟨w.heap.size, 0, none⟩ = some (.int .i64 o) ∧ w'.cell? ⟨w.heap.size, 1, none⟩ = some (.int .i64 i) ∧ w'.cell? ⟨w.heap.size, 2, none⟩ = some (.int .i64 h))
      (first
        | exact bk_three K9.out
        | exact bk_three K8.out
        | exact bk_three (K8.out.more _)
        | exact bk_three K1.out
        | exact bk_three (K1.out.keep BW2.out hk1)
        | exact bk_three (K1.out.keep BW1.out hk1)
        | go_keep)
      (first
      | (have hgd := OX; clear hgd; refine step_appG (E := E1) w8 (.int .i64 0) 8 rfl (.tmp 22) (.tmp 23) 22 3 rfl Try.underlying22 info_int rfl (by decide) (by omega) W.heap.size 0 0 _ [] A n c xs rfl rfl OX.out (HB.out w8 B8.out) (by omega) (by omega) B8.out.size ?_; intro A9 c9 w9 o9 b9 r9 _; rw [Nat.zero_add] at o9 ⊢; have B9 := hide (B8.out.trans b9); have O89 := hide (O8.out.kept r9 (.inr HNE.out.symm)); have O9 := hide (show Own E1 w9 W.heap.size 3 A9 n c9 xs from o9); have K9 := hide (K1.out.keep B9.out hk1); obtain ⟨p0, p1, p2⟩ := bk_three K9.out; have R9 := hide (R1.out.keep B9.out (by omega)); obtain ⟨r0, r1, r2⟩ := bk_three R9.out; have f0 := R9.out.fr 0; have f1 := R9.out.fr 1; have f2 := R9.out.fr 2; clear o9 b9 r9)
      | (have hgd := O8; clear hgd; refine step_appG (E := E1) (w8.alloc (.cells #[] 3)) (.int .i64 0) 8 rfl (.tmp 22) (.tmp 23) 22 3 rfl Try.underlying22 info_int rfl (by decide) (by omega) w8.heap.size 0 0 (some ⟨w8.heap.size, 0, none⟩) [] A n c xs rfl rfl (Own.lit w8 [] (Nat.le_refl _) (by simp)) (HB.out _ (B8.out.alloc B8.out.size _)) (by omega) (by omega) (by simp) ?_; intro A9 c9 w9 o9 b9 r9 _; rw [Nat.zero_add] at o9 ⊢; have b89 := ((Below.refl w8.heap.size w8).alloc (Nat.le_refl _) (.cells #[] 3)).trans b9; have B9 := hide (le_call B8.out b89); have O89 := hide (O8.out.below b89 (Nat.le_refl _)); have O9 := hide (show Own E1 w9 W.heap.size 3 A9 n c9 xs from o9.more B8.out.size); have K9 := hide (K1.out.keep B9.out hk1); obtain ⟨p0, p1, p2⟩ := bk_three K9.out; have R9 := hide (R1.out.keep B9.out (by omega)); obtain ⟨r0, r1, r2⟩ := bk_three R9.out; have f0 := R9.out.fr 0; have f1 := R9.out.fr 1; have f2 := R9.out.fr 2; clear o9 b9 r9 b89)
      | (refine step_appG (E := E1) (W.drew.alloc (.cells #[] 3)) (.int .i64 0) 8 rfl (.tmp 19) (.tmp 20) 22 3 rfl Try.underlying22 info_int rfl (by decide) (by omega) W.heap.size 0 0 (some ⟨W.heap.size, 0, none⟩) [] A' n' c' ys rfl rfl HO1.out (HA.out _ BW1.out) (by omega) (by omega) hzw1 ?_; intro A8 c8 w8 o8 b8 r8 _; rw [Nat.zero_add] at o8 ⊢; have O8 := hide (show Own E1 w8 W.heap.size 3 A8 n' c8 ys from o8); have B8 := hide (BW1.out.trans b8); have K8 := hide (K1.out.keep B8.out hk1); obtain ⟨p0, p1, p2⟩ := bk_three K8.out; obtain ⟨s0, s1, s2⟩ := bk_three (K8.out.more (.cells #[] 3)); have hk8 := K8.out.in_; clear o8 b8 r8)
      | (refine step_appG (E := E1) ((W.drew.alloc (.cells #[] 3)).alloc (.cells #[] 3)) (.int .i64 0) 8 rfl (.tmp 19) (.tmp 20) 22 3 rfl Try.underlying22 info_int rfl (by decide) (by omega) W.heap.size 0 0 (some ⟨W.heap.size, 0, none⟩) [] A' n' c' ys rfl rfl HO2.out (HA.out _ BW2.out) (by omega) (by omega) hzw2 ?_; intro A8 c8 w8 o8 b8 r8 e8; rw [Nat.zero_add] at o8 ⊢; have O8 := hide (show Own E1 w8 W.heap.size 3 A8 n' c8 ys from o8); have OX := hide (HO3.out.kept r8 (.inr (by simp [Value.ownBlock]))); have B8 := hide (BW2.out.trans b8); have HNE := hide (show (Value.slice (some ⟨W.heap.size + 1, 0, none⟩) 0 0).ownBlock ≠ (Value.slice A8 n' c8).ownBlock from app_ne e8 hx1 (by omega)); have K8 := hide (K1.out.keep B8.out hk1); obtain ⟨p0, p1, p2⟩ := bk_three K8.out; have hk8 := K8.out.in_; clear o8 b8 r8 e8)
      | (refine step_appG (E := E1) ((W.drew.alloc (.cells #[] 3)).alloc (.cells #[] 3)) (.int .i64 0) 8 rfl (.tmp 19) (.tmp 20) 22 3 rfl Try.underlying22 info_int rfl (by decide) (by omega) W.heap.size 0 0 (some ⟨W.heap.size + 1, 0, none⟩) [] A' n' c' ys rfl rfl HO3.out (HA.out _ BW2.out) (by omega) (by omega) hzw2 ?_; intro A8 c8 w8 o8 b8 r8 e8; rw [Nat.zero_add] at o8 ⊢; have O8 := hide (show Own E1 w8 W.heap.size 3 A8 n' c8 ys from o8); have OX := hide (HO2.out.kept r8 (.inr (by simp [Value.ownBlock]))); have B8 := hide (BW2.out.trans b8); have HNE := hide (show (Value.slice (some ⟨W.heap.size, 0, none⟩) 0 0).ownBlock ≠ (Value.slice A8 n' c8).ownBlock from app_ne e8 hx2 (by omega)); have K8 := hide (K1.out.keep B8.out hk1); obtain ⟨p0, p1, p2⟩ := bk_three K8.out; have hk8 := K8.out.in_; clear o8 b8 r8 e8))
    all_goals
      obtain ⟨z0, z1, z2⟩ := bk_three (R9.out.set3 (.int .i64 i) (.int .i64 o) (.int .i64 h))
      go_wp2_with fail
      refine bodyPost_ret (v := .tuple #[.slice A8 n' c8, .slice A9 n c9, cV i o h, .int .i64 0]) ?_ rfl ⟨A8, n', c8, A9, n, c9, by rw [HV3.out, HE.out]; rfl, by rw [HV1.out]; exact (own_set3 O89.out (by omega) _ _ _).more (by omega), by rw [HV2.out]; exact (own_set3 O9.out (by omega) _ _ _).more (by omega), below_set3 (hD1.out.trans (B9.out.mono (by omega))) (by omega) _ _ _⟩
      simp [results, Try.results50, go_sem, z0, z1, z2]
  · obtain ⟨v1, v2, v3⟩ := sw_no he
    have HV1 := hide v1
    have HV2 := hide v2
    have HV3 := hide v3
    have hne : (errD xs ys ⟨o, i, h⟩ != 0) = true := by simpa using he
    clear hx hy he v1 v2 v3
    go_enter Try.func50, Try.ntmps50
    go_wp2_with (go_at_call 57; refine (rcosted_any A n c xs A' n' c' ys o i h _ HX.out HY.out).mono ?_; rintro e1 w1 ⟨rfl, b1⟩; have R1 := hide (HRK.out.keep b1 (by omega)); obtain ⟨r0, r1, r2⟩ := bk_three R1.out; have f0 := R1.out.fr 0; have f1 := R1.out.fr 1; have f2 := R1.out.fr 2; obtain ⟨z0, z1, z2⟩ := bk_three (R1.out.set3 (.int .i64 0) (.int .i64 0) (.int .i64 0)); have D1 := hide (BX.out.trans (b1.mono (by omega))); clear b1)
    refine bodyPost_ret (v := .tuple #[.slice none 0 0, .slice none 0 0, cV 0 0 0, .int .i64 (errD xs ys ⟨o, i, h⟩)]) ?_ rfl ⟨none, 0, 0, none, 0, 0, by rw [HV3.out], by rw [HV1.out]; exact Own.nil _ _ _ _, by rw [HV2.out]; exact Own.nil _ _ _ _, below_set3 D1.out (by omega) _ _ _⟩
    simp [results, Try.results50, go_sem, z0, z1, z2]
end Go.Proofs.Ytndfdminjegldaa
