/- append to a row that is read again: where the new row lies, and that the old one stays. -/
import Derived.Test.YtkjnhdkbojcojaaOwn
import Derived.ArgAppend
import Derived.Deep.AppendLies
namespace Go.Proofs.Ytkjnhdkbojcojaa
open Go.RowKit

section
variable {α : Type} {E : Enc α} {w : World} {B n c g : Nat} {e : TypeId} {l : List α} {y : α}
theorem own_pre (h : Own E w B e (some ⟨g, 0, none⟩) (n + 1) c (l ++ [y])) : Own E w B e (some ⟨g, 0, none⟩) n c l := by
  have hl : l.length = n := by have := h.1; simpa using this
  refine ⟨hl, by rw [E.cells_len, hl], ?_⟩
  rcases h.2.2 with ⟨h1, _⟩ | ⟨g', cap, cur, hv, hb, hg, hnc, hcm, hcs, ht⟩
  · simp at h1
  · simp at hv
    obtain ⟨rfl, rfl⟩ := hv
    refine .inr ⟨g, c, cur, rfl, hb, hg, by omega, hcm, hcs, ?_⟩
    have e1 := congrArg (List.take (n * E.size)) ht
    rw [List.take_take, Nat.min_eq_left (Nat.mul_le_mul_right _ (by omega)), E.cells_app] at e1
    rw [e1, ← hl, ← E.cells_len]
    exact List.take_left
variable {P : Program} (w)
theorem run_app1_both (z : Value) (bytes : Nat) (t ty : TypeId) (hu : P.underlying t = some (.slice e)) (hinfo : (P.info? e).map (fun i => (i.zero, i.size, i.bytes)) = some (some z, E.size, bytes)) (hz : z.cells.size = E.size) (hE : 0 < E.size) (hby : bytes ≤ 64)
    (hown : Own E w B e (some ⟨g, 0, none⟩) n c l) (hn : n ≤ 1000000000) (hB : B ≤ w.heap.size) (y : α) :
    ∃ g' c' w', (Builtin.append_ #[t, t] ty #[.slice (some ⟨g, 0, none⟩) n c, .slice (some ⟨w.heap.size, 0, none⟩) 1 1]).run P (w.alloc (.cells (E.enc y).toArray e)) = .ok (.slice (some ⟨g', 0, none⟩) (n + 1) c') w' ∧
      Own E w' B e (some ⟨g', 0, none⟩) (n + 1) c' (l ++ [y]) ∧ Own E w' B e (some ⟨g, 0, none⟩) n c l ∧ w.grownBy w' (some g) ∧ (g' = g ∧ c' = c ∨ w.heap.size ≤ g') := by
  obtain ⟨i0, hi, hz0, hz1, hz2⟩ := info_parts hinfo
  have hlen := E.len y
  have hl := hown.len
  have hown2 := hown.alloc (.cells (E.enc y).toArray e)
  have hnews : ∀ j u, (E.enc y)[j]? = some u → (w.alloc (.cells (E.enc y).toArray e)).cell? ((⟨w.heap.size, 0, none⟩ : Addr).add j) = some u := by
    intro j u hu'
    have hadd : (⟨w.heap.size, 0, none⟩ : Addr).add j = ⟨w.heap.size, j, none⟩ := by unfold Addr.add; split <;> simp_all
    rw [hadd, cell_of_row _ _ j _ e (0, 0) (heap_alloc_new w _)]
    simpa using hu'
  have hgb : ∀ {w' : World} {r : Option Nat}, (w.alloc (.cells (E.enc y).toArray e)).grownBy w' r → w.grownBy w' r := fun hg =>
    ⟨hg.os, hg.tape, hg.output, Nat.le_trans (by simp) hg.size, fun k hk hne => (hg.block k (by simp; omega) hne).trans (Below.heap_alloc w _ k hk)⟩
  have happ : E.cells (l ++ [y]) = E.cells l ++ E.enc y := by rw [E.cells_app]; simp [Enc.cells]
  by_cases hc : n + 1 ≤ c
  · obtain ⟨w', hr, h2, h3⟩ := run_append_fits (P := P) (w.alloc (.cells (E.enc y).toArray e)) B t ty e i0 E.size hu hi hz1 g n c (E.cells l) hown2.2 ⟨w.heap.size, 0, none⟩ 1 1 (E.enc y) (by omega) hnews (E.one y) hc
    have ho : Own E w' B e (some ⟨g, 0, none⟩) (n + 1) c (l ++ [y]) := ⟨by simp [hl], by rw [happ]; exact h2⟩
    exact ⟨g, c, w', hr, ho, own_pre ho, hgb h3, .inl ⟨rfl, rfl⟩⟩
  · obtain ⟨v', w', hr, h2, h3⟩ := run_append_arg_grows (P := P) (w.alloc (.cells (E.enc y).toArray e)) t ty e i0 z E.size bytes hu hi hz0 hz1 hz2 hz hE ⟨g, 0, none⟩ n c (E.cells l) (by rw [E.cells_len, hl])
      (fun j u hu' => by
        have hj := (List.getElem?_eq_some_iff.1 hu').1
        have hadd : (⟨g, 0, none⟩ : Addr).add j = ⟨g, j, none⟩ := by unfold Addr.add; split <;> simp_all
        rw [hadd, World.ownsRow.cellAt hown2.2 j (by rw [E.cells_len, hl] at hj; exact hj)]
        exact hu')
      ⟨w.heap.size, 0, none⟩ 1 1 (E.enc y) (by omega) hnews (by omega) (by unfold maxLen; omega) (by
        have : (n + 1) * bytes ≤ (n + 1) * 64 := Nat.mul_le_mul_left _ hby
        omega)
    obtain ⟨g', cap, rfl, hb', _⟩ := h2.form (by omega)
    have ho : Own E w' (w.alloc (.cells (E.enc y).toArray e)).heap.size e (some ⟨g', 0, none⟩) (n + 1) cap (l ++ [y]) := ⟨by simp [hl], by rw [happ]; exact h2⟩
    have hs : B ≤ (w.alloc (.cells (E.enc y).toArray e)).heap.size := by simp; omega
    refine ⟨g', cap, w', hr, ho.more hs, hown2.kept h3 (.inr (by simp [Value.ownBlock])), hgb ⟨h3.os, h3.tape, h3.output, h3.size, fun k hk _ => h3.block k hk (by simp)⟩, .inr (by have : w.heap.size ≤ (w.alloc (.cells (E.enc y).toArray e)).heap.size := by simp
                                                                                                                                                                                    omega)⟩
variable {ops : Array Oper} {o : Oper} {a : Act} {K : Act → World → Prop} {Q : Exit → Act → World → Prop} {F : Prop}
theorem step_appB (z : Value) (bytes : Nat) (hgd : o.guard = none) (s x : Operand) (t : TypeId) (ho : o.op = .call { callee := .builtin .append, args := #[s, x], argTypes := #[t, t] })
    (hu : P.underlying t = some (.slice e)) (hinfo : (P.info? e).map (fun i => (i.zero, i.size, i.bytes)) = some (some z, E.size, bytes)) (hz : z.cells.size = E.size) (hE : 0 < E.size) (hby : bytes ≤ 64)
    (B n c g : Nat) (l : List α) (y : α) (cs : Array Value) (hcs : cs = (E.enc y).toArray) (hs : a.eval s = .slice (some ⟨g, 0, none⟩) n c) (hx : a.eval x = .slice (some ⟨w.heap.size, 0, none⟩) 1 1)
    (hown : Own E w B e (some ⟨g, 0, none⟩) n c l) (hn : n ≤ 1000000000) (hB : B ≤ w.heap.size)
    (h : ∀ g' c' w', Own E w' B e (some ⟨g', 0, none⟩) (n + 1) c' (l ++ [y]) → Own E w' B e (some ⟨g, 0, none⟩) n c l → w.grownBy w' (some g) → (g' = g ∧ c' = c ∨ w.heap.size ≤ g') → K (a.put o.dst (.slice (some ⟨g', 0, none⟩) (n + 1) c')) w') :
    if Region.wanted o (yielded ops a.tmps) = true then Oper.wp P o a (w.alloc (.cells cs e)) K Q else F := by
  subst hcs
  have hw : Region.wanted o (yielded ops a.tmps) = true := by simp [Region.wanted, hgd]
  rw [if_pos hw]
  obtain ⟨g', c', w', hr, h1, h2, h3, h4⟩ := run_app1_both (P := P) w z bytes t o.type hu hinfo hz hE hby hown hn hB y
  unfold Oper.wp execOp
  simp only [ho, resolve, invoke, builtin, Sem.run_bind, Sem.run_pure, Result.andThen_ok, List.map_toArray, List.map_cons, List.map_nil, hs, hx, hr]
  exact h g' c' w' h1 h2 h3 h4
end
section
variable {α : Type} {E : Enc α} {P : Program} (w : World) {ops : Array Oper} {o : Oper} {a : Act} {K : Act → World → Prop} {Q : Exit → Act → World → Prop} {F : Prop}
/-- out = append(out, xs...), xs a row that is not nil, at a step of a region that draws its order. -/
theorem step_appN (z : Value) (bytes : Nat) (hgd : o.guard = none) (s x : Operand) (t e : TypeId) (ho : o.op = .call { callee := .builtin .append, args := #[s, x], argTypes := #[t, t] })
    (hu : P.underlying t = some (.slice e)) (hinfo : (P.info? e).map (fun i => (i.zero, i.size, i.bytes)) = some (some z, E.size, bytes)) (hz : z.cells.size = E.size) (hE : 0 < E.size) (hby : bytes ≤ 64)
    (B n c : Nat) (A : Option Addr) (l : List α) (ad : Addr) (m c2 : Nat) (ys : List α) (hs : a.eval s = .slice A n c) (hx : a.eval x = .slice (some ad) m c2)
    (hown : Own E w B e A n c l) (hrow : R E w (some ad) m c2 ys) (hm : 0 < m) (hm2 : m ≤ 1000000) (hn : n ≤ 1000000) (hB : B ≤ w.heap.size)
    (h : ∀ A' c' w', Own E w' B e A' (n + m) c' (l ++ ys) → Below B w w' → K (a.put o.dst (.slice A' (n + m) c')) w') :
    if Region.wanted o (yielded ops a.tmps) = true then Oper.wp P o a w K Q else F := by
  obtain ⟨i0, hi, hz0, hz1, hz2⟩ := info_parts hinfo
  obtain ⟨b, off, hr⟩ := hrow
  have hrl := hr.len
  have hl := hown.len
  refine step_append_lies w hgd s x t ho B e i0 z E.size bytes hu hi hz0 hz1 hz2 hz hE _ n (E.cells l) hs hown.2
    ad m c2 (E.cells ys) hx (by rw [E.cells_len, hrl]) ?_ (E.cells_one ys) hm (by unfold maxLen; omega) ?_ hB _ rfl ?_
  · intro j u hu'
    have hj := (List.getElem?_eq_some_iff.1 hu').1
    rw [E.cells_len, hrl] at hj
    have e1 := hr.at_ hm
    injection e1 with e1
    subst e1
    have hadd : (⟨b, off, none⟩ : Addr).add j = ⟨b, off + j, none⟩ := by unfold Addr.add; split <;> simp_all
    have hq : j / E.size < m := Nat.div_lt_of_lt_mul (by rw [Nat.mul_comm]; exact hj)
    have hrr : j % E.size < E.size := Nat.mod_lt _ hE
    have ej : j / E.size * E.size + j % E.size = j := by rw [Nat.mul_comm]; exact Nat.div_add_mod _ _
    have g1 := E.cells_get ys (k := j / E.size) (j := j % E.size) (by omega) hrr
    have g2 := hr.cell (j / E.size) hq (j % E.size) hrr
    rw [ej] at g1 g2
    rw [hadd, g2, ← g1]
    exact hu'
  · have : (n + m) * bytes ≤ (n + m) * 64 := Nat.mul_le_mul_left _ hby
    omega
  · intro g cap w' hown' hg _ _
    have hown2 : w'.ownsRow B e E.size (.slice (some ⟨g, 0, none⟩) (n + m) cap) (n + m) (E.cells (l ++ ys)) := by rw [E.cells_app]; exact hown'
    refine h _ cap w' ⟨by simp [hl, hrl], hown2⟩ ((Below.refl B w).grown hg hB fun k hk => ?_)
    rcases hown.form with ⟨rfl, _⟩ | ⟨g, rfl, hbg, _⟩
    · simp [Value.ownBlock] at hk
    · simp [Value.ownBlock] at hk; omega
end
section
variable {α : Type} {E : Enc α} {P : Program} (w : World) {ops : Array Oper} {o : Oper} {a : Act} {K : Act → World → Prop} {Q : Exit → Act → World → Prop} {F : Prop}
/-- out = append(out, xs...) at a step of a region that draws its order. -/
theorem step_appG (z : Value) (bytes : Nat) (hgd : o.guard = none) (s x : Operand) (t e : TypeId) (ho : o.op = .call { callee := .builtin .append, args := #[s, x], argTypes := #[t, t] })
    (hu : P.underlying t = some (.slice e)) (hinfo : (P.info? e).map (fun i => (i.zero, i.size, i.bytes)) = some (some z, E.size, bytes)) (hz : z.cells.size = E.size) (hE : 0 < E.size) (hby : bytes ≤ 64)
    (B n c : Nat) (A : Option Addr) (l : List α) (A2 : Option Addr) (m c2 : Nat) (ys : List α) (hs : a.eval s = .slice A n c) (hx : a.eval x = .slice A2 m c2)
    (hown : Own E w B e A n c l) (hrow : R E w A2 m c2 ys) (hm2 : m ≤ 1000000) (hn : n ≤ 1000000) (hB : B ≤ w.heap.size)
    (h : ∀ A' c' w', Own E w' B e A' (n + m) c' (l ++ ys) → Below B w w' → w.grownBy w' (Value.slice A n c).ownBlock → (A' = A ∨ ∃ g', A' = some ⟨g', 0, none⟩ ∧ w.heap.size ≤ g') → K (a.put o.dst (.slice A' (n + m) c')) w') :
    if Region.wanted o (yielded ops a.tmps) = true then Oper.wp P o a w K Q else F := by
  obtain ⟨i0, hi, hz0, hz1, hz2⟩ := info_parts hinfo
  by_cases hm : m = 0
  · subst hm
    obtain rfl : ys = [] := List.eq_nil_of_length_eq_zero hrow.length
    have hrun : (Builtin.append_ #[t, t] o.type #[.slice A n c, .slice A2 0 c2]).run P w = .ok (.slice A n c) w := by
      rcases hown.form with ⟨rfl, rfl, rfl, _⟩ | ⟨g, rfl, _, _, hnc, _⟩
      · cases A2 <;> simp [Builtin.append_, run_underlying hu, sizeOf, typeInfo, hi, Builtin.lenOf, Builtin.firstCells, loadCells, loadCellsFrom, storeCells]
      · cases A2 <;> simp [Builtin.append_, run_underlying hu, sizeOf, typeInfo, hi, Builtin.lenOf, Builtin.firstCells, loadCells, loadCellsFrom, storeCells, hnc]
    have hw : Region.wanted o (yielded ops a.tmps) = true := by simp [Region.wanted, hgd]
    rw [if_pos hw]
    unfold Oper.wp
    simp [execOp, ho, resolve, invoke, builtin, hs, hx, hrun, Result.andThen]
    exact h _ _ w (by rw [List.append_nil]; exact hown) (Below.refl _ _) (gb_refl _ _) (.inl rfl)
  · obtain ⟨b, off, hr⟩ := hrow
    have hA := hr.at_ (by omega)
    subst hA
    have hrl := hr.len
    have hl := hown.len
    refine step_append_lies w hgd s x t ho B e i0 z E.size bytes hu hi hz0 hz1 hz2 hz hE _ n (E.cells l) hs hown.2 ⟨b, off, none⟩ m c2 (E.cells ys) hx (by rw [E.cells_len, hrl]) ?_ (E.cells_one ys) (by omega) (by unfold maxLen; omega) ?_ hB _ rfl ?_
    · intro j u hu'
      have hj := (List.getElem?_eq_some_iff.1 hu').1
      rw [E.cells_len, hrl] at hj
      have hadd : (⟨b, off, none⟩ : Addr).add j = ⟨b, off + j, none⟩ := by unfold Addr.add; split <;> simp_all
      have hq : j / E.size < m := Nat.div_lt_of_lt_mul (by rw [Nat.mul_comm]; exact hj)
      have hrr : j % E.size < E.size := Nat.mod_lt _ hE
      have ej : j / E.size * E.size + j % E.size = j := by rw [Nat.mul_comm]; exact Nat.div_add_mod _ _
      have g1 := E.cells_get ys (k := j / E.size) (j := j % E.size) (by omega) hrr
      have g2 := hr.cell (j / E.size) hq (j % E.size) hrr
      rw [ej] at g1 g2
      rw [hadd, g2, ← g1]
      exact hu'
    · have : (n + m) * bytes ≤ (n + m) * 64 := Nat.mul_le_mul_left _ hby
      omega
    · intro g cap w' hown' hg hgo _
      refine h _ cap w' ⟨by simp [hl, hrl], by rw [E.cells_app]; exact hown'⟩ ((Below.refl B w).grown hg hB fun k hk => ?_) hg ?_
      · rcases hown.form with ⟨rfl, _⟩ | ⟨g, rfl, hbg, _⟩
        · simp [Value.ownBlock] at hk
        · simp [Value.ownBlock] at hk; omega
      · rcases hgo with h1 | h1
        · rcases hown.form with ⟨rfl, _⟩ | ⟨g', rfl, hbg, _⟩
          · simp [Value.ownBlock] at h1
          · simp [Value.ownBlock] at h1
            left
            rw [h1]
        · right
          exact ⟨g, rfl, by rw [h1]; exact Nat.le_refl _⟩
end
end Go.Proofs.Ytkjnhdkbojcojaa
