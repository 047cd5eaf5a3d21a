/- make at a step of a region that draws its order, elements of any number of cells. -/
import Derived.Test.YtkjnhdkbojcojaaRow
import Derived.OwnWalk
namespace Go.Proofs.Ytkjnhdkbojcojaa
open Go.RowKit Go.Shelf

theorem madeE {α : Type} (E : Enc α) (x0 : α) (z : Value) (hz : z.cells = (E.enc x0).toArray) (hE : 0 < E.size) (n : Nat) : (madeCells z.cells (n * E.size)).toList = E.cells (List.replicate n x0) := by
  have hlen := E.len x0
  have hzs : z.cells.size = E.size := by rw [hz]; simp [hlen]
  apply List.ext_getElem?
  intro i
  by_cases hi : i < n * E.size
  · have hq : i / E.size < n := Nat.div_lt_of_lt_mul (by rw [Nat.mul_comm]; exact hi)
    have hr : i % E.size < E.size := Nat.mod_lt _ hE
    have ej : i / E.size * E.size + i % E.size = i := by rw [Nat.mul_comm]; exact Nat.div_add_mod _ _
    have g1 := E.cells_get (List.replicate n x0) (k := i / E.size) (j := i % E.size) (by simpa using hq) hr
    rw [ej] at g1
    rw [g1]
    have e1 : (List.replicate n x0).getD (i / E.size) E.d = x0 := by rw [List.getD_eq_getElem?_getD]; simp [hq]
    rw [e1, hz]
    have hsz : (E.enc x0).toArray.size = E.size := by simp [hlen]
    simp only [madeCells, Array.toList_map, Array.toList_range, List.getElem?_map, List.getElem?_range hi, Option.map_some, hsz]
    rw [List.getElem?_eq_getElem (by rw [hlen]; exact hr)]
    congr 1
    rw [getElem!_pos (E.enc x0).toArray (i % E.size) (by rw [hsz]; exact hr)]
    simp
  · rw [List.getElem?_eq_none (by simp [madeCells]; omega), List.getElem?_eq_none (by rw [E.cells_len]; simp; omega)]
section
variable {α : Type} {E : Enc α} {P : Program} (w : World) {ops : Array Oper} {o : Oper} {a : Act} {K : Act → World → Prop} {Q : Exit → Act → World → Prop} {F : Prop}
theorem step_mk (hgd : o.guard = none) (l c : Operand) (t e : TypeId) (hop : o.op = Op.makeSlice t l c) (hu : P.underlying t = some (.slice e)) (z : Value) (x0 : α) (bytes : Nat)
    (hinfo : (P.info? e).map (fun i => (i.zero, i.size, i.bytes)) = some (some z, E.size, bytes)) (hby : bytes ≤ 64) (hE : 0 < E.size) (hz : z.cells = (E.enc x0).toArray) (B n : Nat) (hl : a.eval l = .int .i64 n) (hc : a.eval c = .int .i64 n)
    (hn : n ≤ 1000000) (hB : B ≤ w.heap.size)
    (h : ∀ w', Own E w' B e (some ⟨w.heap.size, 0, none⟩) n n (List.replicate n x0) → Below w.heap.size w w' → w.heap.size < w'.heap.size → K (a.put o.dst (.slice (some ⟨w.heap.size, 0, none⟩) n n)) w') :
    if Region.wanted o (yielded ops a.tmps) = true then Oper.wp P o a w K Q else F := by
  obtain ⟨i0, hi, hz0, hz1, hz2⟩ := info_parts hinfo
  have hnb : bytes * n ≤ 64 * n := Nat.mul_le_mul_right _ hby
  have hw : Region.wanted o (yielded ops a.tmps) = true := by simp [Region.wanted, hgd]
  rw [if_pos hw]
  obtain ⟨w', hrun, r1, r2⟩ := run_make_full (P := P) w B t e i0 z E.size hu hi hz0 hz1 .i64 .i64 n (by rw [hz2]; omega) (by unfold maxLen; omega) hB
  unfold Oper.wp
  simp [execOp, hop, hl, hc, hrun, Result.andThen]
  rw [madeE E x0 z hz hE n] at r1
  have ho : Own E w' B e (some ⟨w.heap.size, 0, none⟩) n n (List.replicate n x0) := ⟨by simp, r1⟩
  refine h w' ho ((Below.refl _ w).grown r2 (Nat.le_refl _) fun k hk => by cases hk) ?_
  rcases ho.form with ⟨hh, _⟩ | ⟨g, hA, _, hlt, _⟩
  · cases hh
  · injection hA with hA; injection hA with hA; omega
end
end Go.Proofs.Ytkjnhdkbojcojaa
