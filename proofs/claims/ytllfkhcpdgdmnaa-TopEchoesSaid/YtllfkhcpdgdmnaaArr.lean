/- Tallies: blocks of an array type; the tally of delays, and what is left of it. -/
import Derived.Test.YtllfkhcpdgdmnaaWalkJ
import Derived.Laws.Tables
import Derived.Laws.CopyOwn
import Derived.Great.Ranges
namespace Go.Proofs.Ytllfkhcpdgdmnaa
open Go.RowKit

def intsV (xs : List Int) : List Value := xs.map (Value.int .i64)
theorem intsV_length (xs : List Int) : (intsV xs).length = xs.length := by simp [intsV]
theorem intsV_one (xs : List Int) : ∀ u ∈ intsV xs, u.oneCell' = true := by
  intro u hu
  obtain ⟨x, _, rfl⟩ := List.mem_map.1 hu
  rfl
theorem intsV_get {xs : List Int} {k : Nat} (h : k < xs.length) : (intsV xs)[k]? = some (.int .i64 (xs.getD k 0)) := by
  simp [intsV, List.getElem?_map, List.getD_eq_getElem?_getD, List.getElem?_eq_getElem h]
theorem size_tally : (Try.prog.info? 52).map (·.size) = some 61 := by kernel_rfl
theorem und_tally : Try.prog.underlying 52 = some (.array 61 3) := by kernel_rfl
/-- The tally as a value. -/
def tv (xs : List Int) : Value := .agg (intsV xs).toArray
/-- Block g holds the tally xs. -/
def Arr (w : World) (g : Nat) (xs : List Int) : Prop := w.heap[g]? = some (.cells (intsV xs).toArray 52 (0, 0))
section
variable {w w' : World} {g : Nat} {xs : List Int}
theorem Arr.eq (h : Arr w g xs) : w.heap[g]? = some (.cells (intsV xs).toArray 52 (0, 0)) := h
theorem Arr.lt (h : Arr w g xs) : g < w.heap.size := (Array.getElem?_eq_some_iff.1 h).1
theorem Arr.cell (h : Arr w g xs) {k : Nat} (hk : k < xs.length) : w.cell? ⟨g, k, none⟩ = some (.int .i64 (xs.getD k 0)) := by
  rw [cell_of_row w g k _ _ _ h]
  simpa using intsV_get hk
theorem Arr.frozen (h : Arr w g xs) (k : Nat) : w.frozen? ⟨g, k, none⟩ = false := frozen_of_row w g k _ _ h
theorem Arr.stored (h : Arr w g xs) (k : Nat) (y : Int) : Arr (w.setCell ⟨g, k, none⟩ (.int .i64 y)) g (xs.set k y) := by
  unfold Arr
  rw [heap_setCell_same w g k _ _ _ h]
  simp [intsV, List.map_set]
theorem Arr.far (h : Arr w g xs) {p : Addr} (hp : g ≠ p.block) (u : Value) : Arr (w.setCell p u) g xs := (heap_setCell_other w p g u hp).trans h
theorem Arr.below {B : Nat} (h : Arr w g xs) (hb : Below B w w') (hg : g < B) : Arr w' g xs := (hb.block g hg).trans h
theorem Arr.more (h : Arr w g xs) (o : Obj) : Arr (w.alloc o) g xs := (Below.heap_alloc w o g h.lt).trans h
theorem Arr.draws (h : Arr w g xs) (n : Nat) : Arr (w.drewN n) g xs := h
end
theorem all_one (xs : List Int) : (intsV xs).toArray.all (·.oneCell') = true := by
  rw [Array.all_eq_true_iff_forall_mem]
  intro v hv
  exact intsV_one xs v (by simpa using hv)
def none61 : List Int := List.replicate 61 0
theorem none61_agg : Value.agg #[.int .i64 0, .int .i64 0, .int .i64 0, .int .i64 0, .int .i64 0, .int .i64 0, .int .i64 0, .int .i64 0, .int .i64 0, .int .i64 0, .int .i64 0, .int .i64 0, .int .i64 0, .int .i64 0, .int .i64 0, .int .i64 0, .int .i64 0, .int .i64 0, .int .i64 0, .int .i64 0, .int .i64 0, .int .i64 0, .int .i64 0, .int .i64 0, .int .i64 0, .int .i64 0, .int .i64 0, .int .i64 0, .int .i64 0, .int .i64 0, .int .i64 0, .int .i64 0, .int .i64 0, .int .i64 0, .int .i64 0, .int .i64 0, .int .i64 0, .int .i64 0, .int .i64 0, .int .i64 0, .int .i64 0, .int .i64 0, .int .i64 0, .int .i64 0, .int .i64 0, .int .i64 0, .int .i64 0, .int .i64 0, .int .i64 0, .int .i64 0, .int .i64 0, .int .i64 0, .int .i64 0, .int .i64 0, .int .i64 0, .int .i64 0, .int .i64 0, .int .i64 0, .int .i64 0, .int .i64 0, .int .i64 0] = Value.agg (intsV none61).toArray := rfl
theorem none61_eq : (#[.int .i64 0, .int .i64 0, .int .i64 0, .int .i64 0, .int .i64 0, .int .i64 0, .int .i64 0, .int .i64 0, .int .i64 0, .int .i64 0, .int .i64 0, .int .i64 0, .int .i64 0, .int .i64 0, .int .i64 0, .int .i64 0, .int .i64 0, .int .i64 0, .int .i64 0, .int .i64 0, .int .i64 0, .int .i64 0, .int .i64 0, .int .i64 0, .int .i64 0, .int .i64 0, .int .i64 0, .int .i64 0, .int .i64 0, .int .i64 0, .int .i64 0, .int .i64 0, .int .i64 0, .int .i64 0, .int .i64 0, .int .i64 0, .int .i64 0, .int .i64 0, .int .i64 0, .int .i64 0, .int .i64 0, .int .i64 0, .int .i64 0, .int .i64 0, .int .i64 0, .int .i64 0, .int .i64 0, .int .i64 0, .int .i64 0, .int .i64 0, .int .i64 0, .int .i64 0, .int .i64 0, .int .i64 0, .int .i64 0, .int .i64 0, .int .i64 0, .int .i64 0, .int .i64 0, .int .i64 0, .int .i64 0] : Array Value) = (intsV none61).toArray := rfl

/-- What is left of a tally when a distance comes. -/
def st1 (p : Int) (t : List Int) (x : Int) : Option (List Int) :=
  if t.getD (p - x).toNat 0 = 0 then none else some (t.set (p - x).toNat (t.getD (p - x).toNat 0 - 1))
def wo (b : List Int) (p : Int) (t : List Int) : Option (List Int) := b.foldlM (st1 p) t
structure Tal (t : List Int) : Prop where
  len : t.length = 61
  at_ : ∀ k, k < 61 → 0 ≤ t.getD k 0 ∧ t.getD k 0 ≤ 1000
theorem Tal.st {t t' : List Int} {p x : Int} (h : Tal t) (he : st1 p t x = some t') (hx : (p - x).toNat < 61) : Tal t' := by
  unfold st1 at he
  split at he
  · cases he
  · rename_i hne
    injection he with he
    subst he
    refine ⟨by rw [List.length_set]; exact h.len, fun k hk => ?_⟩
    have h1 := h.at_ _ hx
    have h2 := h.at_ k hk
    by_cases e : (p - x).toNat = k
    · subst e
      rw [List.getD_eq_getElem?_getD, List.getElem?_set_self (by rw [h.len]; exact hk), Option.getD_some]
      omega
    · rw [List.getD_eq_getElem?_getD, List.getElem?_set_ne e, ← List.getD_eq_getElem?_getD]
      exact h2
theorem Tal.wo {p : Int} : ∀ {b t t' : List Int}, Tal t → wo b p t = some t' → (∀ x ∈ b, (p - x).toNat < 61) → Tal t'
  | [], t, t', h, he, _ => by
    simp only [Proofs.Ytllfkhcpdgdmnaa.wo, List.foldlM_nil] at he
    injection he with he
    exact he ▸ h
  | x :: b, t, t', h, he, hx => by
    simp only [Proofs.Ytllfkhcpdgdmnaa.wo, List.foldlM_cons] at he
    cases e : st1 p t x with
    | none => rw [e] at he; cases he
    | some t1 =>
      rw [e] at he
      exact Tal.wo (h.st e (hx x (by simp))) he (fun y hy => hx y (by simp [hy]))
theorem wo_succ {b : List Int} {p : Int} {t tk : List Int} {k : Nat} (hk : k < b.length) (h : wo (b.take k) p t = some tk) : wo (b.take (k + 1)) p t = st1 p tk (b.getD k 0) := by
  unfold wo at h ⊢
  rw [List.take_succ_eq_append_getElem hk, List.foldlM_append, h]
  have e : b.getD k 0 = b[k] := by simp [List.getD_eq_getElem?_getD, hk]
  rw [e]
  simp only [Option.bind_eq_bind, Option.bind_some, List.foldlM_cons, List.foldlM_nil]
  cases st1 p tk b[k] <;> rfl
theorem wo_fail {b : List Int} {p : Int} {t : List Int} {k : Nat} (h : wo (b.take k) p t = none) : wo b p t = none := by
  unfold wo at h ⊢
  rw [← List.take_append_drop k b, List.foldlM_append, h]
  rfl
def woV : Option (List Int) → Value
  | some t => .tuple #[tv t, .bool true]
  | none => .tuple #[tv none61, .bool false]
theorem results_cell_row2 {P : Program} {fn : Func} {p q : Tmp} {ty : TypeId} (h : fn.results = #[.cell p ty, .tmp q]) (tmps : Array Value) (w : World) (g : Nat) (t : TypeId) (cs : Array Value) (fr : Nat × Nat) (d : TypeDesc)
    (hp : tmps.getD p undef = .pointer (some ⟨g, 0, none⟩)) (hg : w.heap[g]? = some (.cells cs t fr))
    (hu : P.underlying ty = some d) (hd : (match d with | .struct _ | .array _ _ => true | _ => false) = true) (hi : (P.info? ty).map (·.size) = some cs.size) :
    (results fn tmps).run P w = .ok (.tuple #[.agg cs, tmps.getD q undef]) w := by
  have hp' : tmps[p]?.getD undef = .pointer (some ⟨g, 0, none⟩) := by simpa using hp
  simp [results, h, hp', asAddr, run_loadVar_row w g t ty cs fr d hg hu hd hi]
theorem tally_size {t : List Int} (h : t.length = 61) : (Try.prog.info? 52).map (·.size) = some (intsV t).toArray.size := by rw [size_tally, List.size_toArray, intsV_length, h]

set_option maxRecDepth 100000 in
set_option maxHeartbeats 4000000 in
theorem without_any (t : List Int) (A : Option Addr) (n c : Nat) (b : List Int) (p : Int) (w : World) (h : R E1 w A n c b) (hn : n ≤ 10) (ht : Tal t)
    (hb : ∀ k, k < n → 0 ≤ b.getD k 0 ∧ b.getD k 0 < p) (hp : p ≤ 60) :
    Calls Try.prog 95 #[tv t, .slice A n c, .int .i64 p] w fun e w' => e = .returned (woV (wo b p t)) ∧ Below w.heap.size w w' := by
  have HL := hide h.length
  obtain ⟨bk, off, hr⟩ := h
  have HR := hide hr
  have hcap := hr.cap
  have hmax := hr.max
  have HB := hide hb
  have HT := hide ht
  clear hr hb ht
  go_enter Try.func95, Try.ntmps95
  go_wp2_with (refine Go.Great.wpList_boxTo (o := ⟨some 3, _, _, _, _, _⟩) rfl 52 (.tmp 0) rfl (some 3) rfl w.heap.size rfl (intsV t).toArray rfl ?_)
  go_loopw [13] (fun i wr => ∃ (k : Nat) (tk : List Int), k ≤ n ∧ i = .int .i64 k ∧ Hid (wo (b.take k) p t = some tk) ∧ Hid (Tal tk) ∧ Hid (Arr wr w.heap.size tk) ∧ Hid (Arr wr (w.heap.size + 1) none61) ∧ Hid (Below w.heap.size w wr)) (fun i _ => n - (intOf i).toNat)
  case atStart => exact ⟨0, t, Nat.zero_le _, rfl, hide rfl, HT, hide ((heap_alloc2_old w _ _).trans (by rfl)), hide ((heap_alloc2_new w _ _).trans (by rw [none61_eq])), hide (((Below.refl _ w).alloc (Nat.le_refl _) _).alloc (by simp) _)⟩
  case round =>
    obtain ⟨k, tk, hk, rfl, HW, HTk, HA, H0, HD⟩ := hrel
    by_cases hlt : k < n
    · obtain rfl := HR.out.at_ (by omega)
      have hbl := HR.out.lt (by omega)
      have a1 := c1 (HR.out.below HD.out (Nat.le_refl _)) hlt
      have i1 : (k : Int) < (n : Int) := by omega
      have hx := HB.out k hlt
      have HS := hide (wo_succ (b := b) (p := p) (t := t) (by rw [HL.out]; exact hlt) HW.out)
      generalize b.getD k 0 = x at a1 hx HS
      obtain ⟨d, hd⟩ : ∃ d : Nat, (d : Int) = p - x := ⟨(p - x).toNat, by omega⟩
      have hw : IntKind.i64.wrap (p - x) = (d : Int) := (IntWalk.i64_in _ (by omega)).trans hd.symm
      have hd61 : d < 61 := by omega
      have a2 := HA.out.cell (k := d) (by rw [HTk.out.len]; exact hd61)
      have f2 := HA.out.frozen d
      have b2 := HTk.out.at_ d hd61
      have HSt := hide (HA.out.stored d (tk.getD d 0 - 1))
      have HTn := hide (fun t' e => HTk.out.st (t' := t') (p := p) (x := x) e (by omega))
      have HE := hide (show st1 p tk x = if tk.getD d 0 = 0 then none else some (tk.set d (tk.getD d 0 - 1)) from by
        unfold st1; rw [show (p - x).toNat = d by omega])
      have hd3 : (d : Int) < 61 := by omega
      generalize hv : tk.getD d 0 = v at a2 b2 HSt HE
      have HV := hide hv
      clear hv
      by_cases hv0 : v = 0
      · subst hv0
        have HN := hide (wo_fail (k := k + 1) (HS.out.trans (HE.out.trans (if_pos rfl))))
        clear hd
        go_wp2_with (refine wpList_store_row (o := ⟨none, Op.store 52 _ _, _, _, _, _⟩) rfl 52 (.tmp 6) (.tmp 24) rfl (w.heap.size + 1) (intsV none61).toArray rfl none61_agg 52 (intsV none61).toArray H0.out.eq (tally_size rfl) rfl (all_one _) ?_)
        refine bodyPost_ret (results_cell_row2 (P := Try.prog) rfl _ _ (w.heap.size + 1) 52 (intsV none61).toArray (0, 0) _ rfl (setRow_heap wr (w.heap.size + 1) _ _ 52 _ H0.out.eq) und_tally rfl (tally_size rfl)) rfl ⟨by rw [HN.out]; rfl, below_setRow HD.out (by omega) _⟩
      · have hw1 : IntKind.i64.wrap (v - 1) = v - 1 := IntWalk.i64_in _ (by omega)
        have HN := hide (HS.out.trans (HE.out.trans (if_neg hv0)))
        have hv0' : (v == 0) = false := by simpa using hv0
        clear hd
        go_wp2_with fail
        go_roundw
        case rel => exact ⟨k + 1, _, by omega, by go_num, HN, hide (HTn.out _ (HE.out.trans (if_neg hv0))), HSt, hide (H0.out.far (by simp) _), hide (HD.out.setCell (by simp) _)⟩
        case measure => simp [intOf]; omega
    · obtain rfl : k = n := by omega
      have HW2 := hide (show wo b p t = some tk from by rw [← HW.out, ← HL.out, List.take_length])
      have hts := HTk.out.len
      go_wp2_with (first
        | (refine wpList_load_row (o := ⟨some 31, _, _, _, _, _⟩) rfl 52 (.tmp 3) rfl w.heap.size rfl 52 (intsV tk).toArray (0, 0) _ HA.out.eq und_tally rfl (tally_size hts) ?_)
        | (refine wpList_store_row (o := ⟨none, Op.store 52 _ _, _, _, _, _⟩) rfl 52 (.tmp 6) (.tmp 31) rfl (w.heap.size + 1) (intsV tk).toArray rfl rfl 52 (intsV none61).toArray H0.out.eq (tally_size hts) (by rw [List.size_toArray, List.size_toArray, intsV_length, intsV_length, hts]; rfl) (all_one _) ?_))
      refine bodyPost_ret (results_cell_row2 (P := Try.prog) rfl _ _ (w.heap.size + 1) 52 (intsV tk).toArray (0, 0) _ rfl (setRow_heap wr (w.heap.size + 1) _ _ 52 _ H0.out.eq) und_tally rfl (tally_size hts)) rfl ⟨by rw [HW2.out]; rfl, below_setRow HD.out (by omega) _⟩
end Go.Proofs.Ytllfkhcpdgdmnaa
