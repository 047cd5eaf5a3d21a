/- The search, where it stops at the first row. -/
import Derived.Test.YtllfkhcpdgdmnaaCmp
import Derived.ArgAppend
namespace Go.Proofs.Ytllfkhcpdgdmnaa
open Go.RowKit

section
variable {α : Type} {E : Enc α} {w : World} {B n c g : Nat} {e : TypeId} {l : List α} {y : α}
theorem own_pre (h : Own E w B e (some ⟨g, 0, none⟩) (n + 1) c (l ++ [y])) : Own E w B e (some ⟨g, 0, none⟩) n c l := by
  have hl : l.length = n := by have := h.1; simpa using this
  refine ⟨hl, by rw [E.cells_len, hl], ?_⟩
  rcases h.2.2 with ⟨h1, _⟩ | ⟨g', cap, cur, hv, hb, hg, hnc, hcm, hcs, ht⟩
  · simp at h1
  · simp at hv
    obtain ⟨rfl, rfl⟩ := hv
    refine .inr ⟨g, c, cur, rfl, hb, hg, by omega, hcm, hcs, ?_⟩
    have e1 := congrArg (List.take (n * E.size)) ht
    rw [List.take_take, Nat.min_eq_left (Nat.mul_le_mul_right _ (by omega)), E.cells_app] at e1
    rw [e1, ← hl, ← E.cells_len]
    exact List.take_left
variable {P : Program} (w)
theorem run_app1_both (z : Value) (bytes : Nat) (t ty : TypeId) (hu : P.underlying t = some (.slice e)) (hinfo : (P.info? e).map (fun i => (i.zero, i.size, i.bytes)) = some (some z, E.size, bytes)) (hz : z.cells.size = E.size) (hE : 0 < E.size) (hby : bytes ≤ 64)
    (hown : Own E w B e (some ⟨g, 0, none⟩) n c l) (hn : n ≤ 1000000000) (hB : B ≤ w.heap.size) (y : α) :
    ∃ g' c' w', (Builtin.append_ #[t, t] ty #[.slice (some ⟨g, 0, none⟩) n c, .slice (some ⟨w.heap.size, 0, none⟩) 1 1]).run P (w.alloc (.cells (E.enc y).toArray e)) = .ok (.slice (some ⟨g', 0, none⟩) (n + 1) c') w' ∧
      Own E w' B e (some ⟨g', 0, none⟩) (n + 1) c' (l ++ [y]) ∧ Own E w' B e (some ⟨g, 0, none⟩) n c l ∧ w.grownBy w' (some g) ∧ (g' = g ∧ c' = c ∨ w.heap.size ≤ g') := by
  obtain ⟨i0, hi, hz0, hz1, hz2⟩ := info_parts hinfo
  have hlen := E.len y
  have hl := hown.len
  have hown2 := hown.alloc (.cells (E.enc y).toArray e)
  have hnews : ∀ j u, (E.enc y)[j]? = some u → (w.alloc (.cells (E.enc y).toArray e)).cell? ((⟨w.heap.size, 0, none⟩ : Addr).add j) = some u := by
    intro j u hu'
    have hadd : (⟨w.heap.size, 0, none⟩ : Addr).add j = ⟨w.heap.size, j, none⟩ := by unfold Addr.add; split <;> simp_all
    rw [hadd, cell_of_row _ _ j _ e (0, 0) (heap_alloc_new w _)]
    simpa using hu'
  have hgb : ∀ {w' : World} {r : Option Nat}, (w.alloc (.cells (E.enc y).toArray e)).grownBy w' r → w.grownBy w' r := fun hg =>
    ⟨hg.os, hg.tape, hg.output, Nat.le_trans (by simp) hg.size, fun k hk hne => (hg.block k (by simp; omega) hne).trans (Below.heap_alloc w _ k hk)⟩
  have happ : E.cells (l ++ [y]) = E.cells l ++ E.enc y := by rw [E.cells_app]; simp [Enc.cells]
  by_cases hc : n + 1 ≤ c
  · obtain ⟨w', hr, h2, h3⟩ := run_append_fits (P := P) (w.alloc (.cells (E.enc y).toArray e)) B t ty e i0 E.size hu hi hz1 g n c (E.cells l) hown2.2 ⟨w.heap.size, 0, none⟩ 1 1 (E.enc y) (by omega) hnews (E.one y) hc
    have ho : Own E w' B e (some ⟨g, 0, none⟩) (n + 1) c (l ++ [y]) := ⟨by simp [hl], by rw [happ]; exact h2⟩
    exact ⟨g, c, w', hr, ho, own_pre ho, hgb h3, .inl ⟨rfl, rfl⟩⟩
  · obtain ⟨v', w', hr, h2, h3⟩ := run_append_arg_grows (P := P) (w.alloc (.cells (E.enc y).toArray e)) t ty e i0 z E.size bytes hu hi hz0 hz1 hz2 hz hE ⟨g, 0, none⟩ n c (E.cells l) (by rw [E.cells_len, hl])
      (fun j u hu' => by
        have hj := (List.getElem?_eq_some_iff.1 hu').1
        have hadd : (⟨g, 0, none⟩ : Addr).add j = ⟨g, j, none⟩ := by unfold Addr.add; split <;> simp_all
        rw [hadd, World.ownsRow.cellAt hown2.2 j (by rw [E.cells_len, hl] at hj; exact hj)]
        exact hu')
      ⟨w.heap.size, 0, none⟩ 1 1 (E.enc y) (by omega) hnews (by omega) (by unfold maxLen; omega) (by
        have : (n + 1) * bytes ≤ (n + 1) * 64 := Nat.mul_le_mul_left _ hby
        omega)
    obtain ⟨g', cap, rfl, hb', _⟩ := h2.form (by omega)
    have ho : Own E w' (w.alloc (.cells (E.enc y).toArray e)).heap.size e (some ⟨g', 0, none⟩) (n + 1) cap (l ++ [y]) := ⟨by simp [hl], by rw [happ]; exact h2⟩
    have hs : B ≤ (w.alloc (.cells (E.enc y).toArray e)).heap.size := by simp; omega
    refine ⟨g', cap, w', hr, ho.more hs, hown2.kept h3 (.inr (by simp [Value.ownBlock])), hgb ⟨h3.os, h3.tape, h3.output, h3.size, fun k hk _ => h3.block k hk (by simp)⟩, .inr (by have : w.heap.size ≤ (w.alloc (.cells (E.enc y).toArray e)).heap.size := by simp
                                                                                                                                                                                    omega)⟩
variable {ops : Array Oper} {o : Oper} {a : Act} {K : Act → World → Prop} {Q : Exit → Act → World → Prop} {F : Prop}
theorem step_appB (z : Value) (bytes : Nat) (hgd : o.guard = none) (s x : Operand) (t : TypeId) (ho : o.op = .call { callee := .builtin .append, args := #[s, x], argTypes := #[t, t] })
    (hu : P.underlying t = some (.slice e)) (hinfo : (P.info? e).map (fun i => (i.zero, i.size, i.bytes)) = some (some z, E.size, bytes)) (hz : z.cells.size = E.size) (hE : 0 < E.size) (hby : bytes ≤ 64)
    (B n c g : Nat) (l : List α) (y : α) (cs : Array Value) (hcs : cs = (E.enc y).toArray) (hs : a.eval s = .slice (some ⟨g, 0, none⟩) n c) (hx : a.eval x = .slice (some ⟨w.heap.size, 0, none⟩) 1 1)
    (hown : Own E w B e (some ⟨g, 0, none⟩) n c l) (hn : n ≤ 1000000000) (hB : B ≤ w.heap.size)
    (h : ∀ g' c' w', Own E w' B e (some ⟨g', 0, none⟩) (n + 1) c' (l ++ [y]) → Own E w' B e (some ⟨g, 0, none⟩) n c l → w.grownBy w' (some g) → (g' = g ∧ c' = c ∨ w.heap.size ≤ g') → K (a.put o.dst (.slice (some ⟨g', 0, none⟩) (n + 1) c')) w') :
    if Region.wanted o (yielded ops a.tmps) = true then Oper.wp P o a (w.alloc (.cells cs e)) K Q else F := by
  subst hcs
  have hw : Region.wanted o (yielded ops a.tmps) = true := by simp [Region.wanted, hgd]
  rw [if_pos hw]
  obtain ⟨g', c', w', hr, h1, h2, h3, h4⟩ := run_app1_both (P := P) w z bytes t o.type hu hinfo hz hE hby hown hn hB y
  unfold Oper.wp execOp
  simp only [ho, resolve, invoke, builtin, Sem.run_bind, Sem.run_pure, Result.andThen_ok, List.map_toArray, List.map_cons, List.map_nil, hs, hx, hr]
  exact h g' c' w' h1 h2 h3 h4
theorem step_loadT (hgd : o.guard = none) (x : Operand) (ho : o.op = .load 52 x) (gt : Nat) (hx : a.eval x = .pointer (some ⟨gt, 0, none⟩)) (t : List Int) (ht : t.length = 61) (hg : Arr w gt t)
    (h : K (a.put o.dst (tv t)) w) : if Region.wanted o (yielded ops a.tmps) = true then Oper.wp Try.prog o a w K Q else F := by
  have hw : Region.wanted o (yielded ops a.tmps) = true := by simp [Region.wanted, hgd]
  rw [if_pos hw]
  exact wp_load_row 52 x ho gt hx 52 _ (0, 0) _ hg und_tally rfl (tally_size ht) h
end

/-- What the search visits. -/
def lastB (b : List Int) : Int := gi b (b.length - 1)
def visP (V : List Int → List Int → List (List Int)) (b t : List Int) (p : Nat) : List (List Int) :=
  match wo b (p : Int) t with
  | some t' => V (b ++ [(p : Int)]) t'
  | none => []
def visN (V : List Int → List Int → List (List Int)) (b t : List Int) (m : Nat) : List (List Int) :=
  ((List.range m).filter fun p : Nat => decide (lastB b < (p : Int))).flatMap (visP V b t)
def vis : Nat → List Int → List Int → List (List Int)
  | 0, b, _ => [b]
  | k + 1, b, t => visN (vis k) b t 61
theorem visN_succ {V : List Int → List Int → List (List Int)} {b t : List Int} {m : Nat} (h : lastB b < (m : Int)) : visN V b t (m + 1) = visN V b t m ++ visP V b t m := by
  unfold visN
  rw [List.range_succ, List.filter_append, List.flatMap_append]
  simp [h]
theorem visN_start {V : List Int → List Int → List (List Int)} {b t : List Int} {m : Nat} (h : (m : Int) ≤ lastB b + 1) : visN V b t m = [] := by
  unfold visN
  have : (List.range m).filter (fun p : Nat => decide (lastB b < (p : Int))) = [] := by
    rw [List.filter_eq_nil_iff]
    intro p hp
    have := List.mem_range.1 hp
    simp
    omega
  rw [this]
  rfl
/-- A beginning of a row. -/
structure Beg (b : List Int) : Prop where
  all : ∀ k, k < b.length → 0 ≤ b.getD k 0 ∧ b.getD k 0 ≤ lastB b
  top : lastB b ≤ 60
  bot : 0 ≤ lastB b
theorem lastB_snoc (b : List Int) (p : Int) : lastB (b ++ [p]) = p := by simp [lastB, gi]
theorem Beg.snoc {b : List Int} (h : Beg b) {p : Int} (h1 : lastB b < p) (h2 : p ≤ 60) : Beg (b ++ [p]) := by
  refine ⟨fun k hk => ?_, by rw [lastB_snoc]; exact h2, by rw [lastB_snoc]; have := h.bot; omega⟩
  rw [lastB_snoc]
  by_cases e : k < b.length
  · have := h.all k e
    rw [List.getD_eq_getElem?_getD, List.getElem?_append_left e, ← List.getD_eq_getElem?_getD]
    omega
  · have e2 : k = b.length := by simp at hk; omega
    subst e2
    have := h.bot
    simp
    omega
theorem Beg.zero : Beg [0] := ⟨fun k hk => by
  have : k = 0 := by simpa using hk
  subst this
  decide, by decide, by decide⟩

theorem gb_undrew {w w' : World} {row : Option Nat} (h : w.drew.grownBy w' row) : w.grownBy w' row := ⟨h.os, h.tape, h.output, h.size, h.block⟩
theorem gb_fresh {W X Y : World} {row : Option Nat} {g : Nat} (h : W.grownBy X row) (k : X.grownBy Y (some g)) (hg : W.heap.size ≤ g) : W.grownBy Y row :=
  ⟨k.os.trans h.os, k.tape.trans h.tape, k.output.trans h.output, Nat.le_trans h.size k.size, fun i hi hn => (k.block i (Nat.lt_of_lt_of_le hi h.size) (fun e => by injection e with e; omega)).trans (h.block i hi hn)⟩
theorem visN_more {V : List Int → List Int → List (List Int)} {b t : List Int} (m q : Nat) : ∃ r, visN V b t (m + q) = visN V b t m ++ r := by
  unfold visN
  rw [List.range_add, List.filter_append, List.flatMap_append]
  exact ⟨_, rfl⟩
theorem gb_arr {w w' : World} {B n c g h : Nat} {l t : List Int} (r : w.grownBy w' (some g)) (ha : Arr w h t) (ho : Own E1 w B 3 (some ⟨g, 0, none⟩) n c l) : Arr w' h t := by
  refine (r.block h ha.lt (fun e => ?_)).trans ha
  injection e with e
  subst e
  rcases ho.2.2 with ⟨hv, _⟩ | ⟨g', cap, cur, hv, hb, hg', _⟩
  · simp at hv
  · simp at hv
    obtain ⟨rfl, rfl⟩ := hv
    rw [ha.eq] at hg'
    injection hg' with hg'
    injection hg' with _ h2 _
    revert h2
    decide
theorem own_gt {w : World} {B n c g : Nat} {e : TypeId} {l : List Int} (ho : Own E1 w B e (some ⟨g, 0, none⟩) n c l) : g < w.heap.size ∧ n ≤ c ∧ c ≤ maxLen ∧ B ≤ g := by
  rcases ho.form with ⟨h, _⟩ | ⟨g', h, h1, h2, h3, h4⟩
  · cases h
  · injection h with h; injection h with h; subst h; exact ⟨h2, h3, h4, h1⟩

/-- Behind an append to a beginning and a call with the longer one: what is kept. -/
theorem kept_step {w w3 w5 w6 : World} {B gb n c g5 c5 h : Nat} {b t : List Int} {p : Int} (G3 : w.grownBy w3 (some gb)) (o5 : Own E1 w5 B 3 (some ⟨g5, 0, none⟩) (n + 1) c5 (b ++ [p])) (k5 : Own E1 w5 B 3 (some ⟨gb, 0, none⟩) n c b)
    (r5 : w3.drew.grownBy w5 (some gb)) (e5 : g5 = gb ∧ c5 = c ∨ w3.drew.heap.size ≤ g5) (r6 : w5.grownBy w6 (some g5)) (hA : Arr w3 h t) (o3 : Own E1 w3 B 3 (some ⟨gb, 0, none⟩) n c b) :
    w.grownBy w6 (some gb) ∧ Arr w6 h t ∧ (Own E1 w6 B 3 (some ⟨g5, 0, none⟩) (n + 1) c5 (b ++ [p]) → Own E1 w6 B 3 (some ⟨gb, 0, none⟩) n c b) := by
  have hA5 := gb_arr (gb_undrew r5) hA o3
  have hA6 := gb_arr r6 hA5 o5
  have G5 := gb_trans G3 (gb_undrew r5)
  rcases e5 with ⟨rfl, rfl⟩ | e5
  · exact ⟨gb_trans G5 r6, hA6, fun o6 => own_pre o6⟩
  · have hs : w3.heap.size ≤ g5 := e5
    have hg : gb < w3.heap.size := (own_gt o3).1
    refine ⟨gb_fresh G5 r6 (Nat.le_trans G3.size hs), hA6, fun _ => k5.kept r6 (.inr ?_)⟩
    simp [Value.ownBlock]
    omega
/-- What a search that stops leaves. -/
def StopPost (B gb n c : Nat) (b : List Int) (vs : List (List Int)) (w : World) (e : Ending) (w' : World) : Prop :=
  w.grownBy w' (some gb) ∧ ((vs = [] ∧ e = .returned (.tuple #[]) ∧ Own E1 w' B 3 (some ⟨gb, 0, none⟩) n c b) ∨
    ∃ L rest A' n' c', vs = L :: rest ∧ e = .panicked [{ v := .iface 56 (.slice A' n' c'), recovered := false }] ∧ Own E1 w' B 3 A' n' c' L)
set_option maxHeartbeats 400000 in
theorem stop_any (v : Value) (w : World) :
    Calls Try.prog 80 #[v] w fun e w' => e = .panicked [{ v := .iface 56 v, recovered := false }] ∧ w = w' := by
  go_enter Try.func80, Try.ntmps80
  go_wp2
  exact ⟨rfl, rfl, rfl⟩
section
variable (w : World) {ops : Array Oper} {rest : List Oper} {o : Oper} {a : Act} {Q : Exit → Act → World → Prop}
theorem wpList_storeNew (hg : o.guard = none) (x y : Operand) (hop : o.op = Op.store 52 x y) (zs : Array Value) (hzs : zs = (intsV none61).toArray) (key : List Int) (hlen : key.length = 61)
    (hx : a.eval x = .pointer (some ⟨w.heap.size, 0, none⟩)) (hy : a.eval y = tv key)
    (hK : ∀ w3, Arr w3 w.heap.size key → Below w.heap.size w w3 → w.heap.size < w3.heap.size → wpList Try.prog ops Q rest (a.put o.dst undef) w3) : wpList Try.prog ops Q (o :: rest) a (w.alloc (.cells zs 52)) := by
  subst hzs
  have hnew := heap_alloc_new w (.cells (intsV none61).toArray 52)
  refine wpList_store_row hg 52 x y hop w.heap.size (intsV key).toArray hx hy 52 _ hnew (tally_size hlen) (by rw [List.size_toArray, List.size_toArray, intsV_length, intsV_length, hlen]; rfl) (all_one _) ?_
  have hA : Arr ((w.alloc (.cells (intsV none61).toArray 52)).setRow w.heap.size (intsV key).toArray) w.heap.size key := setRow_heap _ w.heap.size _ _ 52 _ hnew
  exact hK _ hA (below_setRow ((Below.refl _ w).alloc (Nat.le_refl _) _) (Nat.le_refl _) _) hA.lt
end
set_option maxRecDepth 100000 in
set_option maxHeartbeats 4000000 in
theorem search_stop (B : Nat) : ∀ (k : Nat) (gb n c : Nat) (b t : List Int) (w : World), Own E1 w B 3 (some ⟨gb, 0, none⟩) n c b → 1 ≤ n → n + k ≤ 10 → Beg b → Tal t → B ≤ w.heap.size →
    Calls Try.prog 72 #[.slice (some ⟨gb, 0, none⟩) n c, .int .i64 ((n + k : Nat) : Int), tv t, .func (.func 80) #[] #[]] w (StopPost B gb n c b (vis k b t) w)
  | 0, gb, n, c, b, t, w, ho, hn1, hn, hb, ht, hB => by
    have HO := hide ho
    have hgb : gb < w.heap.size := by
      rcases ho.form with ⟨h, _⟩ | ⟨g, h, _, h2, _⟩
      · cases h
      · injection h with h; injection h with h; omega
    clear ho
    have hcn : ((n : Int) == ((n + 0 : Nat) : Int)) = true := by simp
    go_enter Try.func72, Try.ntmps72
    go_wp2_with (first
      | (refine Go.Great.wpList_boxTo (o := ⟨some 6, _, _, _, _, _⟩) rfl 52 (.tmp 2) rfl (some 6) rfl w.heap.size rfl (intsV t).toArray rfl ?_)
      | (go_at_call 92; refine (CloneI_any _ _ _ b _ (HO.out.alloc _).row (by omega)).mono ?_; rintro e w2 ⟨A2, c2, rfl, o2, b2⟩; have HO2 := hide o2; have B2 := hide b2; clear o2 b2)
      | (go_at_call 80; refine (stop_any _ _).mono ?_; rintro e w3 ⟨rfl, rfl⟩))
    exact ⟨rfl, gb_below (gb_alloc (gb_refl w (some gb)) _) B2.out, .inr ⟨b, [], A2, n, c2, rfl, rfl, HO2.out.more (by simp; omega)⟩⟩
  | k + 1, gb, n, c, b, t, w, ho, hn1, hn, hb, ht, hB => by
    have HO := hide ho
    obtain ⟨hgb, hnc, hcm, hBg⟩ := own_gt ho
    have hcm' : c ≤ 9223372036854775807 := hcm
    have HL := hide ho.len
    have HB := hide hb
    have HT := hide ht
    have hts := ht.len
    have a1 := own1 ho (k := n - 1) (by omega)
    have hlast : lastB b = gi b (n - 1) := by unfold lastB; rw [HL.out]
    rw [← hlast] at a1
    have b1 := hb.top
    have b2 := hb.bot
    clear ho hb hlast hcm ht
    have HW0 := hide (show visN (vis k) b t (lastB b + 1).toNat = [] from visN_start (by omega))
    have HWE := hide (show vis (k + 1) b t = visN (vis k) b t 61 from rfl)
    have HS := hide (fun (m : Nat) (h : lastB b < (m : Int)) => visN_succ (V := vis k) (b := b) (t := t) h)
    have HBS := hide (fun (p : Int) (h1 : lastB b < p) (h2 : p ≤ 60) => HB.out.snoc h1 h2)
    have HBA := hide (fun (p : Int) (h1 : lastB b < p) (j : Nat) (hj : j < n) => (show 0 ≤ b.getD j 0 ∧ b.getD j 0 < p from by
      have h2 := HB.out.all j (by rw [HL.out]; exact hj)
      omega))
    generalize lastB b = lb at *
    obtain ⟨m0, rfl⟩ : ∃ m0 : Nat, lb = (m0 : Int) := ⟨lb.toNat, by omega⟩
    have hcn : ((n : Int) == (n : Int) + ((k : Int) + 1)) = false := by
      rw [beq_eq_false_iff_ne]; omega
    have hnk : (((n + 1) + k : Nat) : Int) = (n : Int) + ((k : Int) + 1) := by omega
    have i1 : (0 : Int) ≤ (n : Int) - 1 := by omega
    have i2 : (n : Int) - 1 < (n : Int) := by omega
    have i3 : ((n : Int) - 1).toNat = n - 1 := by omega
    go_enter Try.func72, Try.ntmps72
    go_wp2_with (first
      | (refine Go.Great.wpList_boxTo (o := ⟨some 6, _, _, _, _, _⟩) rfl 52 (.tmp 2) rfl (some 6) rfl w.heap.size rfl (intsV t).toArray rfl ?_))
    clear a1 i1 i2 i3
    go_loopw [8] (fun i wr => ∃ p : Nat, m0 + 1 ≤ p ∧ p ≤ 61 ∧ i = .int .i64 p ∧ Hid (Own E1 wr B 3 (some ⟨gb, 0, none⟩) n c b) ∧ Hid (Arr wr w.heap.size t) ∧ Hid (w.grownBy wr (some gb)) ∧ Hid (visN (vis k) b t p = [])) (fun i _ => 61 - (intOf i).toNat)
    case atStart => exact ⟨m0 + 1, by omega, by omega, by go_num, hide (HO.out.alloc _), hide (heap_alloc_new w _), hide (gb_alloc (gb_refl _ _) _), hide (by have := HW0.out; rwa [show ((m0 : Int) + 1).toNat = m0 + 1 by omega] at this)⟩
    case round =>
      obtain ⟨p, hp0, hp, rfl, HOr, HA, HG, HV⟩ := hrel
      by_cases hlt : p ≤ 60
      · have i1 : (p : Int) ≤ 60 := by omega
        have hsr := HG.out.size
        have hAt := HA.out.lt
        have HVS := hide (HS.out p (by omega))
        have hgr := (own_gt HOr.out).1
        cases hwo : wo b (p : Int) t with
        | none =>
          have HVN := hide (show visN (vis k) b t (p + 1) = [] from by rw [HVS.out, HV.out]; unfold visP; rw [hwo]; rfl)
          have HWO := hide hwo
          clear hwo HVS
          go_wp2_with (first
            | (refine wpList_load_row (o := ⟨some 31, _, _, _, _, _⟩) rfl 52 (.tmp 6) rfl w.heap.size rfl 52 (intsV t).toArray (0, 0) _ HA.out.eq und_tally rfl (tally_size hts) ?_)
            | (go_at_call 95; refine (without_any t _ n c b p _ HOr.out.row (by omega) HT.out (HBA.out p (by omega)) i1).mono ?_; rintro e w1 ⟨rfl, d1⟩; rw [HWO.out]; have D1 := hide d1; have hs1 := d1.size; clear d1; dsimp only [woV])
            | (refine wpList_storeNew w1 (o := ⟨none, Op.store 52 _ _, _, _, _, _⟩) rfl (.tmp 9) (.tmp 35) rfl _ none61_eq none61 rfl rfl rfl ?_; intro w3 A3 d3 hs3; have D3 := hide d3; clear A3 d3))
          have g3 : w.grownBy w3 (some gb) := gb_below (gb_below HG.out D1.out) D3.out
          go_roundw
          case rel => exact ⟨p + 1, by omega, by omega, by go_num, hide ((HOr.out.below D1.out (Nat.le_refl _)).below D3.out (Nat.le_refl _)), hide ((HA.out.below D1.out hAt).below D3.out (by omega)), hide g3, HVN⟩
          case measure => simp [intOf]; omega
        | some t' =>
          have HT' := hide (HT.out.wo hwo (fun x hx => by
            obtain ⟨j, hj, e⟩ := List.getElem_of_mem hx
            have h1 := HBA.out p (by omega) j (by rw [← HL.out]; exact hj)
            have h2 : b.getD j 0 = x := by rw [List.getD_eq_getElem?_getD, List.getElem?_eq_getElem hj]; exact e
            rw [h2] at h1
            omega))
          have hts' := HT'.out.len
          have HVN := hide (show visN (vis k) b t (p + 1) = vis k (b ++ [(p : Int)]) t' from by rw [HVS.out, HV.out]; unfold visP; rw [hwo]; rfl)
          have HWO := hide hwo
          clear hwo HVS
          go_wp2_with (first
            | (refine wpList_load_row (o := ⟨some 31, _, _, _, _, _⟩) rfl 52 (.tmp 6) rfl w.heap.size rfl 52 (intsV t).toArray (0, 0) _ HA.out.eq und_tally rfl (tally_size hts) ?_)
            | (go_at_call 95; refine (without_any t _ n c b p _ HOr.out.row (by omega) HT.out (HBA.out p (by omega)) i1).mono ?_; rintro e w1 ⟨rfl, d1⟩; rw [HWO.out]; have D1 := hide d1; have hs1 := d1.size; clear d1; dsimp only [woV])
            | (refine wpList_storeNew w1 (o := ⟨none, Op.store 52 _ _, _, _, _, _⟩) rfl (.tmp 9) (.tmp 35) rfl _ none61_eq t' hts' rfl rfl ?_; intro w3 A3 d3 hs3; have D3 := hide d3; have HA3 := hide A3; clear A3 d3))
          have g3 : w.grownBy w3 (some gb) := gb_below (gb_below HG.out D1.out) D3.out
          have HG3 := hide g3
          have HO3 := hide ((HOr.out.below D1.out (Nat.le_refl _)).below D3.out (Nat.le_refl _))
          have HAt3 := hide ((HA.out.below D1.out hAt).below D3.out (by omega))
          have HA4 := fun {g5 c5 : Nat} {w5 : World} (_ : Own E1 w5 B 3 (some ⟨g5, 0, none⟩) (n + 1) c5 (b ++ [(p : Int)])) (_ : Own E1 w5 B 3 (some ⟨gb, 0, none⟩) n c b) (r : w3.drew.grownBy w5 (some gb)) => (gb_arr (gb_undrew r) HA3.out HO3.out)
          clear g3 HOr HA HG D1 D3
          refine wp_region_any (by kernel_rfl) ?_
          change wpAny _ _ _ _ _ _ _ (World.drew _)
          refine wpAny_take (i := 0) (v := .slice (some ⟨gb, 0, none⟩) n c) rfl (by kernel_rfl) (by kernel_rfl) (by kernel_rfl) (fun _ _ _ h => h) (Or.inl ⟨by rfl, by intro w; go_simp⟩) ?_
          refine wpAny_take (i := 1) (v := .int .i64 p) rfl (by kernel_rfl) (by kernel_rfl) (by kernel_rfl) (fun _ _ _ h => h) (Or.inl ⟨by rfl, by intro w; go_simp⟩) ?_
          refine wpAny_take (i := 4) (v := .int .i64 ((n : Int) + ((k : Int) + 1))) rfl (by kernel_rfl) (by kernel_rfl) (by kernel_rfl) (fun _ _ _ h => h) (Or.inl ⟨by rfl, by intro w; go_simp⟩) ?_
          refine wpAny_take (i := 6) (v := .func (.func 80) #[] #[]) rfl (by kernel_rfl) (by kernel_rfl) (by kernel_rfl) (fun _ _ _ h => h) (Or.inl ⟨by rfl, by intro w; go_simp⟩) ?_
          refine wpAny_ready (rs := [2, 5]) (by kernel_rfl) (by simp) (AllReady.cons rfl (fun K hK => ?_) (AllReady.cons rfl (fun K hK => ?_) AllReady.nil))
          · go_simp
            refine hK _ _ ?_
            clear hK K
            refine wpAny_ready (rs := [3, 5]) (by kernel_rfl) (by simp) (AllReady.cons rfl (fun K hK => ?_) (AllReady.cons rfl (fun K hK => ?_) AllReady.nil))
            · refine step_appB (E := E1) w3.drew (.int .i64 0) 8 rfl (.tmp 38) (.tmp 40) 22 rfl Try.underlying22 info_int rfl (by decide) (by omega) B n c gb b p _ rfl rfl rfl (HO3.out.drew) (by omega) (by simp; omega) ?_
              intro g5 c5 w5 o5 k5 r5 e5
              refine hK _ _ ?_
              clear hK K
              refine wpAny_ready (rs := [5]) (by kernel_rfl) (by simp) (AllReady.cons rfl (fun K hK => ?_) AllReady.nil)
              refine step_loadT _ rfl (.tmp 9) rfl w1.heap.size rfl t' hts' (HA4 o5 k5 r5) ?_
              refine hK _ _ ?_
              clear hK K
              refine wpAny_ready (rs := [7]) (by kernel_rfl) (by simp) (AllReady.cons rfl (fun K hK => ?_) AllReady.nil)
              go_simp
              have hcs := search_stop B k g5 (n + 1) c5 (b ++ [(p : Int)]) t' w5 o5 (by omega) (by omega) (HBS.out p (by omega) i1) HT'.out (by have := r5.size; simp at this; omega)
              rw [hnk] at hcs
              refine hcs.mono ?_
              rintro e w6 ⟨r6, h6⟩
              obtain ⟨G6, A6, O6⟩ := kept_step HG3.out o5 k5 r5 e5 r6 HAt3.out HO3.out
              rcases h6 with ⟨hv, rfl, o6⟩ | ⟨L, rest, A', n', c', hv, rfl, o6⟩
              · refine hK _ _ ?_
                refine wpAny_done (by kernel_rfl) ?_ _
                have HO6 := hide (O6 o6)
                have HA6 := hide A6
                have HG6 := hide G6
                clear hK K hcs r6 O6 o6 A6 G6 o5 k5 r5
                go_wp2_with fail
                go_roundw
                case rel => exact ⟨p + 1, by omega, by omega, by go_num, HO6, HA6, HG6, hide (HVN.out.trans hv)⟩
                case measure => simp [intOf]; omega
              · obtain ⟨r, hr⟩ := visN_more (V := vis k) (b := b) (t := t) (p + 1) (60 - p)
                refine ⟨rfl, G6, .inr ⟨L, rest ++ r, A', n', c', ?_, rfl, o6⟩⟩
                rw [HWE.out, show 61 = p + 1 + (60 - p) by omega, hr, HVN.out, hv]
                rfl
            · refine step_loadT _ rfl (.tmp 9) rfl w1.heap.size rfl t' hts' (HA3.out.more _) ?_
              refine hK _ _ ?_
              clear hK K
              refine wpAny_ready (rs := [3]) (by kernel_rfl) (by simp) (AllReady.cons rfl (fun K hK => ?_) AllReady.nil)
              refine step_appB (E := E1) w3.drew (.int .i64 0) 8 rfl (.tmp 38) (.tmp 40) 22 rfl Try.underlying22 info_int rfl (by decide) (by omega) B n c gb b p _ rfl rfl rfl (HO3.out.drew) (by omega) (by simp; omega) ?_
              intro g5 c5 w5 o5 k5 r5 e5
              refine hK _ _ ?_
              clear hK K
              refine wpAny_ready (rs := [7]) (by kernel_rfl) (by simp) (AllReady.cons rfl (fun K hK => ?_) AllReady.nil)
              go_simp
              have hcs := search_stop B k g5 (n + 1) c5 (b ++ [(p : Int)]) t' w5 o5 (by omega) (by omega) (HBS.out p (by omega) i1) HT'.out (by have := r5.size; simp at this; omega)
              rw [hnk] at hcs
              refine hcs.mono ?_
              rintro e w6 ⟨r6, h6⟩
              obtain ⟨G6, A6, O6⟩ := kept_step HG3.out o5 k5 r5 e5 r6 HAt3.out HO3.out
              rcases h6 with ⟨hv, rfl, o6⟩ | ⟨L, rest, A', n', c', hv, rfl, o6⟩
              · refine hK _ _ ?_
                refine wpAny_done (by kernel_rfl) ?_ _
                have HO6 := hide (O6 o6)
                have HA6 := hide A6
                have HG6 := hide G6
                clear hK K hcs r6 O6 o6 A6 G6 o5 k5 r5
                go_wp2_with fail
                go_roundw
                case rel => exact ⟨p + 1, by omega, by omega, by go_num, HO6, HA6, HG6, hide (HVN.out.trans hv)⟩
                case measure => simp [intOf]; omega
              · obtain ⟨r, hr⟩ := visN_more (V := vis k) (b := b) (t := t) (p + 1) (60 - p)
                refine ⟨rfl, G6, .inr ⟨L, rest ++ r, A', n', c', ?_, rfl, o6⟩⟩
                rw [HWE.out, show 61 = p + 1 + (60 - p) by omega, hr, HVN.out, hv]
                rfl
          · refine step_loadT _ rfl (.tmp 9) rfl w1.heap.size rfl t' hts' HA3.out ?_
            refine hK _ _ ?_
            clear hK K
            refine wpAny_ready (rs := [2]) (by kernel_rfl) (by simp) (AllReady.cons rfl (fun K hK => ?_) AllReady.nil)
            go_simp
            refine hK _ _ ?_
            clear hK K
            refine wpAny_ready (rs := [3]) (by kernel_rfl) (by simp) (AllReady.cons rfl (fun K hK => ?_) AllReady.nil)
            refine step_appB (E := E1) w3.drew (.int .i64 0) 8 rfl (.tmp 38) (.tmp 40) 22 rfl Try.underlying22 info_int rfl (by decide) (by omega) B n c gb b p _ rfl rfl rfl (HO3.out.drew) (by omega) (by simp; omega) ?_
            intro g5 c5 w5 o5 k5 r5 e5
            refine hK _ _ ?_
            clear hK K
            refine wpAny_ready (rs := [7]) (by kernel_rfl) (by simp) (AllReady.cons rfl (fun K hK => ?_) AllReady.nil)
            go_simp
            have hcs := search_stop B k g5 (n + 1) c5 (b ++ [(p : Int)]) t' w5 o5 (by omega) (by omega) (HBS.out p (by omega) i1) HT'.out (by have := r5.size; simp at this; omega)
            rw [hnk] at hcs
            refine hcs.mono ?_
            rintro e w6 ⟨r6, h6⟩
            obtain ⟨G6, A6, O6⟩ := kept_step HG3.out o5 k5 r5 e5 r6 HAt3.out HO3.out
            rcases h6 with ⟨hv, rfl, o6⟩ | ⟨L, rest, A', n', c', hv, rfl, o6⟩
            · refine hK _ _ ?_
              refine wpAny_done (by kernel_rfl) ?_ _
              have HO6 := hide (O6 o6)
              have HA6 := hide A6
              have HG6 := hide G6
              clear hK K hcs r6 O6 o6 A6 G6 o5 k5 r5
              go_wp2_with fail
              go_roundw
              case rel => exact ⟨p + 1, by omega, by omega, by go_num, HO6, HA6, HG6, hide (HVN.out.trans hv)⟩
              case measure => simp [intOf]; omega
            · obtain ⟨r, hr⟩ := visN_more (V := vis k) (b := b) (t := t) (p + 1) (60 - p)
              refine ⟨rfl, G6, .inr ⟨L, rest ++ r, A', n', c', ?_, rfl, o6⟩⟩
              rw [HWE.out, show 61 = p + 1 + (60 - p) by omega, hr, HVN.out, hv]
              rfl
      · obtain rfl : p = 61 := by omega
        go_wp2_with fail
        go_end0
        exact ⟨HG.out, .inl ⟨HWE.out.trans HV.out, rfl, HOr.out⟩⟩
end Go.Proofs.Ytllfkhcpdgdmnaa
