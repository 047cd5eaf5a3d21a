/- The walk of pooling: the runs of the best row. -/
import Derived.Test.YtlmmkaadoicogaaWalkC
import Derived.Deep.RegionHeld3
import Derived.Deep.RegionWith
import Derived.Deep.RegionLaw
import Derived.Laws.IdiomCopy
import Derived.OwnWalk
import Derived.Laws.MakeOwn
namespace Go.Proofs.Ytlmmkaadoicogaa
open Go.RowKit

theorem Row.sub {w : World} {A : Option Addr} {n c : Nat} {xs : Rd} {b off : Nat} (h : RowAt w A n c xs b off) {i m : Nat} (hi : i + m ≤ n) : Row w (some ⟨b, off + i * 2, none⟩) m (c - i) ((xs.drop i).take m) := by
  obtain ⟨h1, hcap, hmax, h2, h3, h4⟩ := h
  refine ⟨b, off + i * 2, by rw [List.length_take, List.length_drop]; omega, by omega, by omega, fun _ => rfl, fun h => h3 (by omega), fun k hk => ?_⟩
  have := h4 (i + k) (by omega)
  rw [show off + i * 2 + k * 2 = off + (i + k) * 2 by omega]
  have e : ((xs.drop i).take m).getD k (0, 0) = xs.getD (i + k) (0, 0) := by
    simp [List.getD_eq_getElem?_getD, hk]
  rw [e]
  exact this
theorem sub_get (xs : Rd) {i m k : Nat} (hk : k < m) : ((xs.drop i).take m).getD k (0, 0) = xs.getD (i + k) (0, 0) := by
  simp [List.getD_eq_getElem?_getD, hk]
theorem okH_sub {xs : Rd} (o : okH xs = true) (i m : Nat) : okH ((xs.drop i).take m) = true := by
  refine List.all_eq_true.2 fun x hx => List.all_eq_true.1 o x ?_
  exact List.mem_of_mem_drop (List.mem_of_mem_take hx)
theorem isum_shift (f : Nat → Int) (i : Nat) : ∀ k, isum (fun j => f (i + j)) k = isum f (i + k) - isum f i
  | 0 => by simp [isum]
  | k + 1 => by
    simp only [isum, isum_shift f i k]
    show _ = isum f (i + k + 1) - isum f i
    simp only [isum]
    omega
theorem nS_sub (xs : Rd) (i m : Nat) : nS ((xs.drop i).take m) m = nS xs (i + m) - nS xs i := by
  unfold nS
  rw [← isum_shift]
  refine isum_congr fun k hk => ?_
  unfold wI vI
  rw [sub_get xs hk]
theorem dS_sub (xs : Rd) (i m : Nat) : dS ((xs.drop i).take m) m = dS xs (i + m) - dS xs i := by
  unfold dS
  rw [← isum_shift]
  refine isum_congr fun k hk => ?_
  unfold wI
  rw [sub_get xs hk]
theorem mean_one {A : Option Addr} {n c : Nat} {xs : Rd} {b off : Nat} {w : World} (h : RowAt w A n c xs b off) (o : okH xs = true) (_hn : n ≤ 12) {i : Nat} (hi : i < n) {m cc : Nat} (hm : m = 1) (hcc : cc = c - i) :
    Calls Try.prog 61 #[.slice (some ⟨b, off + i * 2, none⟩) m cc] w fun e w' => e = .returned (.agg #[.int .i64 (wI xs i * vI xs i), .int .i64 (wI xs i)]) ∧ Below w.heap.size w w' := by
  subst hm hcc
  have := mean_any _ _ _ _ w (Row.sub h (i := i) (m := 1) (by omega)) (okH_sub o i 1) (by omega)
  rw [nS_sub, dS_sub] at this
  rw [show nS xs (i + 1) - nS xs i = wI xs i * vI xs i by rw [nS_succ]; omega, show dS xs (i + 1) - dS xs i = wI xs i by rw [dS_succ]; omega] at this
  exact this

/-- The array of runs holds a stack of runs. -/
def Hold (cs : Array Value) (j : Nat) (r : Rn) : Prop :=
  cs[j * 4]? = some (.int .i64 r.a) ∧ cs[j * 4 + 1]? = some (.int .i64 r.b) ∧ cs[j * 4 + 2]? = some (.int .i64 r.n) ∧ cs[j * 4 + 3]? = some (.int .i64 r.d)
def Holds (cs : Array Value) : List Rn → Prop
  | [] => True
  | r :: rest => Hold cs rest.length r ∧ Holds cs rest

theorem Bk.four {w : World} {g : Nat} {t : TypeId} {x y z u : Value} (h : Bk w g t #[x, y, z, u]) : w.cell? ⟨g, 0, none⟩ = some x ∧ w.cell? ⟨g, 1, none⟩ = some y ∧ w.cell? ⟨g, 2, none⟩ = some z ∧ w.cell? ⟨g, 3, none⟩ = some u ∧
    w.frozen? ⟨g, 0, none⟩ = false ∧ w.frozen? ⟨g, 1, none⟩ = false ∧ w.frozen? ⟨g, 2, none⟩ = false ∧ w.frozen? ⟨g, 3, none⟩ = false :=
  ⟨h.at_ 0, h.at_ 1, h.at_ 2, h.at_ 3, h.fr 0, h.fr 1, h.fr 2, h.fr 3⟩
theorem Bk.have_ {w : World} {g : Nat} {t : TypeId} {cs : Array Value} (h : Bk w g t cs) {i : Nat} (hi : i < cs.size) : ∃ u, w.cell? ⟨g, i, none⟩ = some u ∧ w.frozen? ⟨g, i, none⟩ = false :=
  ⟨cs[i], (h.at_ i).trans (Array.getElem?_eq_getElem hi), h.fr i⟩
def set4 (cs : Array Value) (j : Nat) (r : Rn) : Array Value :=
  (((cs.setIfInBounds (j * 4) (.int .i64 r.a)).setIfInBounds (j * 4 + 1) (.int .i64 r.b)).setIfInBounds (j * 4 + 2) (.int .i64 r.n)).setIfInBounds (j * 4 + 3) (.int .i64 r.d)
theorem set4_size (cs : Array Value) (j : Nat) (r : Rn) : (set4 cs j r).size = cs.size := by simp [set4]
theorem set4_get (cs : Array Value) (j : Nat) (r : Rn) {i : Nat} (h : i < j * 4) : (set4 cs j r)[i]? = cs[i]? := by
  unfold set4
  rw [Array.getElem?_setIfInBounds_ne (by omega), Array.getElem?_setIfInBounds_ne (by omega), Array.getElem?_setIfInBounds_ne (by omega), Array.getElem?_setIfInBounds_ne (by omega)]
theorem hold_set4 (cs : Array Value) (j : Nat) (r : Rn) (h : j * 4 + 3 < cs.size) : Hold (set4 cs j r) j r := by
  unfold set4
  refine ⟨?_, ?_, ?_, ?_⟩
  · rw [Array.getElem?_setIfInBounds_ne (by omega), Array.getElem?_setIfInBounds_ne (by omega), Array.getElem?_setIfInBounds_ne (by omega), Array.getElem?_setIfInBounds_self_of_lt (by omega)]
  · rw [Array.getElem?_setIfInBounds_ne (by omega), Array.getElem?_setIfInBounds_ne (by omega), Array.getElem?_setIfInBounds_self_of_lt (by simp; omega)]
  · rw [Array.getElem?_setIfInBounds_ne (by omega), Array.getElem?_setIfInBounds_self_of_lt (by simp; omega)]
  · rw [Array.getElem?_setIfInBounds_self_of_lt (by simp; omega)]
theorem holds_set4 (cs : Array Value) (j : Nat) (r : Rn) : ∀ {st : List Rn}, st.length ≤ j → Holds cs st → Holds (set4 cs j r) st
  | [], _, _ => trivial
  | t :: rest, hl, h => by
    simp only [List.length_cons] at hl
    obtain ⟨⟨h0, h1, h2, h3⟩, h'⟩ := h
    refine ⟨⟨?_, ?_, ?_, ?_⟩, holds_set4 cs j r (by omega) h'⟩
    · rw [set4_get _ _ _ (by omega)]; exact h0
    · rw [set4_get _ _ _ (by omega)]; exact h1
    · rw [set4_get _ _ _ (by omega)]; exact h2
    · rw [set4_get _ _ _ (by omega)]; exact h3
theorem Bk.put4 {w : World} {g : Nat} {t : TypeId} {cs : Array Value} (h : Bk w g t cs) (j : Nat) (r : Rn) :
    Bk ((((w.setCell ⟨g, j * 4, none⟩ (.int .i64 r.a)).setCell ⟨g, j * 4 + 1, none⟩ (.int .i64 r.b)).setCell ⟨g, j * 4 + 2, none⟩ (.int .i64 r.n)).setCell ⟨g, j * 4 + 3, none⟩ (.int .i64 r.d)) g t (set4 cs j r) :=
  (((h.put _ _).put _ _).put _ _).put _ _
theorem Below.put4 {w w' : World} {B g : Nat} (h : Below B w w') (hg : B ≤ g) (i j k l : Nat) (x y z u : Value) :
    Below B w ((((w'.setCell ⟨g, i, none⟩ x).setCell ⟨g, j, none⟩ y).setCell ⟨g, k, none⟩ z).setCell ⟨g, l, none⟩ u) :=
  (((h.setCell hg _).setCell hg _).setCell hg _).setCell hg _
/-- copy of elements of several cells. -/
theorem run_copyN {P : Program} (w : World) (dT sT ty elem : TypeId) (b o dLen dCap : Nat) (a : Addr) (sLen sCap m : Nat) (cs : List Value) (i : TypeInfo)
    (hu : P.underlying dT = some (.slice elem)) (hq : P.info? elem = some i) (hm : Nat.min sLen dLen = m) (hn : cs.length = m * i.size)
    (hsrc : ∀ j v, cs[j]? = some v → w.cell? (a.add j) = some v) (hc : ∀ j, j < cs.length → (w.cell? ⟨b, o + j, none⟩).isSome = true) (hf : ∀ j, j < cs.length → w.frozen? ⟨b, o + j, none⟩ = false) (h1 : ∀ v ∈ cs, v.oneCell' = true) :
    (Builtin.copy_ #[dT, sT] ty #[.slice (some ⟨b, o, none⟩) dLen dCap, .slice (some a) sLen sCap]).run P w = .ok (goInt m) (w.setCells b o cs) := by
  have hl := run_loadCells_list (P := P) w a cs hsrc
  have hst := run_storeCells_cells (P := P) b o cs 0 w (by simpa using hc) (by simpa using hf) h1
  simp [Builtin.copy_, run_underlying hu, Builtin.lenOf, Builtin.firstCells, sizeOf, typeInfo, hq, hm, ← hn, hl, hst]
theorem wpList_copyN {P : Program} {w : World} {ops : Array Oper} {rest : List Oper} {o : Oper} {a : Act} {Q : Exit → Act → World → Prop} (hgd : o.guard = none) (d s : Operand) (dT sT : TypeId)
    (ho : o.op = .call { callee := .builtin .copy, args := #[d, s], argTypes := #[dT, sT] }) (elem : TypeId) (i : TypeInfo) (hu : P.underlying dT = some (.slice elem)) (hq : P.info? elem = some i)
    (b dLen dCap : Nat) (ad : Addr) (sLen sCap m : Nat) (hd : a.eval d = .slice (some ⟨b, 0, none⟩) dLen dCap) (hs : a.eval s = .slice (some ad) sLen sCap) (hm : Nat.min sLen dLen = m) (cs : List Value) (hn : cs.length = m * i.size)
    (hsrc : ∀ j v, cs[j]? = some v → w.cell? (ad.add j) = some v) (hc : ∀ j, j < cs.length → (w.cell? ⟨b, 0 + j, none⟩).isSome = true) (hf : ∀ j, j < cs.length → w.frozen? ⟨b, 0 + j, none⟩ = false) (h1 : ∀ v ∈ cs, v.oneCell' = true)
    (h : wpList P ops Q rest (a.put o.dst (goInt m)) (w.setCells b 0 cs)) : wpList P ops Q (o :: rest) a w := by
  refine wpList_plain hgd fun K hK => ?_
  have hrun := run_copyN (P := P) w dT sT o.type elem b 0 dLen dCap ad sLen sCap m cs i hu hq hm hn hsrc hc hf h1
  unfold Oper.wp
  simp [execOp, ho, resolve, invoke, builtin, hd, hs, hrun, Result.andThen]
  exact hK _ _ h
theorem Below.setCells {B g : Nat} (hg : B ≤ g) {w : World} : ∀ (cs : List Value) (o : Nat) (w' : World), Below B w w' → Below B w (w'.setCells g o cs)
  | [], _, _, h => h
  | v :: r, o, _, h => Below.setCells hg r (o + 1) _ (h.setCell hg v)
theorem setCells_size (g : Nat) : ∀ (cs : List Value) (o : Nat) (w : World), (w.setCells g o cs).heap.size = w.heap.size
  | [], _, _ => rfl
  | v :: r, o, w => by rw [World.setCells, setCells_size g r]; simp
/-- The runs that lie in block g. -/
structure RunsAt (w : World) (g : Nat) (l : List Rn) : Prop where
  lt : g < w.heap.size
  cell : ∀ k r, l[k]? = some r → w.cell? ⟨g, k * 4, none⟩ = some (.int .i64 r.a) ∧ w.cell? ⟨g, k * 4 + 1, none⟩ = some (.int .i64 r.b) ∧ w.cell? ⟨g, k * 4 + 2, none⟩ = some (.int .i64 r.n) ∧ w.cell? ⟨g, k * 4 + 3, none⟩ = some (.int .i64 r.d)
theorem RunsAt.below {w w' : World} {g B : Nat} {l : List Rn} (h : RunsAt w g l) (hb : Below B w w') (hB : g < B) : RunsAt w' g l := by
  refine ⟨Nat.lt_of_lt_of_le h.lt hb.size, fun k r hk => ?_⟩
  obtain ⟨h0, h1, h2, h3⟩ := h.cell k r hk
  exact ⟨(hb.cell (p := ⟨g, _, none⟩) hB).trans h0, (hb.cell (p := ⟨g, _, none⟩) hB).trans h1, (hb.cell (p := ⟨g, _, none⟩) hB).trans h2, (hb.cell (p := ⟨g, _, none⟩) hB).trans h3⟩
theorem holds_get {cs : Array Value} : ∀ {st : List Rn}, Holds cs st → ∀ k r, st.reverse[k]? = some r → Hold cs k r
  | [], _, k, r, hk => by simp at hk
  | t :: rest, h, k, r, hk => by
    rw [List.reverse_cons] at hk
    by_cases e : k < rest.reverse.length
    · rw [List.getElem?_append_left e] at hk
      exact holds_get h.2 k r hk
    · rw [List.getElem?_append_right (by omega)] at hk
      have hk0 : k - rest.reverse.length = 0 := by
        have := (List.getElem?_eq_some_iff.1 hk).1
        rw [List.length_singleton] at this
        omega
      rw [hk0] at hk
      simp at hk
      subst hk
      have : k = rest.length := by
        rw [List.length_reverse] at e hk0
        omega
      rw [this]
      exact h.1
theorem holds_one {cs : Array Value} {st : List Rn} (h : Holds cs st) : ∀ v ∈ cs.toList.take (st.length * 4), v.oneCell' = true := by
  intro v hv
  obtain ⟨j, hj, rfl⟩ := List.getElem_of_mem hv
  rw [List.length_take] at hj
  have hjl : j / 4 < st.reverse.length := by simp; omega
  obtain ⟨h0, h1, h2, h3⟩ := holds_get h (j / 4) _ (List.getElem?_eq_getElem hjl)
  rw [List.getElem_take]
  have e : ∀ x, cs[j]? = some (Value.int .i64 x) → (cs.toList[j]'(by omega)).oneCell' = true := fun x hx => by
    rw [Array.getElem?_eq_getElem (by simp at hj; omega)] at hx
    simp at hx
    simp [hx, Value.oneCell']
  have c : j = j / 4 * 4 ∨ j = j / 4 * 4 + 1 ∨ j = j / 4 * 4 + 2 ∨ j = j / 4 * 4 + 3 := by omega
  rcases c with c | c | c | c
  · exact e _ (by rw [← c] at h0; exact h0)
  · exact e _ (by rw [← c] at h1; exact h1)
  · exact e _ (by rw [← c] at h2; exact h2)
  · exact e _ (by rw [← c] at h3; exact h3)
theorem info_run : (Try.prog.info? 79).map (fun i => (i.zero, i.size, i.bytes)) = some (some (.agg #[.int .i64 0, .int .i64 0, .int .i64 0, .int .i64 0]), 4, 32) := by kernel_rfl
theorem wpList_mkRun (w : World) {ops : Array Oper} {rest : List Oper} {o : Oper} {a : Act} {Q : Exit → Act → World → Prop}
    (hgd : o.guard = none) (l c : Operand) (hop : o.op = Op.makeSlice 76 l c) (m : Nat) (hl : a.eval l = .int .i64 m) (hc : a.eval c = .int .i64 m) (hm : m ≤ 12)
    (h : ∀ w', Below w.heap.size w w' → w.heap.size < w'.heap.size → (∀ j, j < m * 4 → (w'.cell? ⟨w.heap.size, 0 + j, none⟩).isSome = true) → (∀ j, w'.frozen? ⟨w.heap.size, 0 + j, none⟩ = false) → wpList Try.prog ops Q rest (a.put o.dst (.slice (some ⟨w.heap.size, 0, none⟩) m m)) w') :
    wpList Try.prog ops Q (o :: rest) a w := by
  obtain ⟨i0, hi, hz0, hz1, hz2⟩ := info_parts info_run
  refine wpList_make_full (P := Try.prog) w hgd l c 76 hop w.heap.size 79 i0 _ 4 Try.underlying76 hi hz0 hz1 .i64 .i64 m m m hl hc rfl rfl (by rw [hz2]; omega) (by unfold maxLen; omega) (Nat.le_refl _) fun w' hown hg => ?_
  have hb : Below w.heap.size w w' := (Below.refl _ w).grown hg (Nat.le_refl _) fun k hk => by cases hk
  have hlen : (madeCells (Value.agg #[.int .i64 0, .int .i64 0, .int .i64 0, .int .i64 0]).cells (m * 4)).toList.length = m * 4 := hown.1
  have hlt : w.heap.size < w'.heap.size := by
    rcases hown.2 with ⟨hv, _⟩ | ⟨g, cap, cur, hv, _, hgg, _⟩
    · cases hv
    · simp at hv
      rw [hv.1]
      exact (Array.getElem?_eq_some_iff.1 hgg).1
  refine h w' hb hlt (fun j hj => ?_) fun j => ?_
  · rw [Nat.zero_add, World.ownsRow.cellAt hown j (by omega), List.getElem?_eq_getElem (by omega)]
    rfl
  · rw [Nat.zero_add]
    exact World.ownsRow.frozenAt hown j
theorem kept_array : Try.prog.underlying 88 = some (.array 12 79) := by kernel_rfl
theorem slice_kept (W : World) (a : Addr) (m : Nat) (hm : m ≤ 12) : (Instr.sliceAt 88 (.pointer (some a)) none (some (.int .i64 (m : Int))) none).run Try.prog W = .ok (.slice (some a) m 12) W := by
  have h12 : Try.prog.arrayLen 88 = 12 := by kernel_rfl
  have he : Try.prog.elem 88 = 79 := by kernel_rfl
  obtain ⟨i0, hi, hz0, hz1, hz2⟩ := info_parts info_run
  rw [run_sliceAt_array_h (P := Try.prog) W 88 a (by rw [h12, he]; exact kept_array) .i64 m (by omega) (by rw [h12]; omega), h12, he]
  simp [sizeOf, typeInfo, hi, slicedAt, Result.andThen, Addr.add]
theorem stk_rev {xs : Rd} {st : List Rn} {n : Nat} (h : Stk xs st n) : Stk xs st.reverse.reverse n := by rw [List.reverse_reverse]; exact h
theorem runs_lie {w : World} {g : Nat} {cs : Array Value} {st : List Rn} (hlt : g < w.heap.size) (hc : ∀ j, j < st.length * 4 → (w.cell? ⟨g, 0 + j, none⟩).isSome = true) (hs : st.length * 4 ≤ cs.size) (hh : Holds cs st) :
    RunsAt (w.setCells g 0 (cs.toList.take (st.length * 4))) g st.reverse := by
  have hl : (cs.toList.take (st.length * 4)).length = st.length * 4 := by rw [List.length_take]; simp; omega
  have key : ∀ j v, j < st.length * 4 → cs[j]? = some v → (w.setCells g 0 (cs.toList.take (st.length * 4))).cell? ⟨g, j, none⟩ = some v := by
    intro j v hj hv
    have := World.cell?_setCells_in g (cs.toList.take (st.length * 4)) 0 w (fun i hi => hc i (by omega)) j (by omega)
    rw [Nat.zero_add] at this
    rw [this, List.getElem_take]
    rw [Array.getElem?_eq_getElem (by omega)] at hv
    simpa using hv
  refine ⟨by rw [setCells_size]; exact hlt, fun k r hk => ?_⟩
  have hkl : k < st.length := by have := (List.getElem?_eq_some_iff.1 hk).1; simpa using this
  obtain ⟨h0, h1, h2, h3⟩ := holds_get hh k r hk
  exact ⟨key _ _ (by omega) h0, key _ _ (by omega) h1, key _ _ (by omega) h2, key _ _ (by omega) h3⟩
theorem take_src {w : World} {g : Nat} {t : TypeId} {cs : Array Value} (h : Bk w g t cs) (m : Nat) : ∀ j v, (cs.toList.take m)[j]? = some v → w.cell? ((⟨g, 0, none⟩ : Addr).add j) = some v := by
  intro j v hj
  rw [List.getElem?_take] at hj
  split at hj
  · rw [show (⟨g, 0, none⟩ : Addr).add j = ⟨g, j, none⟩ by unfold Addr.add; split <;> simp_all, h.at_ j]
    simpa using hj
  · cases hj
theorem stk_len {h : Rd} : ∀ {st : List Rn} {i : Nat}, Stk h st i → st.length ≤ i
  | [], i, _ => Nat.zero_le _
  | r :: rest, i, s => by
    have := stk_len s.2.2.2
    have := s.2.1.le
    have := s.1
    simp only [List.length_cons]
    omega

theorem Good.bd {h : Rd} (o : okH h = true) (hl : h.length ≤ 12) {r : Rn} (g : Good h r) : 1 ≤ r.d ∧ r.d ≤ 108 ∧ 0 ≤ r.n ∧ r.n ≤ 10800 := by
  have := g.pos o
  have := g.le
  have := g.lt
  omega
theorem cmp3_le {x y : Int} (h : x ≤ y) : cmp3 x y ≤ 0 := by unfold cmp3; split <;> (try split) <;> omega
theorem cmp3_gt {x y : Int} (h : y < x) : 0 < cmp3 x y := by unfold cmp3; split <;> (try split) <;> omega
set_option maxRecDepth 100000 in
set_option maxHeartbeats 2000000 in
theorem runs_any (A : Option Addr) (n c : Nat) (xs : Rd) (w : World) (h : Row w A n c xs) (o : okH xs = true) (hn1 : 1 ≤ n) (hn2 : n ≤ 12) :
    Calls Try.prog 67 #[.slice A n c] w fun e w' => ∃ g l, e = .returned (.slice (some ⟨g, 0, none⟩) l.length l.length) ∧ Stk xs l.reverse n ∧ RunsAt w' g l ∧ w.heap.size ≤ g ∧ Below w.heap.size w w' := by
  obtain ⟨b, off, hr⟩ := h
  obtain rfl := hr.at_ (by omega)
  have hlt := hr.lt (by omega)
  have hcap := hr.cap
  have hmax := hr.max
  have hlen := hr.len
  have HR := hide hr
  have HB := hide hlt
  have O := hide o
  have HL := hide hlen
  clear hr hlt o hlen
  go_enter Try.func67, Try.ntmps67
  go_wp2
  go_loopw [4, 10] (fun s i wr => ∃ (k : Nat) (st : List Rn) (cs : Array Value), k ≤ n ∧ i = .int .i64 k ∧ s = .int .i64 st.length ∧ Stk xs st k ∧ Bk wr w.heap.size 88 cs ∧ cs.size = 48 ∧ Holds cs st ∧ Below w.heap.size w wr) (fun _ i _ => n - (intOf i).toNat)
  case atStart => exact ⟨0, [], _, Nat.zero_le _, rfl, rfl, rfl, Bk.born _ _ _, rfl, trivial, (by (repeat' (first | exact Below.refl _ _ | exact Nat.le_refl _ | refine Below.drew ?_ | refine below_drewN ?_ _ | refine Below.alloc ?_ ?_ _ | refine Below.setCell ?_ ?_ _)); all_goals (first | (simp; done) | (simp; omega)))⟩
  case round =>
    obtain ⟨k, st, cs, hk, rfl, rfl, hst, hblk, hsz, hh, hbel⟩ := hrel
    have hsl := stk_len hst
    have hin := hblk.in_
    have HST := hide hst
    have HBLK := hide hblk
    have HH := hide hh
    clear hst hblk hh
    by_cases hkn : k < n
    · have hread := HR.out.below hbel (Nat.le_refl _)
      have HREAD := hide hread
      clear hread
      have hwv : 1 ≤ wI xs k ∧ wI xs k ≤ 9 ∧ 0 ≤ wI xs k * vI xs k ∧ wI xs k * vI xs k ≤ 900 := by
        have g := (good_one (h := xs) (i := k) (by rw [HL.out]; exact hkn)).pos O.out
        simp at g
        omega
      generalize hwe : wI xs k = u at hwv
      generalize hve : u * vI xs k = v at hwv
      have HWE := hide hwe
      have HVE := hide hve
      clear hwe hve
      go_wp2_with fail
      refine (mean_one HREAD.out O.out hn2 (i := k) hkn (by omega) (by omega)).mono ?_
      rw [HWE.out, HVE.out]
      rintro e w1 ⟨rfl, hb1⟩
      have hz1 := hb1.size
      have hblk1 := HBLK.out.keep hb1 hin
      have hbel1 := hbel.trans (hb1.mono hbel.size)
      have HBLK1 := hide hblk1
      have hww := hblk1.in_
      clear hblk1 HREAD
      obtain ⟨w0, rfl⟩ : ∃ wo : World, wo = w1 := ⟨_, rfl⟩
      clear hbel HBLK hin hb1 hz1
      go_wp2_with fail
      go_loopw [4] (fun s wi => ∃ (j : Nat) (st' : List Rn) (r : Rn) , s = .int .i64 j ∧ st'.length = j ∧ Stk xs st' r.a ∧ Good xs r ∧ r.b = k ∧ Bk wi w.heap.size 88 cs ∧ Holds cs st' ∧ j ≤ k ∧ Bk wi w0.heap.size 79 #[.int .i64 r.a, .int .i64 r.b, .int .i64 r.n, .int .i64 r.d] ∧ Below w.heap.size w wi) (fun s _ => (intOf s).toNat)
      case atStart =>
        have G := good_one (h := xs) (i := k) (by rw [HL.out]; exact hkn)
        rw [HWE.out, HVE.out] at G
        exact ⟨st.length, st, ⟨k, k, v, u⟩, rfl, rfl, HST.out, G, rfl, HBLK1.out.more _, HH.out, hsl, Bk.born _ _ _, hbel1.alloc hbel1.size _⟩
      case round =>
        obtain ⟨j, st', r, rfl, hj, hs', hg', hrb, hblk', hh', hl', hlast, hbel'⟩ := hrel
        have p' := hg'.pos O.out
        have HS' := hide hs'
        have HG' := hide hg'
        have HBLK' := hide hblk'
        have HLAST := hide hlast
        have HRB := hide hrb
        have HJ := hide hj
        have la := hlast.at_ 0
        have lb := hlast.at_ 1
        have ln := hlast.at_ 2
        have ld := hlast.at_ 3
        have lf0 := hlast.fr 0
        have lf1 := hlast.fr 1
        have lf2 := hlast.fr 2
        have lf3 := hlast.fr 3
        simp at la lb ln ld
        clear hs' hg' hblk' hlast hrb hj
        by_cases hj0 : j = 0
        · subst hj0
          have hk12 : (k : Int) < 12 := by omega
          obtain ⟨u0, c0, g0⟩ := HBLK'.out.have_ (i := 0) (by omega)
          obtain ⟨u1, c1, g1⟩ := HBLK'.out.have_ (i := 1) (by omega)
          obtain ⟨u2, c2, g2⟩ := HBLK'.out.have_ (i := 2) (by omega)
          obtain ⟨u3, c3, g3⟩ := HBLK'.out.have_ (i := 3) (by omega)
          go_wp2_with fail
          go_quiet (fail)
          go_wp2
          go_roundw
          case rel =>
            obtain rfl : st' = [] := List.eq_nil_of_length_eq_zero HJ.out
            refine ⟨k + 1, [r], set4 cs 0 r, by omega, by go_num, by simp, ⟨by rw [HRB.out], HG'.out, fun r' hr' => by simp at hr', HS'.out⟩, (HBLK'.out.draws _).put4 0 r, by rw [set4_size]; exact hsz, ?_, Below.put4 (below_drewN hbel' _) (Nat.le_refl _) _ _ _ _ _ _ _ _⟩
            exact ⟨hold_set4 cs 0 r (by omega), trivial⟩
          case measure => simp [intOf]; omega
        · cases st' with
          | nil => exact absurd HJ.out.symm hj0
          | cons t rest =>
            have hjr : rest.length + 1 = j := by rw [← HJ.out]; rfl
            obtain ⟨t0, t1, t2, t3⟩ := hh'.1
            have c0 := (HBLK'.out.at_ (rest.length * 4)).trans t0
            have c2 := (HBLK'.out.at_ (rest.length * 4 + 2)).trans t2
            have c3 := (HBLK'.out.at_ (rest.length * 4 + 3)).trans t3
            have HH' := hide hh'
            have HT := hide (And.intro t0 (And.intro t2 t3))
            clear t0 t1 t2 t3 hh'
            obtain rfl : j = rest.length + 1 := hjr.symm
            generalize hrm : rest.length = m at *
            have HRM := hide hrm
            clear hrm
            go_wp2_with fail
            have hm12 : (m : Int) < 12 := by omega
            have hw0 : IntKind.i64.wrap (m : Int) = (m : Int) := IntWalk.i64_in _ (by omega)
            have d2 : World.cell? { heap := wr.heap, tape := wr.tape, drawn := wr.drawn + 1, os := wr.os, output := wr.output } ⟨w.heap.size, m * 4 + 2, none⟩ = some (.int .i64 t.n) := c2
            have d3 : World.cell? { heap := wr.heap, tape := wr.tape, drawn := wr.drawn + 1, os := wr.os, output := wr.output } ⟨w.heap.size, m * 4 + 3, none⟩ = some (.int .i64 t.d) := c3
            have d4 : World.cell? { heap := wr.heap, tape := wr.tape, drawn := wr.drawn + 1, os := wr.os, output := wr.output } ⟨w0.heap.size, 2, none⟩ = some (.int .i64 r.n) := ln
            have d5 : World.cell? { heap := wr.heap, tape := wr.tape, drawn := wr.drawn + 1, os := wr.os, output := wr.output } ⟨w0.heap.size, 3, none⟩ = some (.int .i64 r.d) := ld
            go_still_tail 10, (by kernel_rfl)
            clear d2 d3 d4 d5 c0 c2 c3 la lb ln ld lf0 lf1 lf2 lf3
            change wpList _ _ _ _ _ wr.drew
            have hblk2 := HBLK'.out.draw
            have hlast2 := HLAST.out.draw
            have hbel2 := hbel'.drew
            generalize wr.drew = w2 at *
            have gt := (HS'.out.2.1).bd O.out (by rw [HL.out]; exact hn2)
            have gr := HG'.out.bd O.out (by rw [HL.out]; exact hn2)
            have HBLK2 := hide hblk2
            have HLAST2 := hide hlast2
            clear hblk2 hlast2 hbel' HBLK' HLAST
            by_cases hc : t.n * r.d ≤ r.n * t.d
            · have hz := cmp3_le hc
              go_wp2_with fail
              refine (compareRR_any _ _ _ _ _ (by omega) (by omega) (by omega) (by omega) (by omega) (by omega) (by omega) (by omega)).mono ?_
              generalize cmp3 (t.n * r.d) (r.n * t.d) = z at hz
              rintro e w3 ⟨rfl, hb3⟩
              have hblk3 := HBLK2.out.keep hb3 HBLK2.out.in_
              have hlast3 := HLAST2.out.keep hb3 HLAST2.out.in_
              have hbel3 := hbel2.trans (hb3.mono hbel2.size)
              clear HBLK2 HLAST2 hb3 hbel2
              have HBLK3 := hide hblk3
              have HLAST3 := hide hlast3
              obtain ⟨t0, t2, t3⟩ := HT.out
              have e0 := (HBLK3.out.at_ (m * 4)).trans t0
              have e2 := (HBLK3.out.at_ (m * 4 + 2)).trans t2
              have e3 := (HBLK3.out.at_ (m * 4 + 3)).trans t3
              have ln := HLAST3.out.at_ 2
              have ld := HLAST3.out.at_ 3
              simp at ln ld
              clear t0 t2 t3 hblk3 hlast3
              go_wp2_with fail
              have hm12 : (m : Int) < 12 := by omega
              have la := HLAST3.out.at_ 0
              have lb := HLAST3.out.at_ 1
              have lf0 := HLAST3.out.fr 0
              have lf1 := HLAST3.out.fr 1
              have lf2 := HLAST3.out.fr 2
              have lf3 := HLAST3.out.fr 3
              simp at la lb
              have z1 := HBLK3.out.in_
              have z2 := HLAST3.out.in_
              go_region_law (first | (go_simp; go_at_call 81; refine (join_any _ _ _ _ _ (by omega) (by omega) (by omega) (by omega) (by omega) (by omega) (by omega) (by omega)).mono ?_; rintro e w5 ⟨rfl, hb5⟩; have HK5 := hide (HBLK3.out.draw.keep hb5 HBLK3.out.in_); have HL5 := hide (HLAST3.out.draw.keep hb5 HLAST3.out.in_); have v0 := (HK5.out.at_ (m * 4)).trans HT.out.1; obtain ⟨y0, y1, y2, y3, y4, y5, y6, y7⟩ := HL5.out.four))
              all_goals
                clear y0 y1 y2 y3 y4 y5 y6 y7 v0 e0 e2 e3 ln ld lf0 lf1 lf2 lf3 la lb
                go_wp2_with fail
                go_roundw
                case rel =>
                  have G := good_join O.out HG'.out HS'.out.2.1 HS'.out.1.symm hc
                  rw [HRB.out] at G
                  exact ⟨m, rest, ⟨t.a, k, t.n + r.n, t.d + r.d⟩, rfl, HRM.out, HS'.out.2.2.2, G, rfl, (((HK5.out.apart (by simp; omega) _).apart (by simp; omega) _).apart (by simp; omega) _).apart (by simp; omega) _, HH'.out.2, by omega,
                    (((HL5.out.put 0 _).put 1 _).put 2 _).put 3 _, (((((hbel3.drew).trans (hb5.mono hbel3.size)).setCell (by simp; omega) _).setCell (by simp; omega) _).setCell (by simp; omega) _).setCell (by simp; omega) _⟩
                case measure => simp [intOf]
            · have hz := cmp3_gt (show r.n * t.d < t.n * r.d by omega)
              go_wp2_with fail
              refine (compareRR_any _ _ _ _ _ (by omega) (by omega) (by omega) (by omega) (by omega) (by omega) (by omega) (by omega)).mono ?_
              generalize cmp3 (t.n * r.d) (r.n * t.d) = z at hz
              rintro e w3 ⟨rfl, hb3⟩
              have hblk3 := HBLK2.out.keep hb3 HBLK2.out.in_
              have hlast3 := HLAST2.out.keep hb3 HLAST2.out.in_
              have hbel3 := hbel2.trans (hb3.mono hbel2.size)
              clear HBLK2 HLAST2 hb3 hbel2
              have HBLK3 := hide hblk3
              have HLAST3 := hide hlast3
              obtain ⟨l0, l1, l2, l3, f0, f1, f2, f3⟩ := hlast3.four
              obtain ⟨u0, c0, g0⟩ := hblk3.have_ (i := (m + 1) * 4) (by omega)
              obtain ⟨u1, c1, g1⟩ := hblk3.have_ (i := (m + 1) * 4 + 1) (by omega)
              obtain ⟨u2, c2, g2⟩ := hblk3.have_ (i := (m + 1) * 4 + 2) (by omega)
              obtain ⟨u3, c3, g3⟩ := hblk3.have_ (i := (m + 1) * 4 + 3) (by omega)
              clear hblk3 hlast3
              go_wp2_with fail
              go_roundw
              case rel =>
                refine ⟨k + 1, r :: t :: rest, set4 cs (m + 1) r, by omega, by go_num, ?_, ⟨by rw [HRB.out], HG'.out, ?_, HS'.out⟩, HBLK3.out.put4 (m + 1) r, by rw [set4_size]; exact hsz, ?_, Below.put4 hbel3 (Nat.le_refl _) _ _ _ _ _ _ _ _⟩
                · have e : ((r :: t :: rest).length : Nat) = m + 1 + 1 := by have := HJ.out; simp at this ⊢; omega
                  rw [e]; go_num
                · intro r' hr'
                  simp at hr'
                  subst hr'
                  exact hc
                · refine ⟨?_, holds_set4 _ _ _ (by have := HJ.out; omega) HH'.out⟩
                  have := hold_set4 cs (m + 1) r (by omega)
                  rw [HJ.out]
                  exact this
              case measure => simp [intOf]; omega
    · obtain rfl : k = n := by omega
      have hm12 : st.length ≤ 12 := by omega
      obtain ⟨i0, hi, hz0, hz1, hz2⟩ := info_parts info_run
      have HI := hide hi
      have HZ1 := hide hz1
      clear hi hz0 hz1 hz2
      generalize hsm : st.length = m at *
      have HSM := hide hsm
      clear hsm
      have hlc : (cs.toList.take (m * 4)).length = m * 4 := by rw [List.length_take]; simp; omega
      have HLC := hide hlc
      clear hlc
      have hwr := HBLK.out.in_
      have hsa := fun W => slice_kept W ⟨w.heap.size, 0, none⟩ m hm12
      go_wp2_with (first | (at_make; refine wpList_mkRun _ rfl (.tmp 56) (.tmp 56) rfl m rfl rfl hm12 ?_; intro w1 hb1 hz1 hce hfr; have HC := hide hce; have HF := hide hfr; have HB1 := hide (HBLK.out.keep hb1 hwr); clear hce hfr) | (with_reducible refine wpList_copyN rfl (.tmp 58) (.tmp 60) 76 76 rfl 79 i0 Try.underlying76 HI.out wr.heap.size m m ⟨w.heap.size, 0, none⟩ m 12 m rfl rfl (Nat.min_self m) (cs.toList.take (m * 4)) (HLC.out.trans (by rw [HZ1.out])) (take_src HB1.out _) (fun j hj => HC.out j (by rw [HLC.out] at hj; exact hj)) (fun j _ => HF.out j) ?_ ?_))
      · have := holds_one HH.out
        rw [HSM.out] at this
        exact this
      · go_ret
        refine ⟨wr.heap.size, st.reverse, by rw [List.length_reverse, HSM.out]; rfl, stk_rev HST.out, ?_, hbel.size, Below.setCells hbel.size _ _ _ (hbel.trans (hb1.mono hbel.size))⟩
        rw [← HSM.out]
        exact runs_lie (by omega) (fun j hj => HC.out j (by rw [← HSM.out]; exact hj)) (by rw [HSM.out]; omega) HH.out

end Go.Proofs.Ytlmmkaadoicogaa
