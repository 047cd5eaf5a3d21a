/- A map whose keys are arrays of integers and whose values are all true: a set; how it is asked, filled, ranged over. -/
import Derived.Test.YtbadihbcjdibeaaLawTurns
import Derived.ChangeKeysEq
import Derived.WideKeyRuns
import Derived.Maps.RangeRun
import Derived.MapKept
import Derived.Maps.Own
import Derived.Maps.OwnOps
namespace Go.Proofs.Ytbadihbcjdibeaa
open Go.RowKit
open Go.ChangeMaps (setBlock heap_setBlock_same heap_setBlock_other)

theorem und_piece : Try.prog.underlying 64 = some (.array 60 3) := by kernel_rfl
theorem und_map : Try.prog.underlying 58 = some (.map 64 4) := by kernel_rfl
theorem cells_int : Try.prog.cellsOf 3 = 1 := by kernel_rfl
theorem plain_int : Try.prog.plainKey 3 = true := by kernel_rfl
theorem zero_bool (w : World) : (zeroValue 4).run Try.prog w = .ok (.bool false) w := by kernel_rfl

def kv (xs : List Int) : Value := .agg (ints xs).toArray
theorem kv_inj {xs ys : List Int} (h : kv xs = kv ys) : xs = ys := by
  unfold kv ints at h
  injection h with h
  have h := congrArg Array.toList h
  simp at h
  exact (List.map_inj_right (fun a b e => by injection e)).1 h

theorem run_items (w : World) (d : Nat) (xs ys : List Int) (h : xs.length = ys.length) : ∀ is : List Nat, (∀ i ∈ is, i < xs.length) →
    (Op.eqItems (d + 1) 3 1 (ints xs).toArray (ints ys).toArray is).run Try.prog w = .ok (is.all fun i => xs.getD i 0 == ys.getD i 0) w := by
  intro is
  induction is with
  | nil => intro _; simp [Op.eqItems]
  | cons i is ih =>
    intro hi
    have h1 := hi i (by simp)
    have p1 := run_part_plain (P := Try.prog) w plain_int (xs := (ints xs).toArray) (off := i * 1) (v := .int .i64 (xs.getD i 0)) (by simpa using ints_get h1)
    have p2 := run_part_plain (P := Try.prog) w plain_int (xs := (ints ys).toArray) (off := i * 1) (v := .int .i64 (ys.getD i 0)) (by simpa using ints_get (by omega))
    have p3 : (Op.equalIn (d + 1) 3 (.int .i64 (xs.getD i 0)) (.int .i64 (ys.getD i 0))).run Try.prog w = .ok (xs.getD i 0 == ys.getD i 0) w := by
      simp [Op.equalIn, run_underlying Try.underlying3]
    simp only [Op.eqItems, Sem.run_bind, p1, p2, p3, Result.andThen_ok, List.all_cons]
    cases hc : (xs.getD i 0 == ys.getD i 0) with
    | true => simpa using ih (fun j hj => hi j (by simp [hj]))
    | false => simp

theorem run_equal_kv (w : World) {xs ys : List Int} (hx : xs.length = 60) (hy : ys.length = 60) : (Op.equal 64 (kv xs) (kv ys)).run Try.prog w = .ok (eqL xs ys) w := by
  obtain ⟨i0, hi, hz0, hz1, hz2⟩ := info_parts info_int
  have e : eqL xs ys = (List.range 60).all fun i => xs.getD i 0 == ys.getD i 0 := by
    rw [Bool.eq_iff_iff, eqL_iff, List.all_eq_true]
    constructor
    · intro e i _; rw [e]; simp
    · intro g
      exact list_ext_getD (by omega) fun j hj => by simpa using g j (List.mem_range.2 (by omega))
  have h := run_equalIn_array (P := Try.prog) (w := w) 9999 (ints xs).toArray (ints ys).toArray und_piece hi
  rw [cells_int, run_items w 9998 xs ys (by omega) (List.range 60) (fun i hi => by rw [List.mem_range] at hi; omega), ← e] at h
  exact h

theorem run_check_kv (w : World) (em : Bool) {xs : List Int} (hx : xs.length = 60) : (Instr.checkKey em 10000 64 (kv xs)).run Try.prog w = .ok () w := by
  obtain ⟨i0, hi, hz0, hz1, hz2⟩ := info_parts info_int
  unfold kv Instr.checkKey
  simp only [Sem.run_bind, run_underlying und_piece, Result.andThen_ok]
  simp only [Std.Legacy.Range.forIn_eq_forIn_range', Std.Legacy.Range.size, Nat.sub_zero, Nat.add_one_sub_one, Nat.div_one]
  have key : ∀ is : List Nat, (∀ i ∈ is, i < xs.length) → (forIn (m := Sem) is PUnit.unit fun i _ => do
      let a ← part 3 (ints xs).toArray (i * (← sizeOf 3))
      Instr.checkKey em 9999 3 a
      pure (ForInStep.yield PUnit.unit)).run Try.prog w = .ok PUnit.unit w := by
    intro is
    induction is with
    | nil => intro _; simp
    | cons i is ih =>
      intro hlt
      have h1 := hlt i (by simp)
      have p1 := run_part_plain (P := Try.prog) w plain_int (xs := (ints xs).toArray) (off := i * 1) (v := .int .i64 (xs.getD i 0)) (by simpa using ints_get h1)
      have p2' : ∀ n : Nat, (Instr.checkKey em (n + 1) 3 (.int .i64 (xs.getD i 0))).run Try.prog w = .ok () w := by
        intro n
        simp [Instr.checkKey, run_underlying Try.underlying3]
      have p2 := p2' 9998
      have p0 := run_sizeOf (P := Try.prog) w hi
      rw [cells_int] at p0
      simp only [List.forIn_cons, Sem.run_bind, p0, p1, p2, Result.andThen_ok, Sem.run_pure]
      exact ih (fun j hj => hlt j (by simp [hj]))
  have hk := key (List.range' 0 60) (fun i hi => by rw [List.mem_range'_1] at hi; omega)
  simp only [hk, Result.andThen_ok, Sem.run_pure]

/-- The entries of a set that was filled one by one. -/
def ents (ks : List (List Int)) : List MapEntry := ks.zipIdx.map fun p => ⟨kv p.1, .bool true, p.2⟩
theorem ents_length (ks : List (List Int)) : (ents ks).length = ks.length := by simp [ents]
theorem ents_snoc (ks : List (List Int)) (x : List Int) : ents (ks ++ [x]) = ents ks ++ [⟨kv x, .bool true, ks.length⟩] := by
  simp [ents, List.zipIdx_append]
theorem ents_mem {ks : List (List Int)} {e : MapEntry} (h : e ∈ ents ks) : ∃ i, ∃ h : i < ks.length, e = ⟨kv ks[i], .bool true, i⟩ := by
  unfold ents at h
  obtain ⟨⟨k, i⟩, hm, rfl⟩ := List.mem_map.1 h
  obtain ⟨h1, h2, h3⟩ := List.mem_zipIdx hm
  exact ⟨i, by omega, by simp [h3]⟩
theorem ents_get {ks : List (List Int)} {i : Nat} (h : i < ks.length) : (ents ks)[i]? = some ⟨kv ks[i], .bool true, i⟩ := by
  simp [ents, h]
theorem ents_born (ks : List (List Int)) : (ents ks).map (·.born) = List.range ks.length := by
  simp [ents, List.zipIdx_map_snd, List.range_eq_range', Function.comp_def]

structure SetMap (w : World) (r : Nat) (ks : List (List Int)) : Prop where
  heap : w.heap[r]? = some (.map (ents ks).toArray ks.length)
  len : ∀ k ∈ ks, k.length = 60
  nodup : ks.Nodup

theorem run_find (w : World) {x : List Int} (hx : x.length = 60) : ∀ (es : List MapEntry) (i : Nat), (∀ e ∈ es, ∃ k : List Int, k.length = 60 ∧ e.key = kv k ∧ e.val = .bool true) →
    ((Instr.findAsking 64 (kv x) es i).run Try.prog w = .ok none w ∧ ∀ e ∈ es, e.key ≠ kv x) ∨
    ∃ j e, (Instr.findAsking 64 (kv x) es i).run Try.prog w = .ok (some (i + j, .bool true)) w ∧ es[j]? = some e ∧ e.key = kv x := by
  intro es
  induction es with
  | nil => intro i _; exact .inl ⟨by simp [Instr.findAsking], by simp⟩
  | cons e es ih =>
    intro i hall
    obtain ⟨k, hk, hkey, hval⟩ := hall e (by simp)
    have hr := run_equal_kv w hx hk
    rw [← hkey] at hr
    cases hc : eqL x k with
    | true =>
      rw [hc] at hr
      refine .inr ⟨0, e, by simp [Instr.findAsking, hr, hval], rfl, ?_⟩
      rw [hkey, eqL_iff.1 hc]
    | false =>
      rw [hc] at hr
      have hne : e.key ≠ kv x := by
        rw [hkey]; intro h
        have := kv_inj h
        rw [this, eqL_self] at hc; cases hc
      rcases ih (i + 1) (fun y hy => hall y (by simp [hy])) with ⟨h1, h2⟩ | ⟨j, e', h1, h2, h3⟩
      · refine .inl ⟨by simp [Instr.findAsking, hr, h1], fun y hy => ?_⟩
        rcases List.mem_cons.1 hy with rfl | hy
        · exact hne
        · exact h2 y hy
      · exact .inr ⟨j + 1, e', by simp [Instr.findAsking, hr, h1, Nat.add_assoc, Nat.add_comm 1 j], by simpa using h2, h3⟩

theorem run_findKey_set (w : World) {ks : List (List Int)} (hks : ∀ k ∈ ks, k.length = 60) {x : List Int} (hx : x.length = 60) :
    ((Instr.findKey 64 (kv x) (ents ks)).run Try.prog w = .ok none w ∧ x ∉ ks) ∨
    ∃ j, ∃ h : j < ks.length, (Instr.findKey 64 (kv x) (ents ks)).run Try.prog w = .ok (some (j, .bool true)) w ∧ ks[j] = x := by
  rw [run_findKey_eq (P := Try.prog) w (k := 64) (by rw [und_piece])]
  rcases run_find w hx (ents ks) 0 (fun e he => by
      obtain ⟨i, hi, rfl⟩ := ents_mem he
      exact ⟨ks[i], hks _ (List.getElem_mem hi), rfl, rfl⟩) with ⟨h1, h2⟩ | ⟨j, e, h1, h2, h3⟩
  · refine .inl ⟨h1, fun hm => ?_⟩
    obtain ⟨i, hi, rfl⟩ := List.getElem_of_mem hm
    exact h2 _ (List.mem_of_getElem? (ents_get hi)) rfl
  · have hj : j < ks.length := by
      have := (List.getElem?_eq_some_iff.1 h2).1
      rwa [ents_length] at this
    rw [ents_get hj] at h2
    injection h2 with h2
    subst h2
    exact .inr ⟨j, hj, by simpa using h1, kv_inj h3⟩

def memB (x : List Int) (ks : List (List Int)) : Bool := decide (x ∈ ks)
theorem run_lookup_set {w : World} {r : Nat} {ks : List (List Int)} (h : SetMap w r ks) {x : List Int} (hx : x.length = 60) :
    (Instr.lookup 58 (.map (some r)) (kv x) false).run Try.prog w = .ok (.bool (memB x ks)) w := by
  have hc := fun em => run_check_kv w em hx
  have hg : (getObj r).run Try.prog w = .ok (.map (ents ks).toArray ks.length) w := by simp [getObj, Sem.run, h.heap]
  rcases run_findKey_set w h.len hx with ⟨h1, h2⟩ | ⟨j, hj, h1, h2⟩
  · have hm : memB x ks = false := by unfold memB; simp [h2]
    unfold Instr.lookup
    simp [run_underlying und_map, hg, hc, h1, hm]
  · have hm : memB x ks = true := by unfold memB; rw [← h2]; simp
    unfold Instr.lookup
    simp [run_underlying und_map, hg, hc, h1, hm]

def addK (ks : List (List Int)) (x : List Int) : List (List Int) := if x ∈ ks then ks else ks ++ [x]
theorem addK_mem {ks : List (List Int)} {x y : List Int} : y ∈ addK ks x ↔ y ∈ ks ∨ y = x := by
  unfold addK
  split
  · rename_i h
    constructor
    · exact fun g => .inl g
    · rintro (g | rfl)
      · exact g
      · exact h
  · simp
theorem addK_nodup {ks : List (List Int)} {x : List Int} (h : ks.Nodup) : (addK ks x).Nodup := by
  unfold addK
  split
  · exact h
  · rename_i hx
    rw [List.nodup_append]
    exact ⟨h, by simp, fun a ha b hb e => by simp at hb; subst hb; subst e; exact hx ha⟩

theorem zip_self {α : Type} (l : List α) : l.zip l = l.map fun v => (v, v) := by
  induction l with
  | nil => rfl
  | cons a l ih => simp [ih]
theorem sameBits_kv (n : Nat) (xs : List Int) : Instr.sameBits (n + 2) (kv xs) (kv xs) = true := by
  unfold kv
  rw [Instr.sameBits]
  simp only [beq_self_eq_true, Bool.true_and, List.all_eq_true]
  intro p hp
  have : p.1 = p.2 ∧ p.1 ∈ ints xs := by
    have hz : ((ints xs).toArray.toList.zip (ints xs).toArray.toList) = (ints xs).map fun v => (v, v) := by
      exact zip_self _
    rw [hz] at hp
    obtain ⟨v, hv, rfl⟩ := List.mem_map.1 hp
    exact ⟨rfl, hv⟩
  obtain ⟨e, hm⟩ := this
  obtain ⟨y, _, hy⟩ := List.mem_map.1 hm
  rw [← e, ← hy]
  simp [Instr.sameBits]
theorem run_stays_kv (w : World) (xs : List Int) : (Instr.keyThatStays (kv xs) (kv xs)).run Try.prog w = .ok (kv xs) w := by
  unfold Instr.keyThatStays
  rw [show (10000 : Nat) = 9998 + 2 from rfl, sameBits_kv]
  simp

theorem SetMap.lt {w : World} {r : Nat} {ks : List (List Int)} (h : SetMap w r ks) : r < w.heap.size := (Array.getElem?_eq_some_iff.1 h.heap).1
theorem SetMap.keep {w w' : World} {r : Nat} {ks : List (List Int)} (h : SetMap w r ks) (he : w'.heap[r]? = w.heap[r]?) : SetMap w' r ks := ⟨he.trans h.heap, h.len, h.nodup⟩
theorem SetMap.below {w w' : World} {r B : Nat} {ks : List (List Int)} (h : SetMap w r ks) (hb : Below B w w') (hr : r < B) : SetMap w' r ks := h.keep (hb.block r hr)
theorem SetMap.made (w : World) : SetMap (w.alloc (.map #[] 0)) w.heap.size [] := ⟨heap_alloc_new w _, by simp, by simp⟩

theorem SetMap.update {w : World} {r : Nat} {ks : List (List Int)} (h : SetMap w r ks) {x : List Int} (hx : x.length = 60) :
    ∃ w', (Instr.mapUpdate 58 (.map (some r)) (kv x) (.bool true)).run Try.prog w = .ok () w' ∧ SetMap w' r (addK ks x) ∧ w.grownBy w' (some r) := by
  have hc := fun em => run_check_kv w em hx
  have hg : (getObj r).run Try.prog w = .ok (.map (ents ks).toArray ks.length) w := by simp [getObj, Sem.run, h.heap]
  have grown : ∀ o, w.grownBy (setBlock w r o) (some r) := fun o => ⟨rfl, rfl, rfl, by simp [setBlock], fun i _ hi => heap_setBlock_other h.heap _ (fun e => hi (by rw [e]))⟩
  rcases run_findKey_set w h.len hx with ⟨h1, h2⟩ | ⟨j, hj, h1, h2⟩
  · have hadd : addK ks x = ks ++ [x] := by unfold addK; rw [if_neg h2]
    have hset := MapKept.run_setObj_map (P := Try.prog) (.map ((ents ks).toArray.push ⟨kv x, .bool true, ks.length⟩) (ks.length + 1)) h.heap
    refine ⟨setBlock w r (.map (ents (addK ks x)).toArray (addK ks x).length), ?_, ⟨heap_setBlock_same h.heap _, fun k hk => ?_, addK_nodup h.nodup⟩, grown _⟩
    · rw [hadd, ents_snoc, List.length_append, List.length_singleton]
      unfold Instr.mapUpdate
      simp only [List.push_toArray] at hset
      simp [run_underlying und_map, hg, hc, h1, hset, setBlock]
    · rcases addK_mem.1 hk with g | rfl
      · exact h.len k g
      · exact hx
  · have hadd : addK ks x = ks := by unfold addK; rw [if_pos (by rw [← h2]; simp)]
    have hst := run_stays_kv w x
    have hmod : (ents ks).toArray.modify j (fun e => { e with key := kv x, val := .bool true }) = (ents ks).toArray := by
      apply Array.ext_getElem?
      intro i
      rw [Array.getElem?_modify]
      split
      · rename_i e
        subst e
        simp [ents_get hj, h2]
      · rfl
    have hset := MapKept.run_setObj_map (P := Try.prog) (.map (ents ks).toArray ks.length) h.heap
    have hk : (((ents ks).toArray[j]?).map (·.key)).getD (kv x) = kv x := by simp [ents_get hj, h2]
    refine ⟨setBlock w r (.map (ents (addK ks x)).toArray (addK ks x).length), ?_, ⟨heap_setBlock_same h.heap _, fun k hk => ?_, addK_nodup h.nodup⟩, grown _⟩
    · rw [hadd]
      unfold Instr.mapUpdate
      simp only [run_underlying und_map, Sem.run_bind, hg, Result.andThen_ok, hc, h1, hk, hst, hmod, hset]
      rfl
    · rw [hadd] at hk; exact h.len k hk

section
variable (w : World) {ops : Array Oper} {rest : List Oper} {o : Oper} {a : Act} {Q : Exit → Act → World → Prop}
theorem wpList_setAdd (hg : o.guard = none) (m x v : Operand) (hop : o.op = Op.mapUpdate 58 m x v) (r : Nat) (ks : List (List Int)) (xs : List Int)
    (hm : a.eval m = .map (some r)) (hset : SetMap w r ks) (hx : a.eval x = kv xs) (hlen : xs.length = 60) (hv : a.eval v = .bool true)
    (hK : ∀ w', SetMap w' r (addK ks xs) → w.grownBy w' (some r) → wpList Try.prog ops Q rest (a.put o.dst undef) w') : wpList Try.prog ops Q (o :: rest) a w := by
  refine wpList_plain hg fun K' hK' => ?_
  obtain ⟨w', hrun, r1, r2⟩ := hset.update hlen
  unfold Oper.wp
  simp [execOp, hop, hm, hx, hv, hrun, Result.andThen]
  exact hK' _ _ (hK w' r1 r2)
theorem wpList_setHas (hg : o.guard = none) (m x : Operand) (hop : o.op = Op.lookup 58 m x false) (r : Nat) (ks : List (List Int)) (xs : List Int)
    (hm : a.eval m = .map (some r)) (hset : SetMap w r ks) (hx : a.eval x = kv xs) (hlen : xs.length = 60)
    (hK : wpList Try.prog ops Q rest (a.put o.dst (.bool (memB xs ks))) w) : wpList Try.prog ops Q (o :: rest) a w := by
  refine wpList_plain hg fun K' hK' => ?_
  have hrun := run_lookup_set hset hlen
  unfold Oper.wp
  simp [execOp, hop, hm, hx, hrun, Result.andThen]
  exact hK' _ _ hK
end

end Go.Proofs.Ytbadihbcjdibeaa
