/- Ranging over a set; shareOne. -/
import Derived.Test.YtbadihbcjdibeaaWalkP
import Derived.Maps.RangeWalk
namespace Go.Proofs.Ytbadihbcjdibeaa
open Go.RowKit
open Go.ChangeMaps (setBlock heap_setBlock_same heap_setBlock_other)

def Iter (w : World) (it m n : Nat) (seen : List Nat) : Prop := w.heap[it]? = some (.mapIter (some m) n seen.toArray n)
theorem Iter.lt {w : World} {it m n : Nat} {seen : List Nat} (h : Iter w it m n seen) : it < w.heap.size := (Array.getElem?_eq_some_iff.1 h).1
theorem Iter.keep {w w' : World} {it m n : Nat} {seen : List Nat} (h : Iter w it m n seen) (e : w'.heap[it]? = w.heap[it]?) : Iter w' it m n seen := e.trans h
def seenSize (w : World) (it : Nat) : Nat := match w.heap[it]? with | some (.mapIter _ _ seen _) => seen.size | _ => 0
theorem Iter.size {w : World} {it m n : Nat} {seen : List Nat} (h : Iter w it m n seen) : seenSize w it = seen.length := by
  unfold seenSize; unfold Iter at h; rw [h]; simp

section
variable (w : World) {ops : Array Oper} {rest : List Oper} {o : Oper} {a : Act} {Q : Exit → Act → World → Prop}
theorem wpList_rangeSet (hg : o.guard = none) (x : Operand) (hop : o.op = Op.range 58 x) (m : Nat) (ks : List (List Int))
    (hx : a.eval x = .map (some m)) (hset : SetMap w m ks)
    (hK : ∀ w', Iter w' w.heap.size m ks.length [] → Below w.heap.size w w' → wpList Try.prog ops Q rest (a.put o.dst (.pointer (some ⟨w.heap.size, 0, none⟩))) w') : wpList Try.prog ops Q (o :: rest) a w := by
  refine wpList_plain hg fun K' hK' => ?_
  have hgo : (getObj m).run Try.prog w = .ok (.map (ents ks).toArray ks.length) w := by simp [getObj, Sem.run, hset.heap]
  have hrun : (Instr.range 58 (.map (some m))).run Try.prog w = .ok (.pointer (some ⟨w.heap.size, 0, none⟩)) (w.alloc (.mapIter (some m) ks.length #[] ks.length)) := by
    unfold Instr.range
    simp [run_underlying und_map, hgo, newObj, Sem.run]
  unfold Oper.wp
  simp [execOp, hop, hx, hrun, Result.andThen]
  exact hK' _ _ (hK _ (heap_alloc_new w _) ((Below.refl _ w).alloc (Nat.le_refl _) _))

theorem run_next_set {w : World} {it m : Nat} {ks : List (List Int)} {seen : List Nat} (ty : TypeId) (hset : SetMap w m ks) (hit : Iter w it m ks.length seen) :
    ((∀ j, j < ks.length → j ∈ seen) ∧ (Instr.next (.pointer (some ⟨it, 0, none⟩)) false ty).run Try.prog w = .ok (.tuple #[.bool false]) w) ∨
    ∃ j, ∃ h : j < ks.length, ∃ w', j ∉ seen ∧ (Instr.next (.pointer (some ⟨it, 0, none⟩)) false ty).run Try.prog w = .ok (.tuple #[.bool true, kv ks[j], .bool true]) w' ∧
      Iter w' it m ks.length (seen ++ [j]) ∧ w.grownBy w' (some it) := by
  rcases run_next_at (P := Try.prog) w ty it m ks.length ks.length seen.toArray (ents ks).toArray ks.length hit hset.heap (fun x hx => by
      obtain ⟨i, hi, rfl⟩ := ents_mem (by simpa using hx)
      exact hi) (Nat.le_refl _) with ⟨h1, h2⟩ | ⟨e, he, w1, hw1, h2⟩
  · refine .inl ⟨fun j hj => ?_, h2⟩
    have hm : (⟨kv ks[j], .bool true, j⟩ : MapEntry) ∈ (ents ks).toArray := by simpa using List.mem_of_getElem? (ents_get hj)
    have hl : leftOf (ents ks).toArray seen.toArray = #[] := Array.eq_empty_of_size_eq_zero h1
    unfold leftOf at hl
    rw [Array.filter_eq_empty_iff] at hl
    simpa using hl _ hm
  · have hm : e ∈ ents ks ∧ e.born ∉ seen := by
      unfold leftOf at he
      simpa using he
    obtain ⟨i, hi, rfl⟩ := ents_mem hm.1
    have heq : w1.heap = w.heap := by rcases hw1 with rfl | rfl <;> rfl
    have hs : w1.heap.setIfInBounds it (.mapIter (some m) ks.length (seen.toArray.push i) ks.length) = (setBlock w1 it (.mapIter (some m) ks.length (seen.toArray.push i) ks.length)).heap := rfl
    refine .inr ⟨i, hi, _, hm.2, h2, ?_, ?_⟩
    · show (w1.heap.setIfInBounds it _)[it]? = _
      rw [heq, Array.getElem?_setIfInBounds_self_of_lt hit.lt]
      simp
    · refine ⟨by rcases hw1 with rfl | rfl <;> rfl, by rcases hw1 with rfl | rfl <;> rfl, by rcases hw1 with rfl | rfl <;> rfl, ?_, fun k hk hne2 => ?_⟩
      · show w.heap.size ≤ (w1.heap.setIfInBounds it _).size
        rw [heq]; simp
      · show (w1.heap.setIfInBounds it _)[k]? = _
        rw [heq, Array.getElem?_setIfInBounds_ne (by intro e; exact hne2 (by rw [e]))]

theorem wpList_nextSet (hg : o.guard = none) (x : Operand) (hop : o.op = Op.next x false) (it m : Nat) (ks : List (List Int)) (seen : List Nat)
    (hx : a.eval x = .pointer (some ⟨it, 0, none⟩)) (hset : SetMap w m ks) (hit : Iter w it m ks.length seen)
    (hend : (∀ j, j < ks.length → j ∈ seen) → wpList Try.prog ops Q rest (a.put o.dst (.tuple #[.bool false])) w)
    (hK : ∀ j, ∀ h : j < ks.length, ∀ w', j ∉ seen → Iter w' it m ks.length (seen ++ [j]) → w.grownBy w' (some it) → wpList Try.prog ops Q rest (a.put o.dst (.tuple #[.bool true, kv ks[j], .bool true])) w') :
    wpList Try.prog ops Q (o :: rest) a w := by
  refine wpList_plain hg fun K' hK' => ?_
  rcases run_next_set o.type hset hit with ⟨h1, h2⟩ | ⟨j, hj, w', h1, h2, h3, h4⟩
  · unfold Oper.wp
    simp [execOp, hop, hx, h2, Result.andThen]
    exact hK' _ _ (hend h1)
  · unfold Oper.wp
    simp [execOp, hop, hx, h2, Result.andThen]
    exact hK' _ _ (hK j hj w' h1 h3 h4)

theorem wpList_entrySet (hg : o.guard = none) (x : Operand) (hop : o.op = Op.entry x) (it m : Nat) (ks : List (List Int)) (seen : List Nat) (j : Nat) (hj : j < ks.length)
    (hx : a.eval x = .pointer (some ⟨it, 0, none⟩)) (hset : SetMap w m ks) (hit : Iter w it m ks.length (seen ++ [j]))
    (hK : wpList Try.prog ops Q rest (a.put o.dst (.tuple #[kv ks[j], .bool true])) w) : wpList Try.prog ops Q (o :: rest) a w := by
  refine wpList_plain hg fun K' hK' => ?_
  have hit' : w.heap[it]? = some (.mapIter (some m) ks.length (seen.toArray.push j) ks.length) := by
    have := hit
    unfold Iter at this
    simpa using this
  have hrun := run_entry_at (P := Try.prog) w it m ks.length seen.toArray (ents ks).toArray ks.length ⟨kv ks[j], .bool true, j⟩ hit' hset.heap (by simpa using List.mem_of_getElem? (ents_get hj)) (by
    show ((ents ks).map (·.born)).Nodup
    rw [ents_born]; exact List.nodup_range)
  unfold Oper.wp
  simp [execOp, hop, hx, hrun, Result.andThen]
  exact hK' _ _ hK
end

def shareB (ps qs : List (List Int)) : Bool := ps.any fun p => memB p qs

theorem shareB_true {ps qs : List (List Int)} {j : Nat} (hj : j < ps.length) (h : memB ps[j] qs = true) : shareB ps qs = true := by
  unfold shareB; rw [List.any_eq_true]; exact ⟨_, List.getElem_mem hj, h⟩
theorem shareB_false {ps qs : List (List Int)} (h : ∀ j, ∀ hj : j < ps.length, memB ps[j] qs = false) : shareB ps qs = false := by
  cases hs : shareB ps qs with
  | false => rfl
  | true =>
    unfold shareB at hs
    rw [List.any_eq_true] at hs
    obtain ⟨p, hp, hm⟩ := hs
    obtain ⟨j, hj, rfl⟩ := List.getElem_of_mem hp
    rw [h j hj] at hm; cases hm
def NoneTo (ps qs : List (List Int)) (seen : List Nat) : Prop := ∀ j, j ∈ seen → ∀ hj : j < ps.length, memB ps[j] qs = false
theorem noneTo_nil (ps qs : List (List Int)) : NoneTo ps qs [] := fun j hj => by simp at hj
theorem noneTo_snoc {ps qs : List (List Int)} {seen : List Nat} {j : Nat} (h : NoneTo ps qs seen) (hj : ∀ h : j < ps.length, memB ps[j] qs = false) : NoneTo ps qs (seen ++ [j]) := by
  intro i hi hlt
  rcases List.mem_append.1 hi with g | g
  · exact h i g hlt
  · simp at g; subst g; exact hj hlt
theorem seen_bound {n : Nat} {seen : List Nat} (h1 : seen.Nodup) (h2 : ∀ j ∈ seen, j < n) : seen.length ≤ n := by
  have := List.Nodup.length_le_of_subset h1 (l₂ := List.range n) (fun j hj => List.mem_range.2 (h2 j hj))
  simpa using this

section
variable (w : World) {ops : Array Oper} {rest : List Oper} {o : Oper} {a : Act} {Q : Exit → Act → World → Prop}
theorem wpList_storeNew (hg : o.guard = none) (x y : Operand) (hop : o.op = Op.store 64 x y) (zs : Array Value) (hzs : zs = (ints (List.replicate 60 0)).toArray) (key : List Int) (hlen : key.length = 60)
    (hx : a.eval x = .pointer (some ⟨w.heap.size, 0, none⟩)) (hy : a.eval y = kv key)
    (hK : ∀ w3, Arr w3 w.heap.size key → Below w.heap.size w w3 → wpList Try.prog ops Q rest (a.put o.dst undef) w3) : wpList Try.prog ops Q (o :: rest) a (w.alloc (.cells zs 64)) := by
  subst hzs
  have hnew := heap_alloc_new w (.cells (ints (List.replicate 60 0)).toArray 64)
  have hsz : (Try.prog.info? 64).map (·.size) = some (ints key).toArray.size := by rw [size_piece, List.size_toArray, ints_length, hlen]
  refine wpList_store_row hg 64 x y hop w.heap.size (ints key).toArray hx hy 64 _ hnew hsz (by rw [List.size_toArray, List.size_toArray, ints_length, ints_length, hlen, List.length_replicate]) (all_one _) ?_
  exact hK _ (setRow_heap _ w.heap.size _ _ 64 _ hnew) (below_setRow ((Below.refl _ w).alloc (Nat.le_refl _) _) (Nat.le_refl _) _)
theorem wpList_loadArr (hg : o.guard = none) (x : Operand) (hop : o.op = Op.load 64 x) (g : Nat) (key : List Int) (hlen : key.length = 60)
    (hx : a.eval x = .pointer (some ⟨g, 0, none⟩)) (ha : Arr w g key) (hK : wpList Try.prog ops Q rest (a.put o.dst (kv key)) w) : wpList Try.prog ops Q (o :: rest) a w :=
  wpList_load_row hg 64 x hop g hx 64 (ints key).toArray (0, 0) _ ha.eq und_piece rfl (by rw [size_piece, List.size_toArray, ints_length, hlen]) hK
end

set_option maxRecDepth 100000 in
set_option maxHeartbeats 1000000 in
theorem shareOne_any (r r' : Nat) (ps qs : List (List Int)) (w : World) (h : SetMap w r ps) (h' : SetMap w r' qs) :
    Calls Try.prog 56 #[.map (some r), .map (some r')] w fun e w' => e = .returned (.bool (shareB ps qs)) ∧ Below w.heap.size w w' := by
  have hr := h.lt
  have hr' := h'.lt
  go_enter Try.func56, Try.ntmps56
  go_wp2_with (first | (refine wpList_rangeSet _ (o := ⟨some 7, _, _, _, _, _⟩) rfl (.tmp 6) rfl r ps rfl h ?_; intro w1 hit1 hb1))
  go_frame
  go_loopw [5] (fun _ wr => ∃ seen : List Nat, Iter wr w.heap.size r ps.length seen ∧ seen.Nodup ∧ (∀ j ∈ seen, j < ps.length) ∧ NoneTo ps qs seen ∧ Below w.heap.size w wr) (fun _ wr => ps.length - seenSize wr w.heap.size)
  case atStart => exact ⟨[], hit1, by simp, by simp, noneTo_nil _ _, hb1⟩
  case round =>
    obtain ⟨seen, hit, hnd, hlt, hnone, hb⟩ := hrel
    have hset := h.below hb hr
    have hset' := h'.below hb hr'
    go_wp2_with (first | (refine wpList_nextSet _ (o := ⟨some 8, _, _, _, _, _⟩) rfl (.tmp 7) rfl w.heap.size r ps seen rfl hset hit ?hend ?hgo))
    case hend =>
      intro hall
      go_wp2
      go_ret
      exact ⟨ret_bool (shareB_false fun j hj => hnone j (hall j hj) hj).symm, hb⟩
    case hgo =>
      intro j hj w2 hns hit2 hg2
      have hb2 := hb.grown hg2 (by have := hb.size; omega) (fun q hq => by injection hq with hq; omega)
      have hset2 := h.below hb2 hr
      have hset2' := h'.below hb2 hr'
      have hklen := h.len ps[j] (List.getElem_mem hj)
      generalize hk : ps[j] = key at *
      have HK := hide hk
      clear hk
      cases hm : memB key qs with
      | true =>
        go_wp2_with (first | (refine wpList_entrySet _ (o := ⟨some 10, _, _, _, _, _⟩) rfl (.tmp 7) rfl w.heap.size r ps seen j hj rfl hset2 hit2 ?_; rw [HK.out]) | (refine wpList_storeNew w2 (o := ⟨none, Op.store 64 _ _, _, _, _, _⟩) rfl (.tmp 5) (.tmp 11) rfl _ zeros60 key hklen rfl rfl ?_; intro w3 ha3 hb3; have hb4 := hb2.trans (hb3.mono hb2.size); have hset3' := h'.below hb4 hr') | (refine wpList_loadArr w3 (o := ⟨some 13, _, _, _, _, _⟩) rfl (.tmp 5) rfl w2.heap.size key hklen rfl ha3 ?_) | (refine wpList_setHas _ (o := ⟨some 14, _, _, _, _, _⟩) rfl (.tmp 12) (.tmp 13) rfl r' qs key rfl hset3' rfl hklen ?_; rw [hm]))
        go_ret
        exact ⟨ret_bool (shareB_true hj (by rw [HK.out]; exact hm)).symm, hb4⟩
      | false =>
        go_wp2_with (first | (refine wpList_entrySet _ (o := ⟨some 10, _, _, _, _, _⟩) rfl (.tmp 7) rfl w.heap.size r ps seen j hj rfl hset2 hit2 ?_; rw [HK.out]) | (refine wpList_storeNew w2 (o := ⟨none, Op.store 64 _ _, _, _, _, _⟩) rfl (.tmp 5) (.tmp 11) rfl _ zeros60 key hklen rfl rfl ?_; intro w3 ha3 hb3; have hb4 := hb2.trans (hb3.mono hb2.size); have hset3' := h'.below hb4 hr') | (refine wpList_loadArr w3 (o := ⟨some 13, _, _, _, _, _⟩) rfl (.tmp 5) rfl w2.heap.size key hklen rfl ha3 ?_) | (refine wpList_setHas _ (o := ⟨some 14, _, _, _, _, _⟩) rfl (.tmp 12) (.tmp 13) rfl r' qs key rfl hset3' rfl hklen ?_; rw [hm]))
        have hit3 := hit2.keep (hb3.block w.heap.size hit2.lt)
        have hnd2 : (seen ++ [j]).Nodup := by
          rw [List.nodup_append]
          exact ⟨hnd, by simp, fun x hx y hy e => by simp at hy; subst hy; subst e; exact hns hx⟩
        have hlt2 : ∀ i ∈ seen ++ [j], i < ps.length := by
          intro i hi
          rcases List.mem_append.1 hi with g | g
          · exact hlt i g
          · simp at g; omega
        have hbd := seen_bound hnd2 hlt2
        rw [List.length_append, List.length_singleton] at hbd
        refine ⟨⟨_, _, _, _, _, _, _, _, _, ⟨seen ++ [j], hit3, hnd2, hlt2, noneTo_snoc hnone (fun _ => by rw [HK.out]; exact hm), hb4⟩, rfl⟩, ?_⟩
        rw [hit3.size, hit.size, List.length_append, List.length_singleton]
        omega

end Go.Proofs.Ytbadihbcjdibeaa
