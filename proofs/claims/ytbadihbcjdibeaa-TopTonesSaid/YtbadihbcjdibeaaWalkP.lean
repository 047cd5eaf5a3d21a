/- Walks: pieceFrom, piecesOf, shareOne. -/
import Derived.Test.YtbadihbcjdibeaaSet
import Derived.Laws.Tables
import Derived.Laws.CopyOwn
namespace Go.Proofs.Ytbadihbcjdibeaa
open Go.RowKit

theorem size_piece : (Try.prog.info? 64).map (·.size) = some 60 := by kernel_rfl
/-- Block g holds the array xs. -/
def Arr (w : World) (g : Nat) (xs : List Int) : Prop := w.heap[g]? = some (.cells (ints xs).toArray 64 (0, 0))
section
variable {w w' : World} {g : Nat} {xs : List Int}
theorem Arr.eq (h : Arr w g xs) : w.heap[g]? = some (.cells (ints xs).toArray 64 (0, 0)) := h
theorem Arr.lt (h : Arr w g xs) : g < w.heap.size := (Array.getElem?_eq_some_iff.1 h).1
theorem Arr.cell (h : Arr w g xs) {k : Nat} (hk : k < xs.length) : w.cell? ⟨g, k, none⟩ = some (.int .i64 (xs.getD k 0)) := by
  rw [cell_of_row w g k _ _ _ h]
  simpa using ints_get hk
theorem Arr.frozen (h : Arr w g xs) (k : Nat) : w.frozen? ⟨g, k, none⟩ = false := frozen_of_row w g k _ _ h
theorem Arr.stored (h : Arr w g xs) (k : Nat) (y : Int) : Arr (w.setCell ⟨g, k, none⟩ (.int .i64 y)) g (xs.set k y) := by
  unfold Arr
  rw [heap_setCell_same w g k _ _ _ h]
  simp [ints, List.map_set]
theorem Arr.far (h : Arr w g xs) {p : Addr} (hp : g ≠ p.block) (u : Value) : Arr (w.setCell p u) g xs := (heap_setCell_other w p g u hp).trans h
theorem Arr.below {B : Nat} (h : Arr w g xs) (hb : Below B w w') (hg : g < B) : Arr w' g xs := (hb.block g hg).trans h
end
theorem zeros60 : (#[.int .i64 0, .int .i64 0, .int .i64 0, .int .i64 0, .int .i64 0, .int .i64 0, .int .i64 0, .int .i64 0, .int .i64 0, .int .i64 0, .int .i64 0, .int .i64 0, .int .i64 0, .int .i64 0, .int .i64 0, .int .i64 0, .int .i64 0, .int .i64 0, .int .i64 0, .int .i64 0, .int .i64 0, .int .i64 0, .int .i64 0, .int .i64 0, .int .i64 0, .int .i64 0, .int .i64 0, .int .i64 0, .int .i64 0, .int .i64 0, .int .i64 0, .int .i64 0, .int .i64 0, .int .i64 0, .int .i64 0, .int .i64 0, .int .i64 0, .int .i64 0, .int .i64 0, .int .i64 0, .int .i64 0, .int .i64 0, .int .i64 0, .int .i64 0, .int .i64 0, .int .i64 0, .int .i64 0, .int .i64 0, .int .i64 0, .int .i64 0, .int .i64 0, .int .i64 0, .int .i64 0, .int .i64 0, .int .i64 0, .int .i64 0, .int .i64 0, .int .i64 0, .int .i64 0, .int .i64 0] : Array Value) = (ints (List.replicate 60 0)).toArray := rfl
theorem all_one (xs : List Int) : (ints xs).toArray.all (·.oneCell') = true := by
  rw [Array.all_eq_true_iff_forall_mem]
  intro v hv
  exact ints_one xs v (by simpa using hv)
theorem fill60 (xs : List Int) (i : Int) (m : Nat) (h : m ≤ 60) : (fillTo xs i 60 m).length = 60 := by
  unfold fillTo; rw [List.length_append, pieceL_length, List.length_replicate]; omega

set_option maxRecDepth 100000 in
set_option maxHeartbeats 1000000 in
theorem pieceFrom_any (A : Option Addr) (n c : Nat) (xs : List Int) (i : Int) (m : Nat) (w : World) (h : Row w A n c xs) (hn1 : 1 ≤ n) (hn : n ≤ 1000) (hm : m ≤ 60) (hi1 : 0 ≤ i) (hi2 : i ≤ 1000) :
    Calls Try.prog 62 #[.slice A n c, .int .i64 i, .int .i64 m] w fun e w' => e = .returned (kv (fillTo xs i 60 m)) ∧ Below w.heap.size w w' := by
  have HR := hide h
  clear h
  go_enter Try.func62, Try.ntmps62
  go_wp2
  go_loopw [10] (fun j wr => ∃ k : Nat, k ≤ m ∧ j = .int .i64 k ∧ Arr wr (w.heap.size + 1) (fillTo xs i 60 k) ∧ Arr wr w.heap.size (List.replicate 60 0) ∧ Below w.heap.size w wr) (fun j _ => m - (intOf j).toNat)
  case atStart => exact ⟨0, Nat.zero_le _, rfl, by rw [fillTo_zero]; exact (heap_alloc2_new w _ _).trans (by rw [zeros60]), (heap_alloc2_old w _ _).trans (by rw [zeros60]), ((Below.refl _ w).alloc (Nat.le_refl _) _).alloc (by simp) _⟩
  case round =>
    obtain ⟨k, hk, rfl, ha, h0, hb⟩ := hrel
    by_cases hlt : k < m
    · have HRr := hide (HR.out.below hb (Nat.le_refl _))
      have hcell := ha.cell (k := k) (by rw [fill60 _ _ _ (by omega)]; omega)
      have hfz := ha.frozen k
      have hst := ha.stored k (sec xs (i + (k : Int)))
      rw [fillTo_set (by omega)] at hst
      have hi3 : (k : Int) < 60 := by omega
      generalize (fillTo xs i 60 k).getD k 0 = old at hcell
      go_wp2_with (first | (go_at_call 41; refine (second_any _ _ _ xs _ _ HRr.out (by omega) (by omega)).mono ?_; rintro e w' ⟨rfl, rfl⟩))
      go_roundw
      case rel => exact ⟨k + 1, by omega, by go_num, hst, h0.far (by simp) _, hb.setCell (by simp) _⟩
      case measure => simp [intOf]; omega
    · obtain rfl : k = m := by omega
      have hsz' : (Try.prog.info? 64).map (·.size) = some (ints (fillTo xs i 60 k)).toArray.size := by rw [size_piece, List.size_toArray, ints_length, fill60 _ _ _ hm]
      have HSZ := hide hsz'
      clear hsz'
      have HA := hide ha
      have H0 := hide h0
      clear ha h0
      go_wp2_with (first | (refine wpList_load_row (o := ⟨some 21, _, _, _, _, _⟩) rfl 64 (.tmp 7) rfl (w.heap.size + 1) rfl 64 (ints (fillTo xs i 60 k)).toArray (0, 0) _ HA.out.eq und_piece rfl HSZ.out ?_) | (refine wpList_store_row (o := ⟨none, Op.store 64 _ _, _, _, _, _⟩) rfl 64 (.tmp 6) (.tmp 21) rfl w.heap.size (ints (fillTo xs i 60 k)).toArray rfl rfl 64 (ints (List.replicate 60 0)).toArray H0.out.eq HSZ.out (by rw [List.size_toArray, List.size_toArray, ints_length, ints_length, fill60 _ _ _ hm, List.length_replicate]) (all_one _) ?_))
      refine bodyPost_ret (results_cell_row (P := Try.prog) rfl _ _ w.heap.size 64 (ints (fillTo xs i 60 k)).toArray (0, 0) _ rfl (setRow_heap wr w.heap.size _ _ 64 _ H0.out.eq) und_piece rfl HSZ.out) rfl ⟨rfl, below_setRow hb (Nat.le_refl _) _⟩

def pcs (xs : List Int) (m : Nat) : Nat → List (List Int)
  | 0 => []
  | k + 1 => addK (pcs xs m k) (fillTo xs (k : Int) 60 m)

set_option maxHeartbeats 1000000 in
theorem piecesOf_any (A : Option Addr) (n c : Nat) (xs : List Int) (m : Nat) (w : World) (h : Row w A n c xs) (hn1 : 1 ≤ n) (hn : n ≤ 1000) (hm : m ≤ 60) :
    Calls Try.prog 47 #[.slice A n c, .int .i64 m] w fun e w' => ∃ r, e = .returned (.map (some r)) ∧ w.heap.size ≤ r ∧ SetMap w' r (pcs xs m (per xs)) ∧ Below w.heap.size w w' := by
  have HR := hide h
  have hl := h.length
  obtain ⟨_, s2, s3, _⟩ := per_spec (xs := xs) (by omega)
  have s3' : per xs ≤ 1000 := by omega
  clear h hl s3
  have hmm := @run_makeMap Try.prog
  go_enter Try.func47, Try.ntmps47
  go_wp2_with fail
  refine (period_any _ _ _ xs _ (HR.out.alloc _) (by omega) (by omega)).mono ?_
  rintro e w' ⟨rfl, rfl⟩
  go_wp2
  go_loopw [10] (fun j wr => ∃ k : Nat, k ≤ per xs ∧ j = .int .i64 k ∧ SetMap wr w.heap.size (pcs xs m k) ∧ Below w.heap.size w wr) (fun j _ => per xs - (intOf j).toNat)
  case atStart => exact ⟨0, Nat.zero_le _, rfl, SetMap.made w, (Below.refl _ w).alloc (Nat.le_refl _) _⟩
  case round =>
    obtain ⟨k, hk, rfl, hset, hb⟩ := hrel
    by_cases hlt : k < per xs
    · have HRr := hide (HR.out.below hb (Nat.le_refl _))
      have hsz := hset.lt
      go_wp2_with (first | (go_at_call 62; refine (pieceFrom_any _ _ _ xs _ m _ HRr.out (by omega) (by omega) (by omega) (by omega) (by omega)).mono ?_; rintro e w1 ⟨rfl, hb1⟩; have hset1 := hset.below hb1 hsz; have hsz1 := hb1.size) | (at_mapUpdate; refine wpList_setAdd _ rfl (.tmp 13) (.tmp 17) _ rfl w.heap.size (pcs xs m k) (fillTo xs (k : Int) 60 m) rfl hset1 rfl (fill60 _ _ _ hm) rfl ?_; intro w2 hset2 hg2))
      go_roundw
      case rel => exact ⟨k + 1, by omega, by go_num, hset2, (hb.trans (hb1.mono (by omega))).grown hg2 (by omega) (fun q hq => by injection hq with hq; omega)⟩
      case measure => simp [intOf]; omega
    · obtain rfl : k = per xs := by omega
      go_wp2
      go_ret
      exact ⟨_, rfl, Nat.le_refl _, hset, hb⟩

end Go.Proofs.Ytbadihbcjdibeaa
