/- Walks: hasPiece; which tones of a list have a piece. -/
import Derived.Test.YtbadihbcjdibeaaGrid
import Derived.Deep.RegionHeld3
import Derived.Deep.MidRow
namespace Go.Proofs.Ytbadihbcjdibeaa
open Go.RowKit

def hasB (t x : List Int) : Bool := (List.range t.length).any fun i => eqL (pieceL t (i : Int) x.length) x
def keyOf (x : List Int) : List Int := x ++ List.replicate (60 - x.length) 0
theorem keyOf_length {x : List Int} (h : x.length ≤ 60) : (keyOf x).length = 60 := by
  unfold keyOf; rw [List.length_append, List.length_replicate]; omega
theorem key_fill {t x : List Int} {i : Int} : keyOf x = fillTo t i 60 x.length ↔ x = pieceL t i x.length := by
  unfold keyOf fillTo
  constructor
  · intro h; exact List.append_cancel_right h
  · intro h; rw [← h]
theorem has_mem {t x : List Int} (h : 1 ≤ t.length) : memB (keyOf x) (pcs t x.length (per t)) = hasB t x := by
  obtain ⟨_, s2, s3, _⟩ := per_spec h
  rw [Bool.eq_iff_iff]
  unfold memB hasB
  rw [decide_eq_true_iff, pcs_mem, List.any_eq_true]
  constructor
  · rintro ⟨a, ha, e⟩
    exact ⟨a, List.mem_range.2 (by omega), eqL_iff.2 (key_fill.1 e).symm⟩
  · rintro ⟨i, _, e⟩
    have e1 := Int.emod_lt_of_pos (i : Int) (show (0 : Int) < (per t : Int) by omega)
    have e2 := Int.emod_nonneg (i : Int) (show (per t : Int) ≠ 0 by omega)
    refine ⟨((i : Int) % (per t : Int)).toNat, by omega, key_fill.2 ?_⟩
    rw [Int.toNat_of_nonneg e2, piece_emod h]
    exact (eqL_iff.1 e).symm

section
variable {w : World} {o : Oper} {a : Act} {K : Act → World → Prop} {Q : Exit → Act → World → Prop}
theorem wp_setHas (m x : Operand) (hop : o.op = Op.lookup 58 m x false) (r : Nat) (ks : List (List Int)) (xs : List Int)
    (hm : a.eval m = .map (some r)) (hset : SetMap w r ks) (hx : a.eval x = kv xs) (hlen : xs.length = 60)
    (h : K (a.put o.dst (.bool (memB xs ks))) w) : o.wp Try.prog a w K Q := by
  have hrun := run_lookup_set hset hlen
  unfold Oper.wp
  simp [execOp, hop, hm, hx, hrun, Result.andThen]
  exact h
theorem wp_loadArr (x : Operand) (hop : o.op = Op.load 64 x) (g : Nat) (key : List Int) (hlen : key.length = 60)
    (hx : a.eval x = .pointer (some ⟨g, 0, none⟩)) (ha : Arr w g key) (hK : K (a.put o.dst (kv key)) w) : o.wp Try.prog a w K Q :=
  wp_load_row 64 x hop g hx 64 (ints key).toArray (0, 0) _ ha.eq und_piece rfl (by rw [size_piece, List.size_toArray, ints_length, hlen]) hK
end

theorem splice_key (x : List Int) : splice (ints (List.replicate 60 0)) 0 (ints x) = ints (keyOf x) := by
  rw [splice_ints, List.take_zero, List.nil_append, Nat.zero_add, List.drop_replicate]
  rfl

set_option maxRecDepth 100000 in
set_option maxHeartbeats 2000000 in
theorem hasPiece_any (A : Option Addr) (n c : Nat) (xs : List Int) (A' : Option Addr) (m c' : Nat) (ys : List Int) (w : World) (h : Row w A n c xs) (h' : Row w A' m c' ys) (hn1 : 1 ≤ n) (hn : n ≤ 1000) (hm : m ≤ 60) :
    Calls Try.prog 33 #[.slice A n c, .slice A' m c'] w fun e w' => e = .returned (.bool (hasB xs ys)) ∧ Below w.heap.size w w' := by
  have HR := hide h
  have HR' := hide h'
  have HL' := hide h'.length
  have HM := hide (has_mem (t := xs) (x := ys) (by rw [h.length]; exact hn1))
  have HK := hide (keyOf_length (x := ys) (by rw [h'.length]; exact hm))
  obtain ⟨b, off, r⟩ := h'
  have r1 := r.cap
  have r2 := r.max
  have H4 := hide r.at_
  clear h r
  go_enter Try.func33, Try.ntmps33
  have H0 := hide (show Arr (w.alloc (.cells (ints (List.replicate 60 0)).toArray 64)) w.heap.size (List.replicate 60 0) from heap_alloc_new w _)
  have hl1 : (ints ys).length = Nat.min m 60 := by rw [ints_length, HL'.out]; exact (Nat.min_eq_left hm).symm
  have hl2 : 0 + (ints ys).length ≤ (ints (List.replicate 60 0)).length := by rw [ints_length, ints_length, HL'.out, List.length_replicate]; omega
  have hb0 : Below w.heap.size w (w.alloc (.cells (ints (List.replicate 60 0)).toArray 64)) := (Below.refl _ w).alloc (Nat.le_refl _) _
  have HSRC := hide (show 0 < (ints ys).length → (some ⟨w.heap.size, 0, none⟩ : Option Addr) = some ⟨w.heap.size, 0, none⟩ ∧ ∃ ad, A' = some ad ∧ ∀ j v, (ints ys)[j]? = some v → (w.alloc (.cells (ints (List.replicate 60 0)).toArray 64)).cell? (ad.add j) = some v from fun hp => by
    have hA := H4.out (by rw [ints_length, HL'.out] at hp; exact hp)
    refine ⟨rfl, _, hA, ?_⟩
    have := HR'.out.alloc (.cells (ints (List.replicate 60 0)).toArray 64)
    rw [hA] at this
    exact this.src)
  go_wp2_with (first | (refine wpList_copy_splice rfl (.tmp 6) (.tmp 7) 23 23 rfl 3 Try.underlying23 size_int (some ⟨w.heap.size, 0, none⟩) A' 60 60 m c' rfl rfl w.heap.size 0 (ints (List.replicate 60 0)) 64 H0.out (ints ys) hl1 HSRC.out hl2 (ints_one ys) w.heap.size w hb0 (Nat.le_refl _) ?_; intro w2 hg2 hb2; rw [goInt_ints, HL'.out]))
  have hg3 := hg2.out
  rw [splice_key] at hg3
  have HA := hide (show Arr w2 w.heap.size (keyOf ys) from hg3)
  have HB2 := hide hb2
  have hsz := HA.out.lt
  clear hg2 hg3 hb2 HSRC H0 hl1 hl2 hb0
  have HR2 := hide (HR.out.below HB2.out (Nat.le_refl _))
  rw [HL'.out] at HM
  have HRG := hide (show w2.rangeAt w.heap.size 0 (ints (keyOf ys)) from fun j v hv => by
    rw [Nat.zero_add, cell_of_row w2 w.heap.size j _ _ _ HA.out]
    simpa using hv)
  have hpu := und_piece
  have hps : (Try.prog.info? 64).map (·.size) = some (ints (keyOf ys)).length := by rw [size_piece, ints_length, HK.out]
  go_region_held3 (fun w' => w'.rangeAt w.heap.size 0 (ints (keyOf ys)))
    (first
      | (rw [World.rangeAt_drew]; exact HRG.out)
      | (intro j v hv; rw [hb8.cell (by simp; omega)]; exact HRG.out j v hv))
    (first
      | (go_at_call 47; refine (piecesOf_any _ _ _ xs m _ (HR2.out.drewN 1) hn1 hn hm).mono ?_; rintro e w8 ⟨r8, rfl, hr8, hset8, hb8⟩; have hlk := run_lookup_set hset8 HK.out; rw [HM.out] at hlk; unfold kv at hlk))
  all_goals
    go_wp2_with fail
    go_ret
    exact ⟨rfl, (below_drewN HB2.out 1).trans (hb8.mono (by simp; omega))⟩

end Go.Proofs.Ytbadihbcjdibeaa
