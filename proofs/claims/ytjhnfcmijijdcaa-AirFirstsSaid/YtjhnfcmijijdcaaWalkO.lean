/- Walk of the table of the least costs. -/
import Derived.Test.YtjhnfcmijijdcaaWalkN
import Derived.Laws.MakeOwn
import Derived.Laws.EntriesVeiled
namespace Go.Proofs.Ytjhnfcmijijdcaa
open Go.RowKit

theorem info_bool : (Try.prog.info? 4).map (fun i => (i.zero, i.size, i.bytes)) = some (some (.bool false), 1, 1) := by kernel_rfl
theorem mk_int (k : Nat) (hk : k ≤ 1000) (W : World) : (Instr.makeSlice 22 (.int .i64 ((k : Int) + 1)) (.int .i64 ((k : Int) + 1))).run Try.prog W =
    .ok (.slice (some ⟨W.heap.size, 0, none⟩) (k + 1) (k + 1)) (W.alloc (.cells (ints (List.replicate (k + 1) 0)).toArray 3)) := by
  obtain ⟨i0, hi, hz0, hz1, hz2⟩ := info_parts info_int
  have e := run_make (P := Try.prog) W 22 3 i0 (.int .i64 0) Try.underlying22 hi hz0 .i64 .i64 ((k : Int) + 1) ((k : Int) + 1) (by omega) (by omega) (by rw [hz2]; omega) (by omega)
  have e2 : ((k : Int) + 1).toNat = k + 1 := by omega
  have e3 : madeCells (Value.int .i64 0).cells ((k + 1) * 1) = (ints (List.replicate (k + 1) 0)).toArray := by
    apply Array.ext'
    rw [Nat.mul_one]
    show (madeCells #[Value.int .i64 0] (k + 1)).toList = _
    rw [toList_madeCells_one]
    simp [ints]
  rw [e2, hz1, e3] at e
  exact e
theorem mk_bool (k : Nat) (hk : k ≤ 1000) (W : World) : (Instr.makeSlice 77 (.int .i64 ((k : Int) + 1)) (.int .i64 ((k : Int) + 1))).run Try.prog W =
    .ok (.slice (some ⟨W.heap.size, 0, none⟩) (k + 1) (k + 1)) (W.alloc (.cells (List.replicate (k + 1) (Value.bool false)).toArray 4)) := by
  obtain ⟨i0, hi, hz0, hz1, hz2⟩ := info_parts info_bool
  have e := run_make (P := Try.prog) W 77 4 i0 (.bool false) Try.underlying77 hi hz0 .i64 .i64 ((k : Int) + 1) ((k : Int) + 1) (by omega) (by omega) (by rw [hz2]; omega) (by omega)
  have e2 : ((k : Int) + 1).toNat = k + 1 := by omega
  have e3 : madeCells (Value.bool false).cells ((k + 1) * 1) = (List.replicate (k + 1) (Value.bool false)).toArray := by
    apply Array.ext'
    rw [Nat.mul_one]
    show (madeCells #[Value.bool false] (k + 1)).toList = _
    rw [toList_madeCells_one]
  rw [e2, hz1, e3] at e
  exact e

theorem later {w : World} {g : Nat} {o : Obj} (h : w.heap[g]? = some o) (o' : Obj) : (w.alloc o').heap[g]? = some o :=
  (Below.heap_alloc w o' g (Array.getElem?_eq_some_iff.1 h).1).trans h
theorem newAt {w : World} {g : Nat} (o : Obj) (h : g = w.heap.size) : (w.alloc o).heap[g]? = some o := by subst h; exact heap_alloc_new w o
/-- The world after eight blocks have been laid. -/
def Chain8 (w : World) (o0 o1 o2 o3 o4 o5 o6 o7 : Obj) (W : World) : Prop := W.heap[w.heap.size]? = some o0 ∧ W.heap[w.heap.size + 1]? = some o1 ∧ W.heap[w.heap.size + 1 + 1]? = some o2 ∧ W.heap[w.heap.size + 1 + 1 + 1]? = some o3 ∧ W.heap[w.heap.size + 1 + 1 + 1 + 1]? = some o4 ∧ W.heap[w.heap.size + 1 + 1 + 1 + 1 + 1]? = some o5 ∧ W.heap[w.heap.size + 1 + 1 + 1 + 1 + 1 + 1]? = some o6 ∧ W.heap[w.heap.size + 1 + 1 + 1 + 1 + 1 + 1 + 1]? = some o7 ∧ Below w.heap.size w W
theorem chain8 (w : World) (o0 o1 o2 o3 o4 o5 o6 o7 : Obj) : Chain8 w o0 o1 o2 o3 o4 o5 o6 o7 ((((((((w.alloc o0).alloc o1).alloc o2).alloc o3).alloc o4).alloc o5).alloc o6).alloc o7).drew := by
  refine ⟨?_, ?_, ?_, ?_, ?_, ?_, ?_, ?_, ?_⟩
  · exact later (later (later (later (later (later (later (newAt (w := w) o0 (by simp)) o1) o2) o3) o4) o5) o6) o7
  · exact later (later (later (later (later (later (newAt (w := (w.alloc o0)) o1 (by simp)) o2) o3) o4) o5) o6) o7
  · exact later (later (later (later (later (newAt (w := ((w.alloc o0).alloc o1)) o2 (by simp)) o3) o4) o5) o6) o7
  · exact later (later (later (later (newAt (w := (((w.alloc o0).alloc o1).alloc o2)) o3 (by simp)) o4) o5) o6) o7
  · exact later (later (later (newAt (w := ((((w.alloc o0).alloc o1).alloc o2).alloc o3)) o4 (by simp)) o5) o6) o7
  · exact later (later (newAt (w := (((((w.alloc o0).alloc o1).alloc o2).alloc o3).alloc o4)) o5 (by simp)) o6) o7
  · exact later (newAt (w := ((((((w.alloc o0).alloc o1).alloc o2).alloc o3).alloc o4).alloc o5)) o6 (by simp)) o7
  · exact newAt (w := (((((((w.alloc o0).alloc o1).alloc o2).alloc o3).alloc o4).alloc o5).alloc o6)) o7 (by simp)
  · exact (((((((((Below.refl w.heap.size w).alloc (by simp; try omega) o0).alloc (by simp; try omega) o1).alloc (by simp; try omega) o2).alloc (by simp; try omega) o3).alloc (by simp; try omega) o4).alloc (by simp; try omega) o5).alloc (by simp; try omega) o6).alloc (by simp; try omega) o7).drew
theorem calls_chain8 {f : FuncId} {args : Array Value} {w : World} {o0 o1 o2 o3 o4 o5 o6 o7 : Obj} {Q : Ending → World → Prop} (h : ∀ W, Chain8 w o0 o1 o2 o3 o4 o5 o6 o7 W → Calls Try.prog f args W Q) :
    Calls Try.prog f args ((((((((w.alloc o0).alloc o1).alloc o2).alloc o3).alloc o4).alloc o5).alloc o6).alloc o7).drew Q := h _ (chain8 w o0 o1 o2 o3 o4 o5 o6 o7)
theorem Bk.ofq {w : World} {g : Nat} {t : TypeId} {cs : Array Value} (h : w.heap[g]? = some (.cells cs t)) : Bk w g t cs := h
theorem own_of {w : World} {B g k : Nat} {e : TypeId} {Z : Array Value} {l : List Value} (h : w.heap[g]? = some (.cells Z e)) (hl : Z.toList = l) (hs : l.length = k) (hB : B ≤ g) (hk : k ≤ 1001) : w.ownsRow B e 1 (.slice (some ⟨g, 0, none⟩) k k) k l := by
  subst hl
  refine ⟨by omega, .inr ⟨g, k, Z, rfl, hB, h, Nat.le_refl _, by unfold maxLen; omega, by simpa using hs, ?_⟩⟩
  exact List.take_of_length_le (by omega)
theorem knL_first (n : Nat) : (Array.replicate (n + 1) (Value.bool false)).setIfInBounds 0 (Value.bool true) = (knL n 0).toArray := by
  apply Array.ext'
  refine List.ext_getElem? fun j => ?_
  simp only [Array.toList_setIfInBounds, Array.toList_replicate]
  rw [List.getElem?_set]
  by_cases hj : j ≤ n
  · rw [knL_get hj]
    by_cases e : 0 = j
    · subst e; simp
    · rw [if_neg e, List.getElem?_replicate, if_pos (by omega)]
      simp; omega
  · rw [if_neg (by omega), List.getElem?_replicate, if_neg (by omega), List.getElem?_eq_none (by simp [knL]; omega)]
theorem kn_zero (t : Tk) (n : Nat) : Kn t 0 (List.replicate (n + 1) 0) (List.replicate (n + 1) 0) := fun j hj => by
  obtain rfl : j = 0 := by omega
  unfold Tk.q
  rw [Tk.f_zero, Tk.F_zero]
  simp

/-- What the table holds. -/
def TabPost (T : Tk) (n : Nat) (w : World) (e : Ending) (w' : World) : Prop :=
  ∃ gc gl cl ll, e = .returned (.agg #[.slice (some ⟨gc, 0, none⟩) (n + 1) (n + 1), .slice (some ⟨gl, 0, none⟩) (n + 1) (n + 1)]) ∧
    Own w' w.heap.size (some ⟨gc, 0, none⟩) (n + 1) (n + 1) cl ∧ Own w' w.heap.size (some ⟨gl, 0, none⟩) (n + 1) (n + 1) ll ∧ Kn T n cl ll ∧ Below w.heap.size w w'

theorem find_start (K h : Int) (A : Option Addr) (n c : Nat) (cs : List Int) (A' : Option Addr) (c' : Nat) (ds : List Int) (w W : World) (Z1 Z2 : Array Value) (gb gc gl : Nat)
    (hT : Tin w A n c cs A' n c' ds) (ok : (tk K h cs ds).Ok n) (hn1 : 1 ≤ n) (hn : n ≤ 12)
    (hz1 : (ints (List.replicate (n + 1) 0)).toArray = Z1) (hz2 : (Array.replicate (n + 1) (Value.bool false)).setIfInBounds 0 (Value.bool true) = Z2)
    (q1 : W.heap[w.heap.size + 1]? = some (.cells #[.slice none 0 0, .slice none 0 0] 64))
    (q0 : W.heap[w.heap.size]? = some (.cells #[.int .i64 K, .int .i64 h, .slice A n c, .slice A' n c'] 24))
    (q6 : W.heap[w.heap.size + 1 + 1 + 1 + 1 + 1 + 1]? = some (.cells #[.slice (some ⟨w.heap.size + 1 + 1 + 1 + 1 + 1, 0, none⟩) (n + 1) (n + 1)] 77))
    (q5 : W.heap[w.heap.size + 1 + 1 + 1 + 1 + 1]? = some (.cells Z2 4))
    (q7 : W.heap[w.heap.size + 1 + 1 + 1 + 1 + 1 + 1 + 1]? = some (.cells #[.func (.func 82) #[] #[.pointer (some ⟨w.heap.size + 1 + 1 + 1 + 1 + 1 + 1, 0, none⟩), .pointer (some ⟨gb, 0, none⟩), .pointer (some ⟨w.heap.size + 1 + 1 + 1 + 1 + 1 + 1 + 1, 0, none⟩), .pointer (some ⟨w.heap.size, 0, none⟩)]] 78))
    (qb : Below w.heap.size w W)
    (qt : W.heap[gb]? = some (.cells #[.slice (some ⟨gc, 0, none⟩) (n + 1) (n + 1), .slice (some ⟨gl, 0, none⟩) (n + 1) (n + 1)] 64))
    (qc : W.heap[gc]? = some (.cells Z1 3)) (ql : W.heap[gl]? = some (.cells Z1 3))
    (hb : w.heap.size + 1 < gb ∧ gb < w.heap.size + 5) (hc : w.heap.size + 1 < gc ∧ gc < w.heap.size + 5) (hl : w.heap.size + 1 < gl ∧ gl < w.heap.size + 5) (hbc : gb ≠ gc) (hbl : gb ≠ gl) (hcl : gc ≠ gl) :
    Calls Try.prog 82 #[.int .i64 n, .pointer (some ⟨w.heap.size + 1 + 1 + 1 + 1 + 1 + 1, 0, none⟩), .pointer (some ⟨gb, 0, none⟩), .pointer (some ⟨w.heap.size + 1 + 1 + 1 + 1 + 1 + 1 + 1, 0, none⟩), .pointer (some ⟨w.heap.size, 0, none⟩)] W
      (FindPost w w.heap.size n #[.int .i64 K, .int .i64 h, .slice A n c, .slice A' n c'] (w.heap.size + 1) w.heap.size (w.heap.size + 1 + 1 + 1 + 1 + 1 + 1) gb (w.heap.size + 1 + 1 + 1 + 1 + 1 + 1 + 1) gc gl (w.heap.size + 1 + 1 + 1 + 1 + 1) (tk K h cs ds) 0 (List.replicate (n + 1) 0) (List.replicate (n + 1) 0) n) := by
  refine find_any K h _ n c cs _ c' ds w (w.heap.size + 1) _ _ _ _ gc gl (w.heap.size + 1 + 1 + 1 + 1 + 1) ?_ hT ok hn1 hn n (Nat.le_refl _) 0 (List.replicate (n + 1) 0) (List.replicate (n + 1) 0) W (by omega) ?_ (kn_zero _ _) qb
  · constructor <;> omega
  · refine ⟨q1, q0, q6, qt, q7, ?_, ?_, ?_⟩
    · exact own_of qc (by rw [← hz1]) (by simp [ints]) (by omega) (by omega)
    · exact own_of ql (by rw [← hz1]) (by simp [ints]) (by omega) (by omega)
    · exact own_of q5 (by rw [← hz2, knL_first]) (by simp [knL]) (by omega) (by omega)

set_option maxHeartbeats 4000000 in
theorem cheapest_any (K h : Int) (A : Option Addr) (n c : Nat) (cs : List Int) (A' : Option Addr) (c' : Nat) (ds : List Int) (w : World)
    (hT : Tin w A n c cs A' n c' ds) (ok : (tk K h cs ds).Ok n) (hn1 : 1 ≤ n) (hn : n ≤ 12) :
    Calls Try.prog 68 #[.agg #[.int .i64 K, .int .i64 h, .slice A n c, .slice A' n c']] w (TabPost (tk K h cs ds) n w) := by
  have HT := hide hT
  have OK := hide ok
  clear hT ok
  have m1 := mk_int n (by omega)
  have m2 := mk_bool n (by omega)
  generalize hz1 : (ints (List.replicate (n + 1) 0)).toArray = Z1 at m1
  have HZ1 := hide hz1
  clear hz1
  have w1 : IntKind.i64.wrap ((n : Int) + 1) = (n : Int) + 1 := IntWalk.i64_in _ (by omega)
  go_enter Try.func68, Try.ntmps68
  go_wp2_with fail
  go_region
  all_goals clear w1
  all_goals go_wp2_with fail
  all_goals
    generalize hz2 : (Array.replicate (n + 1) (Value.bool false)).setIfInBounds 0 (Value.bool true) = Z2
    have HZ2 := hide hz2
    clear hz2
    refine calls_chain8 ?_
    rintro W ⟨q0, q1, q2, q3, q4, q5, q6, q7, qb⟩
    first
      | refine Calls.mono (find_start K h _ n c cs _ c' ds w W Z1 Z2 _ _ _ HT.out OK.out hn1 hn HZ1.out HZ2.out q1 q0 q6 q5 q7 qb q2 (by first | exact q3 | exact q4) (by first | exact q3 | exact q4) (by omega) (by omega) (by omega) (by omega) (by omega) (by omega)) ?rest
      | refine Calls.mono (find_start K h _ n c cs _ c' ds w W Z1 Z2 _ _ _ HT.out OK.out hn1 hn HZ1.out HZ2.out q1 q0 q6 q5 q7 qb q3 (by first | exact q2 | exact q4) (by first | exact q2 | exact q4) (by omega) (by omega) (by omega) (by omega) (by omega) (by omega)) ?rest
      | refine Calls.mono (find_start K h _ n c cs _ c' ds w W Z1 Z2 _ _ _ HT.out OK.out hn1 hn HZ1.out HZ2.out q1 q0 q6 q5 q7 qb q4 (by first | exact q2 | exact q3) (by first | exact q2 | exact q3) (by omega) (by omega) (by omega) (by omega) (by omega) (by omega)) ?rest
    case rest =>
      rintro e w1 ⟨rfl, cl, ll, st, kn, far, bel⟩
      rw [show max 0 n = n by omega] at st kn
      obtain ⟨r0, r1, r2, r3, _⟩ := st.r.two
      obtain ⟨b0, b1, _, _, _⟩ := st.b.two
      have OC := hide st.c
      have OL := hide st.l
      have KN := hide kn
      have BL := hide bel
      clear kn far bel m1 m2 q0 q1 q2 q3 q4 q5 q6 q7 qb
      have RR := hide (fun x y => st.r.res2 x y)
      clear st
      go_wp2_with fail
      first
        | (refine bodyPost_ret (v := .agg #[.slice (some ⟨w.heap.size + 1 + 1, 0, none⟩) (n + 1) (n + 1), .slice (some ⟨w.heap.size + 1 + 1 + 1, 0, none⟩) (n + 1) (n + 1)]) ?hres rfl ?hq; case hres => (simp [results, Try.results68, go_sem, (RR.out _ _).2.1, (RR.out _ _).2.2]; done))
        | (refine bodyPost_ret (v := .agg #[.slice (some ⟨w.heap.size + 1 + 1, 0, none⟩) (n + 1) (n + 1), .slice (some ⟨w.heap.size + 1 + 1 + 1 + 1, 0, none⟩) (n + 1) (n + 1)]) ?hres rfl ?hq; case hres => (simp [results, Try.results68, go_sem, (RR.out _ _).2.1, (RR.out _ _).2.2]; done))
        | (refine bodyPost_ret (v := .agg #[.slice (some ⟨w.heap.size + 1 + 1 + 1, 0, none⟩) (n + 1) (n + 1), .slice (some ⟨w.heap.size + 1 + 1, 0, none⟩) (n + 1) (n + 1)]) ?hres rfl ?hq; case hres => (simp [results, Try.results68, go_sem, (RR.out _ _).2.1, (RR.out _ _).2.2]; done))
        | (refine bodyPost_ret (v := .agg #[.slice (some ⟨w.heap.size + 1 + 1 + 1, 0, none⟩) (n + 1) (n + 1), .slice (some ⟨w.heap.size + 1 + 1 + 1 + 1, 0, none⟩) (n + 1) (n + 1)]) ?hres rfl ?hq; case hres => (simp [results, Try.results68, go_sem, (RR.out _ _).2.1, (RR.out _ _).2.2]; done))
        | (refine bodyPost_ret (v := .agg #[.slice (some ⟨w.heap.size + 1 + 1 + 1 + 1, 0, none⟩) (n + 1) (n + 1), .slice (some ⟨w.heap.size + 1 + 1, 0, none⟩) (n + 1) (n + 1)]) ?hres rfl ?hq; case hres => (simp [results, Try.results68, go_sem, (RR.out _ _).2.1, (RR.out _ _).2.2]; done))
        | (refine bodyPost_ret (v := .agg #[.slice (some ⟨w.heap.size + 1 + 1 + 1 + 1, 0, none⟩) (n + 1) (n + 1), .slice (some ⟨w.heap.size + 1 + 1 + 1, 0, none⟩) (n + 1) (n + 1)]) ?hres rfl ?hq; case hres => (simp [results, Try.results68, go_sem, (RR.out _ _).2.1, (RR.out _ _).2.2]; done))
      case hq =>
       refine ⟨_, _, cl, ll, rfl, (OC.out.apart ?_ _).apart ?_ _, (OL.out.apart ?_ _).apart ?_ _, KN.out, (BL.out.setCell (by simp) _).setCell (by simp) _⟩
       all_goals (simp [Value.ownBlock]; try omega)

end Go.Proofs.Ytjhnfcmijijdcaa
