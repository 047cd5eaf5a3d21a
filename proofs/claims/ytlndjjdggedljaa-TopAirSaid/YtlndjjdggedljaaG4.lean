/- Group 4: texts WalkN, WalkO, WalkP, WalkQ, WalkR, Lift. -/
import Derived.Test.YtlndjjdggedljaaG3
import Derived.Laws.MakeOwn
import Derived.Laws.EntriesVeiled
import Derived.Deep.RegionLaw
import Derived.Deep.RegionWith
import Derived.ProofKit
import Derived.OpenShut
import Derived.ShutString
import Derived.ChangeOld
import Derived.ChangeSlices
import Derived.Lib.SmallJoins
/- WalkN -/
namespace Go.Proofs.Ytlndjjdggedljaa
open Go.RowKit

/-- What a call of the closure for x leaves. -/
def FindPost (w0 : World) (B n : Nat) (task : Array Value) (gr gt gk gb gf gc gl gn : Nat) (T : Tk) (m : Nat) (cl ll : List Int) (x : Nat) (e : Ending) (w' : World) : Prop :=
  e = .returned (.int .i64 (T.f x)) ∧ ∃ cl' ll', St w' B n task gr gt gk gb gf gc gl gn (max m x) cl' ll' ∧ Kn T (max m x) cl' ll' ∧
    (∀ j, x < j → cl'.getD j 0 = cl.getD j 0 ∧ ll'.getD j 0 = ll.getD j 0) ∧ Below B w0 w'

set_option maxHeartbeats 4000000 in
theorem find_any (K h : Int) (A : Option Addr) (n c : Nat) (cs : List Int) (A' : Option Addr) (c' : Nat) (ds : List Int) (w0 : World) (gr gt gk gb gf gc gl gn : Nat)
    (ap : Apart gr gt gk gb gf gc gl gn) (hT : Tin w0 A n c cs A' n c' ds) (ok : (tk K h cs ds).Ok n) (hn1 : 1 ≤ n) (hn : n ≤ 12) :
    ∀ x : Nat, x ≤ n → ∀ (m : Nat) (cl ll : List Int) (w : World), m ≤ n →
      St w w0.heap.size n #[.int .i64 K, .int .i64 h, .slice A n c, .slice A' n c'] gr gt gk gb gf gc gl gn m cl ll → Kn (tk K h cs ds) m cl ll → Below w0.heap.size w0 w →
      Calls Try.prog 82 #[.int .i64 x, .pointer (some ⟨gk, 0, none⟩), .pointer (some ⟨gb, 0, none⟩), .pointer (some ⟨gf, 0, none⟩), .pointer (some ⟨gt, 0, none⟩)] w
        (FindPost w0 w0.heap.size n #[.int .i64 K, .int .i64 h, .slice A n c, .slice A' n c'] gr gt gk gb gf gc gl gn (tk K h cs ds) m cl ll x) := by
  intro x
  have HT := hide hT
  have OK := hide ok
  have AP := hide ap
  clear hT ok ap
  induction x using Nat.strongRecOn with
  | ind x ih =>
    have IH := hide ih
    clear ih
    intro hxn m cl ll w hmn hst hkn hbel
    have ST := hide hst
    have KN := hide hkn
    have BEL := hide hbel
    have kk := hst.k.at_ 0
    have kb0 := hst.b.at_ 0
    have kb1 := hst.b.at_ 1
    simp at kk kb0 kb1
    by_cases hx : x ≤ m
    · have kx := hst.known (j := x) hxn
      rw [decide_eq_true hx] at kx
      have cx := hst.c.cell (k := x) (by omega)
      rw [(hkn x hx).1] at cx
      clear hst hkn hbel
      generalize hv : (tk K h cs ds).f x = v at *
      have HV := hide hv
      clear hv
      go_enter Try.func82, Try.ntmps82
      go_wp2_with fail
      go_ret
      exact ⟨ret_i64 HV.out.symm, cl, ll, by rw [show max m x = m by omega]; exact ST.out, by rw [show max m x = m by omega]; exact KN.out, fun j _ => ⟨rfl, rfl⟩, BEL.out⟩
    · have kx := hst.known (j := x) hxn
      rw [decide_eq_false hx] at kx
      clear hst hkn hbel
      go_enter Try.func82, Try.ntmps82
      go_wp2_with fail
      go_loopw [19] (fun i wr => ∃ (k : Nat) (cl' ll' : List Int), k ≤ x ∧ i = .int .i64 k ∧ St wr w0.heap.size n #[.int .i64 K, .int .i64 h, .slice A n c, .slice A' n c'] gr gt gk gb gf gc gl gn (max m (k - 1)) cl' ll' ∧
        Kn (tk K h cs ds) (max m (k - 1)) cl' ll' ∧ (1 ≤ k → cl'.getD x 0 = (firstMin ((tk K h cs ds).G x) k).1 ∧ ll'.getD x 0 = ((firstMin ((tk K h cs ds).G x) k).2 : Int)) ∧
        (∀ j, x < j → cl'.getD j 0 = cl.getD j 0 ∧ ll'.getD j 0 = ll.getD j 0) ∧ Below w0.heap.size w0 wr) (fun i _ => x - (intOf i).toNat)
      case atStart => exact ⟨0, cl, ll, by omega, rfl, by rw [show max m (0 - 1) = m by omega]; exact ST.out, by rw [show max m (0 - 1) = m by omega]; exact KN.out, fun h => by omega, fun j _ => ⟨rfl, rfl⟩, BEL.out⟩
      case round =>
        obtain ⟨k, cl', ll', hk, rfl, hst, hkn, hcur, hfar, hbel⟩ := hrel
        have ST1 := hide hst
        have KN1 := hide hkn
        have CUR := hide hcur
        have FAR := hide hfar
        have BEL1 := hide hbel
        by_cases hlt : k < x
        · have kf := hst.f.at_ 0
          simp at kf
          clear hst hkn hcur hfar hbel
          go_wp2_with fail
          refine (IH.out k hlt (by omega) (max m (k - 1)) cl' ll' _ (by omega) ST1.out KN1.out BEL1.out).mono ?_
          rintro e w1 ⟨rfl, cl1, ll1, st1, kn1, far1, bel1⟩
          rw [show max (max m (k - 1)) k = max m k by omega] at st1 kn1
          obtain ⟨t0, t1, t2, t3, _⟩ := st1.t.four
          have TW := hide (together_any K h A n c cs A' c' ds k x w1 (HT.out.below bel1 (Nat.le_refl _)) OK.out (by omega) hxn hn1 hn)
          have hG := hide (show (tk K h cs ds).G x k = (tk K h cs ds).f k + (tk K h cs ds).tog k x from rfl)
          have g0 := OK.out.f0 (m := k) (by omega)
          have g1 := OK.out.f1 hn (m := k) (by omega)
          have g2 := OK.out.tog0 k (m := x) hxn
          have g3 := OK.out.tog1 k (m := x) hxn hn
          have HY := hide (fun e => firstMin_yes (f := (tk K h cs ds).G x) (k := k) e)
          have HN := hide (fun e1 e2 => firstMin_no (f := (tk K h cs ds).G x) (k := k) e1 e2)
          rw [hG.out] at HY HN
          generalize (tk K h cs ds).f k = vf at *
          generalize (tk K h cs ds).tog k x = vt at *
          have S1 := hide st1
          have KN2 := hide kn1
          have FAR1 := hide far1
          have BEL2 := hide bel1
          clear st1 kn1 far1 bel1 hG
          go_wp2_with fail
          refine TW.out.mono ?_
          rintro e w2 ⟨rfl, b2⟩
          have S2 := hide (S1.out.keep b2)
          have BEL3 := hide (BEL2.out.trans (b2.mono BEL2.out.size))
          clear t0 t1 t2 t3 b2
          have q0 := S2.out.b.at_ 0
          have q1 := S2.out.b.at_ 1
          simp at q0 q1
          have cx := S2.out.c.cell (k := x) (by omega)
          have lx := S2.out.l.cell (k := x) (by omega)
          have fc := S2.out.c.frozen x
          have fl := S2.out.l.frozen x
          rw [(FAR1.out x hlt).1] at cx
          have lc := S2.out.c.len
          have ll := S2.out.l.len
          have LC := hide lc
          have LL := hide ll
          clear lc ll
          have SC := hide (S2.out.setC AP.out x (vf + vt))
          have SL := hide (S2.out.setL AP.out x k)
          have c0 := SC.out.b.at_ 0
          have c1 := SC.out.b.at_ 1
          have c2 := SC.out.l.cell (k := x) (by omega)
          have c3 := SC.out.l.frozen x
          have d0 := SL.out.b.at_ 0
          have d1 := SL.out.b.at_ 1
          have d2 := SL.out.c.cell (k := x) (by omega)
          have d3 := SL.out.c.frozen x
          rw [(FAR1.out x hlt).1] at d2
          simp at c0 c1 d0 d1
          by_cases hk0 : k = 0
          · have hke : ((k : Int) == 0) = true := by simp [hk0]
            have HK := hide hk0
            clear hk0
            go_wp2_with fail
            go_region
            all_goals
              go_wp2_with fail
              go_roundw
              case rel => exact ⟨k + 1, cl1.set x (vf + vt), ll1.set x k, by omega, by go_num, by rw [show max m (k + 1 - 1) = max m k by omega]; exact (SC.out.setL AP.out x k).draw, by rw [show max m (k + 1 - 1) = max m k by omega]; exact KN2.out.set (by omega) _ _, fun _ => ⟨by rw [getD_set_eq (by rw [LC.out]; omega), HY.out (.inl HK.out)], by rw [getD_set_eq (by rw [LL.out]; omega), HY.out (.inl HK.out)]⟩, fun j hj => ⟨by rw [getD_set_ne (by omega), (FAR1.out j (by omega)).1, (FAR.out j hj).1], by rw [getD_set_ne (by omega), (FAR1.out j (by omega)).2, (FAR.out j hj).2]⟩, ((BEL3.out.setCell S2.out.ge.1 _).setCell S2.out.ge.2.1 _).drew⟩
              case measure => simp [intOf]; omega
          · have hke : ((k : Int) == 0) = false := by simp [hk0]
            rw [(CUR.out (by omega)).1] at cx
            have HK1 := hide (show 1 ≤ k by omega)
            have HK := hide hk0
            clear hk0
            generalize hbest : (firstMin ((tk K h cs ds).G x) k).1 = best at *
            have HB := hide hbest
            clear hbest
            by_cases hc : vf + vt < best
            · have HC := hide hc
              go_wp2_with fail
              go_region
              all_goals
                go_wp2_with fail
                go_roundw
                case rel => exact ⟨k + 1, cl1.set x (vf + vt), ll1.set x k, by omega, by go_num, by rw [show max m (k + 1 - 1) = max m k by omega]; exact (SC.out.setL AP.out x k).draw, by rw [show max m (k + 1 - 1) = max m k by omega]; exact KN2.out.set (by omega) _ _, fun _ => ⟨by rw [getD_set_eq (by rw [LC.out]; omega), HY.out (.inr HC.out)], by rw [getD_set_eq (by rw [LL.out]; omega), HY.out (.inr HC.out)]⟩, fun j hj => ⟨by rw [getD_set_ne (by omega), (FAR1.out j (by omega)).1, (FAR.out j hj).1], by rw [getD_set_ne (by omega), (FAR1.out j (by omega)).2, (FAR.out j hj).2]⟩, ((BEL3.out.setCell S2.out.ge.1 _).setCell S2.out.ge.2.1 _).drew⟩
                case measure => simp [intOf]; omega
            · go_wp2_with fail
              go_roundw
              case rel => exact ⟨k + 1, cl1, ll1, by omega, by go_num, by rw [show max m (k + 1 - 1) = max m k by omega]; exact S2.out, by rw [show max m (k + 1 - 1) = max m k by omega]; exact KN2.out, fun _ => ⟨by rw [(FAR1.out x hlt).1, (CUR.out HK1.out).1, HN.out HK.out (by omega), HB.out], by rw [(FAR1.out x hlt).2, (CUR.out HK1.out).2, HN.out HK.out (by omega)]⟩, fun j hj => ⟨by rw [(FAR1.out j (by omega)).1, (FAR.out j hj).1], by rw [(FAR1.out j (by omega)).2, (FAR.out j hj).2]⟩, BEL3.out⟩
              case measure => simp [intOf]; omega
        · obtain rfl : k = x := by omega
          rw [show max m (k - 1) = k - 1 by omega] at hst hkn
          have r0 := hst.k.at_ 0
          have r1 := hst.b.at_ 0
          simp at r0 r1
          have r2 := hst.known (j := k) hxn
          have r3 := World.ownsRow.frozenAt hst.n k
          have ST2 := hst.setN AP.out (by omega)
          rw [show k - 1 + 1 = k by omega] at ST2
          have r4 := ST2.c.cell (k := k) (by omega)
          have r5 := ST2.b.at_ 0
          simp at r5
          have hF := (tk K h cs ds).F_eq k
          have hcl : cl'.getD k 0 = (tk K h cs ds).f k ∧ ll'.getD k 0 = ((tk K h cs ds).q k : Int) := by
            have := hcur (by omega)
            unfold Tk.f Tk.q
            rw [hF]
            exact this
          rw [hcl.1] at r4
          have HCL := hide hcl
          have ST3 := hide ST2
          clear hst hkn hcur hfar hbel ST2 ST1 hF hcl CUR
          generalize hv : (tk K h cs ds).f k = v at *
          have HV := hide hv
          clear hv
          go_wp2_with fail
          go_ret
          exact ⟨ret_i64 HV.out.symm, cl', ll', by rw [show max m k = k by omega]; exact ST3.out, by
            rw [show max m k = k by omega]
            intro j hj
            by_cases e : j = k
            · subst e; rw [HV.out]; exact HCL.out
            · exact KN1.out j (by omega), FAR.out, BEL1.out.setCell ST3.out.ge.2.2 _⟩

end Go.Proofs.Ytlndjjdggedljaa

/- WalkO -/
namespace Go.Proofs.Ytlndjjdggedljaa
open Go.RowKit

theorem info_bool : (Try.prog.info? 4).map (fun i => (i.zero, i.size, i.bytes)) = some (some (.bool false), 1, 1) := by kernel_rfl
theorem mk_int (k : Nat) (hk : k ≤ 1000) (W : World) : (Instr.makeSlice 22 (.int .i64 ((k : Int) + 1)) (.int .i64 ((k : Int) + 1))).run Try.prog W =
    .ok (.slice (some ⟨W.heap.size, 0, none⟩) (k + 1) (k + 1)) (W.alloc (.cells (ints (List.replicate (k + 1) 0)).toArray 3)) := by
  obtain ⟨i0, hi, hz0, hz1, hz2⟩ := info_parts info_int
  have e := run_make (P := Try.prog) W 22 3 i0 (.int .i64 0) Try.underlying22 hi hz0 .i64 .i64 ((k : Int) + 1) ((k : Int) + 1) (by omega) (by omega) (by rw [hz2]; omega) (by omega)
  have e2 : ((k : Int) + 1).toNat = k + 1 := by omega
  have e3 : madeCells (Value.int .i64 0).cells ((k + 1) * 1) = (ints (List.replicate (k + 1) 0)).toArray := by
    apply Array.ext'
    rw [Nat.mul_one]
    show (madeCells #[Value.int .i64 0] (k + 1)).toList = _
    rw [toList_madeCells_one]
    simp [ints]
  rw [e2, hz1, e3] at e
  exact e
theorem mk_bool (k : Nat) (hk : k ≤ 1000) (W : World) : (Instr.makeSlice 77 (.int .i64 ((k : Int) + 1)) (.int .i64 ((k : Int) + 1))).run Try.prog W =
    .ok (.slice (some ⟨W.heap.size, 0, none⟩) (k + 1) (k + 1)) (W.alloc (.cells (List.replicate (k + 1) (Value.bool false)).toArray 4)) := by
  obtain ⟨i0, hi, hz0, hz1, hz2⟩ := info_parts info_bool
  have e := run_make (P := Try.prog) W 77 4 i0 (.bool false) Try.underlying77 hi hz0 .i64 .i64 ((k : Int) + 1) ((k : Int) + 1) (by omega) (by omega) (by rw [hz2]; omega) (by omega)
  have e2 : ((k : Int) + 1).toNat = k + 1 := by omega
  have e3 : madeCells (Value.bool false).cells ((k + 1) * 1) = (List.replicate (k + 1) (Value.bool false)).toArray := by
    apply Array.ext'
    rw [Nat.mul_one]
    show (madeCells #[Value.bool false] (k + 1)).toList = _
    rw [toList_madeCells_one]
  rw [e2, hz1, e3] at e
  exact e

theorem later {w : World} {g : Nat} {o : Obj} (h : w.heap[g]? = some o) (o' : Obj) : (w.alloc o').heap[g]? = some o :=
  (Below.heap_alloc w o' g (Array.getElem?_eq_some_iff.1 h).1).trans h
theorem newAt {w : World} {g : Nat} (o : Obj) (h : g = w.heap.size) : (w.alloc o).heap[g]? = some o := by subst h; exact heap_alloc_new w o
/-- The world after eight blocks have been laid. -/
def Chain8 (w : World) (o0 o1 o2 o3 o4 o5 o6 o7 : Obj) (W : World) : Prop := W.heap[w.heap.size]? = some o0 ∧ W.heap[w.heap.size + 1]? = some o1 ∧ W.heap[w.heap.size + 1 + 1]? = some o2 ∧ W.heap[w.heap.size + 1 + 1 + 1]? = some o3 ∧ W.heap[w.heap.size + 1 + 1 + 1 + 1]? = some o4 ∧ W.heap[w.heap.size + 1 + 1 + 1 + 1 + 1]? = some o5 ∧ W.heap[w.heap.size + 1 + 1 + 1 + 1 + 1 + 1]? = some o6 ∧ W.heap[w.heap.size + 1 + 1 + 1 + 1 + 1 + 1 + 1]? = some o7 ∧ Below w.heap.size w W
theorem chain8 (w : World) (o0 o1 o2 o3 o4 o5 o6 o7 : Obj) : Chain8 w o0 o1 o2 o3 o4 o5 o6 o7 ((((((((w.alloc o0).alloc o1).alloc o2).alloc o3).alloc o4).alloc o5).alloc o6).alloc o7).drew := by
  refine ⟨?_, ?_, ?_, ?_, ?_, ?_, ?_, ?_, ?_⟩
  · exact later (later (later (later (later (later (later (newAt (w := w) o0 (by simp)) o1) o2) o3) o4) o5) o6) o7
  · exact later (later (later (later (later (later (newAt (w := (w.alloc o0)) o1 (by simp)) o2) o3) o4) o5) o6) o7
  · exact later (later (later (later (later (newAt (w := ((w.alloc o0).alloc o1)) o2 (by simp)) o3) o4) o5) o6) o7
  · exact later (later (later (later (newAt (w := (((w.alloc o0).alloc o1).alloc o2)) o3 (by simp)) o4) o5) o6) o7
  · exact later (later (later (newAt (w := ((((w.alloc o0).alloc o1).alloc o2).alloc o3)) o4 (by simp)) o5) o6) o7
  · exact later (later (newAt (w := (((((w.alloc o0).alloc o1).alloc o2).alloc o3).alloc o4)) o5 (by simp)) o6) o7
  · exact later (newAt (w := ((((((w.alloc o0).alloc o1).alloc o2).alloc o3).alloc o4).alloc o5)) o6 (by simp)) o7
  · exact newAt (w := (((((((w.alloc o0).alloc o1).alloc o2).alloc o3).alloc o4).alloc o5).alloc o6)) o7 (by simp)
  · exact (((((((((Below.refl w.heap.size w).alloc (by simp; try omega) o0).alloc (by simp; try omega) o1).alloc (by simp; try omega) o2).alloc (by simp; try omega) o3).alloc (by simp; try omega) o4).alloc (by simp; try omega) o5).alloc (by simp; try omega) o6).alloc (by simp; try omega) o7).drew
theorem calls_chain8 {f : FuncId} {args : Array Value} {w : World} {o0 o1 o2 o3 o4 o5 o6 o7 : Obj} {Q : Ending → World → Prop} (h : ∀ W, Chain8 w o0 o1 o2 o3 o4 o5 o6 o7 W → Calls Try.prog f args W Q) :
    Calls Try.prog f args ((((((((w.alloc o0).alloc o1).alloc o2).alloc o3).alloc o4).alloc o5).alloc o6).alloc o7).drew Q := h _ (chain8 w o0 o1 o2 o3 o4 o5 o6 o7)
theorem Bk.ofq {w : World} {g : Nat} {t : TypeId} {cs : Array Value} (h : w.heap[g]? = some (.cells cs t)) : Bk w g t cs := h
theorem own_of {w : World} {B g k : Nat} {e : TypeId} {Z : Array Value} {l : List Value} (h : w.heap[g]? = some (.cells Z e)) (hl : Z.toList = l) (hs : l.length = k) (hB : B ≤ g) (hk : k ≤ 1001) : w.ownsRow B e 1 (.slice (some ⟨g, 0, none⟩) k k) k l := by
  subst hl
  refine ⟨by omega, .inr ⟨g, k, Z, rfl, hB, h, Nat.le_refl _, by unfold maxLen; omega, by simpa using hs, ?_⟩⟩
  exact List.take_of_length_le (by omega)
theorem knL_first (n : Nat) : (Array.replicate (n + 1) (Value.bool false)).setIfInBounds 0 (Value.bool true) = (knL n 0).toArray := by
  apply Array.ext'
  refine List.ext_getElem? fun j => ?_
  simp only [Array.toList_setIfInBounds, Array.toList_replicate]
  rw [List.getElem?_set]
  by_cases hj : j ≤ n
  · rw [knL_get hj]
    by_cases e : 0 = j
    · subst e; simp
    · rw [if_neg e, List.getElem?_replicate, if_pos (by omega)]
      simp; omega
  · rw [if_neg (by omega), List.getElem?_replicate, if_neg (by omega), List.getElem?_eq_none (by simp [knL]; omega)]
theorem kn_zero (t : Tk) (n : Nat) : Kn t 0 (List.replicate (n + 1) 0) (List.replicate (n + 1) 0) := fun j hj => by
  obtain rfl : j = 0 := by omega
  unfold Tk.q
  rw [Tk.f_zero, Tk.F_zero]
  simp

/-- What the table holds. -/
def TabPost (T : Tk) (n : Nat) (w : World) (e : Ending) (w' : World) : Prop :=
  ∃ gc gl cl ll, e = .returned (.agg #[.slice (some ⟨gc, 0, none⟩) (n + 1) (n + 1), .slice (some ⟨gl, 0, none⟩) (n + 1) (n + 1)]) ∧
    Own w' w.heap.size (some ⟨gc, 0, none⟩) (n + 1) (n + 1) cl ∧ Own w' w.heap.size (some ⟨gl, 0, none⟩) (n + 1) (n + 1) ll ∧ Kn T n cl ll ∧ Below w.heap.size w w'

theorem find_start (K h : Int) (A : Option Addr) (n c : Nat) (cs : List Int) (A' : Option Addr) (c' : Nat) (ds : List Int) (w W : World) (Z1 Z2 : Array Value) (gb gc gl : Nat)
    (hT : Tin w A n c cs A' n c' ds) (ok : (tk K h cs ds).Ok n) (hn1 : 1 ≤ n) (hn : n ≤ 12)
    (hz1 : (ints (List.replicate (n + 1) 0)).toArray = Z1) (hz2 : (Array.replicate (n + 1) (Value.bool false)).setIfInBounds 0 (Value.bool true) = Z2)
    (q1 : W.heap[w.heap.size + 1]? = some (.cells #[.slice none 0 0, .slice none 0 0] 64))
    (q0 : W.heap[w.heap.size]? = some (.cells #[.int .i64 K, .int .i64 h, .slice A n c, .slice A' n c'] 24))
    (q6 : W.heap[w.heap.size + 1 + 1 + 1 + 1 + 1 + 1]? = some (.cells #[.slice (some ⟨w.heap.size + 1 + 1 + 1 + 1 + 1, 0, none⟩) (n + 1) (n + 1)] 77))
    (q5 : W.heap[w.heap.size + 1 + 1 + 1 + 1 + 1]? = some (.cells Z2 4))
    (q7 : W.heap[w.heap.size + 1 + 1 + 1 + 1 + 1 + 1 + 1]? = some (.cells #[.func (.func 82) #[] #[.pointer (some ⟨w.heap.size + 1 + 1 + 1 + 1 + 1 + 1, 0, none⟩), .pointer (some ⟨gb, 0, none⟩), .pointer (some ⟨w.heap.size + 1 + 1 + 1 + 1 + 1 + 1 + 1, 0, none⟩), .pointer (some ⟨w.heap.size, 0, none⟩)]] 78))
    (qb : Below w.heap.size w W)
    (qt : W.heap[gb]? = some (.cells #[.slice (some ⟨gc, 0, none⟩) (n + 1) (n + 1), .slice (some ⟨gl, 0, none⟩) (n + 1) (n + 1)] 64))
    (qc : W.heap[gc]? = some (.cells Z1 3)) (ql : W.heap[gl]? = some (.cells Z1 3))
    (hb : w.heap.size + 1 < gb ∧ gb < w.heap.size + 5) (hc : w.heap.size + 1 < gc ∧ gc < w.heap.size + 5) (hl : w.heap.size + 1 < gl ∧ gl < w.heap.size + 5) (hbc : gb ≠ gc) (hbl : gb ≠ gl) (hcl : gc ≠ gl) :
    Calls Try.prog 82 #[.int .i64 n, .pointer (some ⟨w.heap.size + 1 + 1 + 1 + 1 + 1 + 1, 0, none⟩), .pointer (some ⟨gb, 0, none⟩), .pointer (some ⟨w.heap.size + 1 + 1 + 1 + 1 + 1 + 1 + 1, 0, none⟩), .pointer (some ⟨w.heap.size, 0, none⟩)] W
      (FindPost w w.heap.size n #[.int .i64 K, .int .i64 h, .slice A n c, .slice A' n c'] (w.heap.size + 1) w.heap.size (w.heap.size + 1 + 1 + 1 + 1 + 1 + 1) gb (w.heap.size + 1 + 1 + 1 + 1 + 1 + 1 + 1) gc gl (w.heap.size + 1 + 1 + 1 + 1 + 1) (tk K h cs ds) 0 (List.replicate (n + 1) 0) (List.replicate (n + 1) 0) n) := by
  refine find_any K h _ n c cs _ c' ds w (w.heap.size + 1) _ _ _ _ gc gl (w.heap.size + 1 + 1 + 1 + 1 + 1) ?_ hT ok hn1 hn n (Nat.le_refl _) 0 (List.replicate (n + 1) 0) (List.replicate (n + 1) 0) W (by omega) ?_ (kn_zero _ _) qb
  · constructor <;> omega
  · refine ⟨q1, q0, q6, qt, q7, ?_, ?_, ?_⟩
    · exact own_of qc (by rw [← hz1]) (by simp [ints]) (by omega) (by omega)
    · exact own_of ql (by rw [← hz1]) (by simp [ints]) (by omega) (by omega)
    · exact own_of q5 (by rw [← hz2, knL_first]) (by simp [knL]) (by omega) (by omega)

set_option maxHeartbeats 4000000 in
theorem cheapest_any (K h : Int) (A : Option Addr) (n c : Nat) (cs : List Int) (A' : Option Addr) (c' : Nat) (ds : List Int) (w : World)
    (hT : Tin w A n c cs A' n c' ds) (ok : (tk K h cs ds).Ok n) (hn1 : 1 ≤ n) (hn : n ≤ 12) :
    Calls Try.prog 68 #[.agg #[.int .i64 K, .int .i64 h, .slice A n c, .slice A' n c']] w (TabPost (tk K h cs ds) n w) := by
  have HT := hide hT
  have OK := hide ok
  clear hT ok
  have m1 := mk_int n (by omega)
  have m2 := mk_bool n (by omega)
  generalize hz1 : (ints (List.replicate (n + 1) 0)).toArray = Z1 at m1
  have HZ1 := hide hz1
  clear hz1
  have w1 : IntKind.i64.wrap ((n : Int) + 1) = (n : Int) + 1 := IntWalk.i64_in _ (by omega)
  go_enter Try.func68, Try.ntmps68
  go_wp2_with fail
  go_region
  all_goals clear w1
  all_goals go_wp2_with fail
  all_goals
    generalize hz2 : (Array.replicate (n + 1) (Value.bool false)).setIfInBounds 0 (Value.bool true) = Z2
    have HZ2 := hide hz2
    clear hz2
    refine calls_chain8 ?_
    rintro W ⟨q0, q1, q2, q3, q4, q5, q6, q7, qb⟩
    first
      | refine Calls.mono (find_start K h _ n c cs _ c' ds w W Z1 Z2 _ _ _ HT.out OK.out hn1 hn HZ1.out HZ2.out q1 q0 q6 q5 q7 qb q2 (by first | exact q3 | exact q4) (by first | exact q3 | exact q4) (by omega) (by omega) (by omega) (by omega) (by omega) (by omega)) ?rest
      | refine Calls.mono (find_start K h _ n c cs _ c' ds w W Z1 Z2 _ _ _ HT.out OK.out hn1 hn HZ1.out HZ2.out q1 q0 q6 q5 q7 qb q3 (by first | exact q2 | exact q4) (by first | exact q2 | exact q4) (by omega) (by omega) (by omega) (by omega) (by omega) (by omega)) ?rest
      | refine Calls.mono (find_start K h _ n c cs _ c' ds w W Z1 Z2 _ _ _ HT.out OK.out hn1 hn HZ1.out HZ2.out q1 q0 q6 q5 q7 qb q4 (by first | exact q2 | exact q3) (by first | exact q2 | exact q3) (by omega) (by omega) (by omega) (by omega) (by omega) (by omega)) ?rest
    case rest =>
      rintro e w1 ⟨rfl, cl, ll, st, kn, far, bel⟩
      rw [show max 0 n = n by omega] at st kn
      obtain ⟨r0, r1, r2, r3, _⟩ := st.r.two
      obtain ⟨b0, b1, _, _, _⟩ := st.b.two
      have OC := hide st.c
      have OL := hide st.l
      have KN := hide kn
      have BL := hide bel
      clear kn far bel m1 m2 q0 q1 q2 q3 q4 q5 q6 q7 qb
      have RR := hide (fun x y => st.r.res2 x y)
      clear st
      go_wp2_with fail
      first
        | (refine bodyPost_ret (v := .agg #[.slice (some ⟨w.heap.size + 1 + 1, 0, none⟩) (n + 1) (n + 1), .slice (some ⟨w.heap.size + 1 + 1 + 1, 0, none⟩) (n + 1) (n + 1)]) ?hres rfl ?hq; case hres => (simp [results, Try.results68, go_sem, (RR.out _ _).2.1, (RR.out _ _).2.2]; done))
        | (refine bodyPost_ret (v := .agg #[.slice (some ⟨w.heap.size + 1 + 1, 0, none⟩) (n + 1) (n + 1), .slice (some ⟨w.heap.size + 1 + 1 + 1 + 1, 0, none⟩) (n + 1) (n + 1)]) ?hres rfl ?hq; case hres => (simp [results, Try.results68, go_sem, (RR.out _ _).2.1, (RR.out _ _).2.2]; done))
        | (refine bodyPost_ret (v := .agg #[.slice (some ⟨w.heap.size + 1 + 1 + 1, 0, none⟩) (n + 1) (n + 1), .slice (some ⟨w.heap.size + 1 + 1, 0, none⟩) (n + 1) (n + 1)]) ?hres rfl ?hq; case hres => (simp [results, Try.results68, go_sem, (RR.out _ _).2.1, (RR.out _ _).2.2]; done))
        | (refine bodyPost_ret (v := .agg #[.slice (some ⟨w.heap.size + 1 + 1 + 1, 0, none⟩) (n + 1) (n + 1), .slice (some ⟨w.heap.size + 1 + 1 + 1 + 1, 0, none⟩) (n + 1) (n + 1)]) ?hres rfl ?hq; case hres => (simp [results, Try.results68, go_sem, (RR.out _ _).2.1, (RR.out _ _).2.2]; done))
        | (refine bodyPost_ret (v := .agg #[.slice (some ⟨w.heap.size + 1 + 1 + 1 + 1, 0, none⟩) (n + 1) (n + 1), .slice (some ⟨w.heap.size + 1 + 1, 0, none⟩) (n + 1) (n + 1)]) ?hres rfl ?hq; case hres => (simp [results, Try.results68, go_sem, (RR.out _ _).2.1, (RR.out _ _).2.2]; done))
        | (refine bodyPost_ret (v := .agg #[.slice (some ⟨w.heap.size + 1 + 1 + 1 + 1, 0, none⟩) (n + 1) (n + 1), .slice (some ⟨w.heap.size + 1 + 1 + 1, 0, none⟩) (n + 1) (n + 1)]) ?hres rfl ?hq; case hres => (simp [results, Try.results68, go_sem, (RR.out _ _).2.1, (RR.out _ _).2.2]; done))
      case hq =>
       refine ⟨_, _, cl, ll, rfl, (OC.out.apart ?_ _).apart ?_ _, (OL.out.apart ?_ _).apart ?_ _, KN.out, (BL.out.setCell (by simp) _).setCell (by simp) _⟩
       all_goals (simp [Value.ownBlock]; try omega)

end Go.Proofs.Ytlndjjdggedljaa

/- WalkP -/
namespace Go.Proofs.Ytlndjjdggedljaa
open Go.RowKit

theorem run_table0 (A1 : Option Addr) (n1 c1 : Nat) (A2 : Option Addr) (n2 c2 : Nat) (W : World) : (Instr.field 64 (.agg #[.slice A1 n1 c1, .slice A2 n2 c2]) 0).run Try.prog W = .ok (.slice A1 n1 c1) W := rfl
theorem run_table1 (A1 : Option Addr) (n1 c1 : Nat) (A2 : Option Addr) (n2 c2 : Nat) (W : World) : (Instr.field 64 (.agg #[.slice A1 n1 c1, .slice A2 n2 c2]) 1).run Try.prog W = .ok (.slice A2 n2 c2) W := rfl
set_option maxHeartbeats 4000000 in
theorem least_any (K h : Int) (A : Option Addr) (n c : Nat) (cs : List Int) (A' : Option Addr) (c' : Nat) (ds : List Int) (w : World)
    (hT : Tin w A n c cs A' n c' ds) (ok : (tk K h cs ds).Ok n) (hn1 : 1 ≤ n) (hn : n ≤ 12) :
    Calls Try.prog 66 #[.agg #[.int .i64 K, .int .i64 h, .slice A n c, .slice A' n c']] w fun e w' => e = .returned (.int .i64 ((tk K h cs ds).f n)) ∧ Below w.heap.size w w' := by
  have B0 := hide ((Below.refl w.heap.size w).alloc (Nat.le_refl _) (.cells #[.int .i64 K, .int .i64 h, .slice A n c, .slice A' n c'] 24))
  have K0 := hide (Bk.born w 24 #[.int .i64 K, .int .i64 h, .slice A n c, .slice A' n c'])
  have CH := hide (fun W hw => cheapest_any K h A n c cs A' c' ds W hw ok hn1 hn)
  have HT := hide (hT.below B0.out.drew (Nat.le_refl _))
  clear hT ok
  generalize hv : (tk K h cs ds).f n = v at *
  have HV := hide hv
  clear hv
  have l2 : (n : Int) < n + 1 := by omega
  have rt := run_table0
  go_enter Try.func66, Try.ntmps66
  go_wp2_with fail
  obtain ⟨k0, k1, k2, k3, _⟩ := K0.out.four
  go_region_law (first | (go_simp; go_at_call 68; refine (CH.out _ HT.out).mono ?_; rintro e8 w8 ⟨gc, gl, cl, ll, rfl, oc, ol, kn, hb8⟩; have cc := oc.cell (k := n) (by omega); rw [(kn n (Nat.le_refl _)).1, HV.out] at cc; have hb9 := hide hb8; obtain ⟨p0, p1, p2, p3, _⟩ := (K0.out.draw.keep hb8 K0.out.in_).four; clear oc ol kn hb8))
  all_goals
    go_wp2_with fail
    go_ret
    exact ⟨rfl, (B0.out.drew).trans (hb9.out.mono (by simp))⟩


set_option maxHeartbeats 2000000 in
theorem Least_any (K h : Int) (A : Option Addr) (n c : Nat) (cs : List Int) (A' : Option Addr) (n' c' : Nat) (ds : List Int) (w : World) (hT : Tin w A n c cs A' n' c' ds) :
    Calls Try.prog 31 #[.agg #[.int .i64 K, .int .i64 h, .slice A n c, .slice A' n' c']] w
      (NumPost (okv (errT K h cs ds) ((tk K h cs ds).f ds.length)) (errT K h cs ds) w) := by
  have HT := hide hT
  have L1 := hT.1.length
  have L2 := hT.2.length
  have B0 := hide ((Below.refl w.heap.size w).alloc (Nat.le_refl _) (.cells #[.int .i64 K, .int .i64 h, .slice A n c, .slice A' n' c'] 24))
  have K0 := hide (Bk.born w 24 #[.int .i64 K, .int .i64 h, .slice A n c, .slice A' n' c'])
  clear hT
  by_cases he : errT K h cs ds = 0
  case neg =>
    have HE := hide he
    have he' : (errT K h cs ds != 0) = true := by simpa using he
    clear he
    go_enter Try.func31, Try.ntmps31
    go_wp2_with fail
    refine (Validate_any K h _ n c cs _ n' c' ds _ (HT.out.alloc _)).mono ?_
    rintro e w1 ⟨rfl, b1⟩
    go_wp2_with fail
    go_ret2
    exact ⟨ret2_ii (okv_ne HE.out _).symm rfl, B0.out.trans (b1.mono (by simp))⟩
  have o := errT_zero he
  have hn1 : 1 ≤ n' := by have := o.n1; omega
  have hn2 : n' ≤ 12 := by have := o.n2; omega
  obtain rfl : n = n' := by have := o.c.1; omega
  have OK := hide (by have := o.tk; rw [L2] at this; exact this)
  have HE := hide he
  have HN := hide L2
  clear o he L1 L2
  go_enter Try.func31, Try.ntmps31
  go_wp2_with fail
  refine (Validate_any K h _ n c cs _ n c' ds _ (HT.out.alloc _)).mono ?_
  rw [HE.out]
  rintro e w1 ⟨rfl, b1⟩
  have B1 := hide (B0.out.trans (b1.mono (by simp)))
  have K1 := hide (K0.out.keep b1 (by simp))
  obtain ⟨k0, k1, k2, k3, _⟩ := K1.out.four
  clear b1
  go_wp2_with fail
  refine (least_any K h _ n c cs _ c' ds _ (HT.out.below B1.out (Nat.le_refl _)) OK.out hn1 hn2).mono ?_
  rintro e w2 ⟨rfl, b2⟩
  go_wp2_with fail
  go_ret2
  exact ⟨ret2_ii (by rw [okv_zero HE.out, HN.out]) HE.out.symm, B1.out.trans (b2.mono B1.out.size)⟩

/-- Prices in range. -/
def PriceIn (v : Nat → Int) (n : Nat) : Prop := ∀ i, i < n → 0 ≤ v i ∧ v i ≤ 100000
theorem Tk.Ok.over_in {t : Tk} {n : Nat} {v : Nat → Int} (ok : t.Ok n) (hv : PriceIn v n) {s u : Nat} (h1 : s ≤ u) (h2 : u < n) : t.over v s u ≤ 100000 := by
  have := (hv u h2).2
  have := ok.dw0 h1 h2
  unfold Tk.over
  split <;> omega
theorem Tk.Ok.above_in {t : Tk} {n : Nat} {v : Nat → Int} (ok : t.Ok n) (hv : PriceIn v n) (s : Nat) {m : Nat} (hm : m ≤ n) : 0 ≤ t.above v s m ∧ t.above v s m ≤ (m : Int) * 100000 :=
  ⟨sm_nonneg fun i _ _ => t.over0 v s i, sm_bound (by omega) fun i h1 h2 => ok.over_in hv h1 (by omega)⟩

set_option maxHeartbeats 4000000 in
theorem above_any (K h : Int) (A : Option Addr) (n c : Nat) (cs : List Int) (A' : Option Addr) (c' : Nat) (ds : List Int) (P : Option Addr) (pc : Nat) (ps : List Int) (s : Nat) (w : World)
    (hT : Tin w A n c cs A' n c' ds) (hP : Row w P n pc ps) (ok : (tk K h cs ds).Ok n) (hp : PriceIn (pl ps) n) (hs : s ≤ n) (hn1 : 1 ≤ n) (hn : n ≤ 12) :
    Calls Try.prog 84 #[.agg #[.int .i64 K, .int .i64 h, .slice A n c, .slice A' n c'], .slice P n pc, .int .i64 s] w fun e w' =>
      e = .returned (.int .i64 ((tk K h cs ds).above (pl ps) s n)) ∧ Below w.heap.size w w' := by
  have HT := hide hT
  obtain ⟨b, off, r⟩ := hT.2
  obtain ⟨bp, offp, rp⟩ := hP
  obtain rfl := r.at_ (by omega)
  obtain rfl := rp.at_ (by omega)
  have hcap := r.cap
  have hmax := r.max
  have hcapp := rp.cap
  have hmaxp := rp.max
  have R := hide r
  have RP := hide rp
  have OK := hide ok
  have HP := hide hp
  clear hT r rp ok hp
  have B0 := hide ((Below.refl w.heap.size w).alloc (Nat.le_refl _) (.cells #[.int .i64 K, .int .i64 h, .slice A n c, .slice (some ⟨b, off, none⟩) n c'] 24))
  have K0 := hide (Bk.born w 24 #[.int .i64 K, .int .i64 h, .slice A n c, .slice (some ⟨b, off, none⟩) n c'])
  go_enter Try.func84, Try.ntmps84
  go_wp2_with fail
  go_loopw [7, 8] (fun u i wr => ∃ k : Nat, s ≤ k ∧ k ≤ n ∧ i = .int .i64 k ∧ u = .int .i64 ((tk K h cs ds).above (pl ps) s k) ∧
      Bk wr w.heap.size 24 #[.int .i64 K, .int .i64 h, .slice A n c, .slice (some ⟨b, off, none⟩) n c'] ∧ Below w.heap.size w wr) (fun _ i _ => n - (intOf i).toNat)
  case atStart => exact ⟨s, by omega, by omega, rfl, by simp [Tk.above, sm_self], K0.out, B0.out⟩
  case round =>
    obtain ⟨k, hk0, hk, rfl, rfl, hb, hbel⟩ := hrel
    have u0 := OK.out.above_in HP.out s (m := k) hk
    by_cases hlt : k < n
    · have d0 := OK.out.d0 k hlt
      have d1 := OK.out.d1 k hlt
      have x0 := OK.out.dw0 (s := s) (u := k) hk0 hlt
      have x1 := OK.out.dw1 (s := s) (u := k) hk0 hlt hn
      have p0 := HP.out k hlt
      have AS := hide (Tk.above_succ (tk K h cs ds) (pl ps) (s := s) (n := k) hk0)
      have AO := hide (show (tk K h cs ds).over (pl ps) s k = if pl ps k - (tk K h cs ds).d k * (tk K h cs ds).way s k < 0 then 0 else pl ps k - (tk K h cs ds).d k * (tk K h cs ds).way s k from rfl)
      have cd := (R.out.below hbel (Nat.le_refl _)).cell k hlt
      have cp := (RP.out.below hbel (Nat.le_refl _)).cell k hlt
      rw [← tk_d K h cs ds k] at cd
      rw [show ps.getD k 0 = pl ps k from rfl] at cp
      have HW := hide (fun W hw => way_any K h A n c cs (some ⟨b, off, none⟩) n c' ds s k W hw OK.out hk0 hlt hn)
      generalize (tk K h cs ds).above (pl ps) s k = u at *
      generalize (tk K h cs ds).over (pl ps) s k = ov at *
      generalize (tk K h cs ds).d k = y at *
      generalize (tk K h cs ds).way s k = z at *
      generalize pl ps k = v at *
      obtain ⟨k0, k1, k2, k3, kin⟩ := hb.four
      have HB := hide hb
      have HBL := hide hbel
      have HTR := hide (HT.out.below hbel (Nat.le_refl _))
      have hbx : b < wr.heap.size := (R.out.below hbel (Nat.le_refl _)).lt (by omega)
      have hby : bp < wr.heap.size := (RP.out.below hbel (Nat.le_refl _)).lt (by omega)
      have hsz := hbel.size
      clear hb hbel
      have w1 : IntKind.i64.wrap (y * z) = y * z := IntWalk.i64_in _ (by omega)
      have w2 : IntKind.i64.wrap (v - y * z) = v - y * z := IntWalk.i64_in _ (by omega)
      have w3 : IntKind.i64.wrap (u + (v - y * z)) = u + (v - y * z) := IntWalk.i64_in _ (by omega)
      have l2 : (k : Int) < n := by omega
      go_wp2_with fail
      go_region_held3 (fun w' => w'.cell? ⟨w.heap.size, 0, none⟩ = some (.int .i64 K) ∧ w'.cell? ⟨w.heap.size, 1, none⟩ = some (.int .i64 h) ∧ w'.cell? ⟨w.heap.size, 2, none⟩ = some (.slice A n c) ∧ w'.cell? ⟨w.heap.size, 3, none⟩ = some (.slice (some ⟨b, off, none⟩) n c') ∧ w'.cell? ⟨b, off + k, none⟩ = some (.int .i64 y) ∧ w'.cell? ⟨bp, offp + k, none⟩ = some (.int .i64 v))
        (first
          | go_keep
          | (go_split_ands
             refine ⟨?_, ?_, ?_, ?_, ?_, ?_⟩ <;> (rw [hb8.cell (by simp; omega)]; assumption)))
        (first
          | (go_at_call 87; refine (HW.out _ (HTR.out.below (below_drewN (Below.refl wr.heap.size wr) 1) (Nat.le_refl _))).mono ?_; rintro e8 w8 ⟨rfl, hb8⟩))
      all_goals
        clear w1 w2 w3
        have ov1 : 0 ≤ ov ∧ ov ≤ 100000 := by rw [AO.out]; split <;> omega
        have e9 : (if y * z < v then v - y * z else 0) = ov := by rw [AO.out]; split <;> split <;> omega
        rw [e9]
        have w4 : IntKind.i64.wrap (u + ov) = u + ov := IntWalk.i64_in _ (by omega)
        rw [w4]
        clear e9 w4
        go_wp2_with fail
        go_roundw
        case rel => exact ⟨k + 1, by omega, by omega, by go_num, by rw [AS.out], (HB.out.draws 1).keep hb8 kin, (below_drewN HBL.out 1).trans (hb8.mono (by simp; omega))⟩
        case measure => simp [intOf]; omega
    · obtain rfl : k = n := by omega
      go_wp2_with fail
      go_ret
      exact ⟨rfl, hbel⟩

end Go.Proofs.Ytlndjjdggedljaa

/- WalkQ -/
namespace Go.Proofs.Ytlndjjdggedljaa
open Go.RowKit

/-- The prices hold for the first k hours. -/
def HoldTo (t : Tk) (v : Nat → Int) (n k : Nat) : Prop := ∀ s, s < k → (t.d s = 0 → v s = 0) ∧ t.above v s n ≤ t.K
instance (t : Tk) (v : Nat → Int) (n : Nat) : Decidable (t.Holds v n) := inferInstanceAs (Decidable (∀ s, s < n → _))
theorem holdTo_zero (t : Tk) (v : Nat → Int) (n : Nat) : HoldTo t v n 0 := fun _ h => absurd h (Nat.not_lt_zero _)
theorem holdTo_succ {t : Tk} {v : Nat → Int} {n k : Nat} (h : HoldTo t v n k) (e : (t.d k = 0 → v k = 0) ∧ t.above v k n ≤ t.K) : HoldTo t v n (k + 1) := fun j hj => by
  by_cases hjk : j = k
  · subst hjk; exact e
  · exact h j (by omega)

set_option maxHeartbeats 4000000 in
theorem hold_any (K h : Int) (A : Option Addr) (n c : Nat) (cs : List Int) (A' : Option Addr) (c' : Nat) (ds : List Int) (P : Option Addr) (pc : Nat) (ps : List Int) (w : World)
    (hT : Tin w A n c cs A' n c' ds) (hP : Row w P n pc ps) (ok : (tk K h cs ds).Ok n) (hp : PriceIn (pl ps) n) (hn1 : 1 ≤ n) (hn : n ≤ 12) :
    Calls Try.prog 70 #[.agg #[.int .i64 K, .int .i64 h, .slice A n c, .slice A' n c'], .slice P n pc] w fun e w' =>
      e = .returned (.bool (decide ((tk K h cs ds).Holds (pl ps) n))) ∧ Below w.heap.size w w' := by
  have HT := hide hT
  have HPR := hide hP
  obtain ⟨b, off, r⟩ := hT.2
  obtain ⟨bp, offp, rp⟩ := hP
  obtain rfl := r.at_ (by omega)
  obtain rfl := rp.at_ (by omega)
  have hcap := r.cap
  have hmax := r.max
  have hcapp := rp.cap
  have hmaxp := rp.max
  have R := hide r
  have RP := hide rp
  have OK := hide ok
  have HP := hide hp
  clear hT r rp ok hp
  have B0 := hide ((Below.refl w.heap.size w).alloc (Nat.le_refl _) (.cells #[.int .i64 K, .int .i64 h, .slice A n c, .slice (some ⟨b, off, none⟩) n c'] 24))
  have K0 := hide (Bk.born w 24 #[.int .i64 K, .int .i64 h, .slice A n c, .slice (some ⟨b, off, none⟩) n c'])
  go_enter Try.func70, Try.ntmps70
  go_wp2_with fail
  go_loopw [8] (fun i wr => ∃ k : Nat, k ≤ n ∧ i = .int .i64 k ∧ HoldTo (tk K h cs ds) (pl ps) n k ∧
      Bk wr w.heap.size 24 #[.int .i64 K, .int .i64 h, .slice A n c, .slice (some ⟨b, off, none⟩) n c'] ∧ Below w.heap.size w wr) (fun i _ => n - (intOf i).toNat)
  case atStart => exact ⟨0, by omega, rfl, holdTo_zero _ _ _, K0.out, B0.out⟩
  case round =>
    obtain ⟨k, hk, rfl, hh, hb, hbel⟩ := hrel
    by_cases hlt : k < n
    · have d0 := OK.out.d0 k hlt
      have p0 := HP.out k hlt
      have HY := hide (fun e => holdTo_succ hh e)
      have HN := hide (fun (e : ¬ (((tk K h cs ds).d k = 0 → pl ps k = 0) ∧ (tk K h cs ds).above (pl ps) k n ≤ K)) => decide_eq_false (p := (tk K h cs ds).Holds (pl ps) n) fun f => e (f k hlt))
      have cd := (R.out.below hbel (Nat.le_refl _)).cell k hlt
      have cp := (RP.out.below hbel (Nat.le_refl _)).cell k hlt
      rw [← tk_d K h cs ds k] at cd
      rw [show ps.getD k 0 = pl ps k from rfl] at cp
      have HW := hide (fun W hw hw2 => above_any K h A n c cs (some ⟨b, off, none⟩) c' ds (some ⟨bp, offp, none⟩) pc ps k W hw hw2 OK.out HP.out (by omega) hn1 hn)
      replace HY : Hid (((tk K h cs ds).d k = 0 → pl ps k = 0) ∧ (tk K h cs ds).above (pl ps) k n ≤ K → HoldTo (tk K h cs ds) (pl ps) n (k + 1)) := HY
      generalize (tk K h cs ds).above (pl ps) k n = u at *
      generalize (tk K h cs ds).d k = y at *
      generalize pl ps k = v at *
      obtain ⟨k0, k1, k2, k3, kin⟩ := hb.four
      have HB := hide hb
      have HBL := hide hbel
      have HTR := hide (HT.out.below hbel.drew (Nat.le_refl _))
      have HPRR := hide (HPR.out.below hbel.drew (Nat.le_refl _))
      have hbx : b < wr.heap.size := (R.out.below hbel (Nat.le_refl _)).lt (by omega)
      have hby : bp < wr.heap.size := (RP.out.below hbel (Nat.le_refl _)).lt (by omega)
      have hsz := hbel.size
      clear hb hbel hh
      have l0 : (0 : Int) ≤ k := by omega
      have l2 : (k : Int) < n := by omega
      by_cases hy : y = 0
      · subst hy
        by_cases hv : 0 < v
        · have hvd : decide (0 < v) = true := by simpa using hv
          go_wp2_with fail
          go_quiet (fail)
          go_wp2_with fail
          go_ret
          exact ⟨ret_bool (HN.out fun e => by have := e.1 trivial; omega).symm, below_drewN HBL.out _⟩
        · obtain rfl : v = 0 := by omega
          go_wp2_with fail
          go_region_law (first | (go_simp; go_at_call 84; refine (HW.out _ HTR.out HPRR.out).mono ?_; rintro e8 w8 ⟨rfl, hb8⟩; have hb9 := hide hb8; obtain ⟨q0, q1, q2, q3, _⟩ := (HB.out.draw.keep hb8 HB.out.in_).four; clear hb8))
          all_goals
            by_cases hu : K < u
            · go_wp2_with fail
              go_ret
              exact ⟨ret_bool (HN.out fun e => by have := e.2; omega).symm, HBL.out.drew.trans (hb9.out.mono hsz)⟩
            · go_wp2_with fail
              go_roundw
              case rel => exact ⟨k + 1, by omega, by go_num, HY.out ⟨fun _ => trivial, by omega⟩, HB.out.draw.keep hb9.out HB.out.in_, HBL.out.drew.trans (hb9.out.mono hsz)⟩
              case measure => simp [intOf]; omega
      · obtain ⟨j, rfl⟩ : ∃ j : Nat, y = (j : Int) + 1 := ⟨(y - 1).toNat, by omega⟩
        have hye : ((j : Int) + 1 == 0) = false := by simpa using hy
        go_wp2_with fail
        refine wp_region_held_drew (S := (fun w' => w'.cell? ⟨w.heap.size, 0, none⟩ = some (.int .i64 K) ∧ w'.cell? ⟨w.heap.size, 1, none⟩ = some (.int .i64 h) ∧ w'.cell? ⟨w.heap.size, 2, none⟩ = some (.slice A n c) ∧ w'.cell? ⟨w.heap.size, 3, none⟩ = some (.slice (some ⟨b, off, none⟩) n c') ∧ w'.cell? ⟨b, off + k, none⟩ = some (.int .i64 ((j : Int) + 1)))) (by kernel_rfl) ?_ (fun hHeld => ?_)
        · (try dsimp only)
          go_keep
        refine wpAnyH_take (i := 0) (oi := { dst := some 11, op := Op.fieldAddr 24 (Operand.tmp 2) 3, type := 0, pos := "prices.go:26", after := #[], guard := none }) (v := ?_) rfl (by kernel_rfl) (by kernel_rfl) (by kernel_rfl) (fun _ _ _ h => h) (Or.inl ⟨by rfl, ?_⟩) (by assumption) ?_
        rotate_left
        · intro w hSw
          (try dsimp only at hSw)
          first | (go_simp; done) | (go_simp; with_reducible rfl)
        try simp only [Act.put, List.setIfInBounds_toArray, List.set_cons_zero, List.set_cons_succ]
        refine wpAnyH_take (i := 1) (oi := { dst := some 12, op := Op.load 22 (Operand.tmp 11), type := 22, pos := "prices.go:26", after := #[{ on := 0, ground := Ground.data }], guard := none }) (v := ?_) rfl (by kernel_rfl) (by kernel_rfl) (by kernel_rfl) (fun _ _ _ h => h) (Or.inl ⟨by rfl, ?_⟩) (by assumption) ?_
        rotate_left
        · intro w hSw
          (try dsimp only at hSw)
          first | (go_simp; done) | (go_simp; with_reducible rfl)
        try simp only [Act.put, List.setIfInBounds_toArray, List.set_cons_zero, List.set_cons_succ]
        refine wpAnyH_take (i := 2) (oi := { dst := some 13, op := Op.move (Operand.tmp 5), type := 3, pos := "prices.go:26", after := #[], guard := none }) (v := ?_) rfl (by kernel_rfl) (by kernel_rfl) (by kernel_rfl) (fun _ _ _ h => h) (Or.inl ⟨by rfl, ?_⟩) (by assumption) ?_
        rotate_left
        · intro w hSw
          (try dsimp only at hSw)
          first | (go_simp; done) | (go_simp; with_reducible rfl)
        try simp only [Act.put, List.setIfInBounds_toArray, List.set_cons_zero, List.set_cons_succ]
        refine wpAnyH_take (i := 3) (oi := { dst := some 14, op := Op.indexAddr 22 (Operand.tmp 12) (Operand.tmp 13), type := 0, pos := "prices.go:26", after := #[{ on := 1, ground := Ground.data }, { on := 2, ground := Ground.data }], guard := none }) (v := ?_) rfl (by kernel_rfl) (by kernel_rfl) (by kernel_rfl) (fun _ _ _ h => h) (Or.inl ⟨by rfl, ?_⟩) (by assumption) ?_
        rotate_left
        · intro w hSw
          (try dsimp only at hSw)
          first | (go_simp; done) | (go_simp; with_reducible rfl)
        try simp only [Act.put, List.setIfInBounds_toArray, List.set_cons_zero, List.set_cons_succ]
        refine wpAnyH_take (i := 4) (oi := { dst := some 15, op := Op.load 3 (Operand.tmp 14), type := 3, pos := "prices.go:26", after := #[{ on := 3, ground := Ground.data }], guard := none }) (v := ?_) rfl (by kernel_rfl) (by kernel_rfl) (by kernel_rfl) (fun _ _ _ h => h) (Or.inl ⟨by rfl, ?_⟩) (by assumption) ?_
        rotate_left
        · intro w hSw
          (try dsimp only at hSw)
          first | (go_simp; done) | (go_simp; with_reducible rfl)
        try simp only [Act.put, List.setIfInBounds_toArray, List.set_cons_zero, List.set_cons_succ]
        refine wpAnyH_take (i := 5) (oi := { dst := some 16, op := Op.binOp BinOp.eql 3 (Operand.tmp 15) (Operand.const (Value.int IntKind.i64 0)) 3, type := 4, pos := "prices.go:26", after := #[{ on := 4, ground := Ground.data }], guard := none }) (v := ?_) rfl (by kernel_rfl) (by kernel_rfl) (by kernel_rfl) (fun _ _ _ h => h) (Or.inl ⟨by rfl, ?_⟩) (by assumption) ?_
        rotate_left
        · intro w hSw
          (try dsimp only at hSw)
          first | (go_simp; done) | (go_simp; with_reducible rfl)
        try simp only [Act.put, List.setIfInBounds_toArray, List.set_cons_zero, List.set_cons_succ]
        refine wpAnyH_take (i := 6) (oi := { dst := some 17, op := Op.move (Operand.tmp 16), type := 4, pos := "prices.go:26", after := #[{ on := 5, ground := Ground.data }], guard := none }) (v := ?_) rfl (by kernel_rfl) (by kernel_rfl) (by kernel_rfl) (fun _ _ _ h => h) (Or.inl ⟨by rfl, ?_⟩) (by assumption) ?_
        rotate_left
        · intro w hSw
          (try dsimp only at hSw)
          first | (go_simp; done) | (go_simp; with_reducible rfl)
        try simp only [Act.put, List.setIfInBounds_toArray, List.set_cons_zero, List.set_cons_succ]
        refine wpAnyH_take (i := 7) (oi := { dst := some 18, op := Op.move (Operand.tmp 1), type := 22, pos := "prices.go:26", after := #[{ on := 6, ground := Ground.guard }], guard := some (6, true) }) (v := _) rfl (by kernel_rfl) (by kernel_rfl) (by kernel_rfl) (fun _ _ _ h => h) (Or.inr ⟨by rfl, rfl⟩) (by assumption) ?_
        try simp only [Act.put, List.setIfInBounds_toArray, List.set_cons_zero, List.set_cons_succ]
        refine wpAnyH_take (i := 8) (oi := { dst := some 19, op := Op.move (Operand.tmp 5), type := 3, pos := "prices.go:26", after := #[{ on := 6, ground := Ground.guard }], guard := some (6, true) }) (v := _) rfl (by kernel_rfl) (by kernel_rfl) (by kernel_rfl) (fun _ _ _ h => h) (Or.inr ⟨by rfl, rfl⟩) (by assumption) ?_
        try simp only [Act.put, List.setIfInBounds_toArray, List.set_cons_zero, List.set_cons_succ]
        refine wpAnyH_take (i := 9) (oi := { dst := some 20, op := Op.indexAddr 22 (Operand.tmp 18) (Operand.tmp 19), type := 0, pos := "prices.go:26", after := #[{ on := 7, ground := Ground.data }, { on := 8, ground := Ground.data }, { on := 6, ground := Ground.guard }], guard := some (6, true) }) (v := _) rfl (by kernel_rfl) (by kernel_rfl) (by kernel_rfl) (fun _ _ _ h => h) (Or.inr ⟨by rfl, rfl⟩) (by assumption) ?_
        try simp only [Act.put, List.setIfInBounds_toArray, List.set_cons_zero, List.set_cons_succ]
        refine wpAnyH_take (i := 10) (oi := { dst := some 21, op := Op.load 3 (Operand.tmp 20), type := 3, pos := "prices.go:26", after := #[{ on := 9, ground := Ground.data }, { on := 6, ground := Ground.guard }], guard := some (6, true) }) (v := _) rfl (by kernel_rfl) (by kernel_rfl) (by kernel_rfl) (fun _ _ _ h => h) (Or.inr ⟨by rfl, rfl⟩) (by assumption) ?_
        try simp only [Act.put, List.setIfInBounds_toArray, List.set_cons_zero, List.set_cons_succ]
        refine wpAnyH_take (i := 11) (oi := { dst := some 22, op := Op.binOp BinOp.gtr 3 (Operand.tmp 21) (Operand.const (Value.int IntKind.i64 0)) 3, type := 4, pos := "prices.go:26", after := #[{ on := 10, ground := Ground.data }, { on := 6, ground := Ground.guard }], guard := some (6, true) }) (v := _) rfl (by kernel_rfl) (by kernel_rfl) (by kernel_rfl) (fun _ _ _ h => h) (Or.inr ⟨by rfl, rfl⟩) (by assumption) ?_
        try simp only [Act.put, List.setIfInBounds_toArray, List.set_cons_zero, List.set_cons_succ]
        refine wpAnyH_take (i := 12) (oi := { dst := some 23, op := Op.pick (Operand.tmp 17) (Operand.tmp 22) (Operand.const (Value.bool false)), type := 4, pos := "prices.go:26", after := #[{ on := 6, ground := Ground.data }, { on := 11, ground := Ground.data }], guard := none }) (v := ?_) rfl (by kernel_rfl) (by kernel_rfl) (by kernel_rfl) (fun _ _ _ h => h) (Or.inl ⟨by rfl, ?_⟩) (by assumption) ?_
        rotate_left
        · intro w hSw
          (try dsimp only at hSw)
          first | (go_simp; done) | (go_simp; with_reducible rfl)
        try simp only [Act.put, List.setIfInBounds_toArray, List.set_cons_zero, List.set_cons_succ]
        refine wpAnyH_take (i := 13) (oi := { dst := some 24, op := Op.move (Operand.tmp 23), type := 4, pos := "prices.go:26", after := #[{ on := 12, ground := Ground.data }, { on := 6, ground := Ground.chain }], guard := none }) (v := ?_) rfl (by kernel_rfl) (by kernel_rfl) (by kernel_rfl) (fun _ _ _ h => h) (Or.inl ⟨by rfl, ?_⟩) (by assumption) ?_
        rotate_left
        · intro w hSw
          (try dsimp only at hSw)
          first | (go_simp; done) | (go_simp; with_reducible rfl)
        try simp only [Act.put, List.setIfInBounds_toArray, List.set_cons_zero, List.set_cons_succ]
        refine wpAnyH_take (i := 14) (oi := { dst := some 25, op := Op.load 24 (Operand.tmp 2), type := 24, pos := "prices.go:26", after := #[{ on := 13, ground := Ground.guard }], guard := some (13, false) }) (v := ?_) rfl (by kernel_rfl) (by kernel_rfl) (by kernel_rfl) (fun _ _ _ h => h) (Or.inl ⟨by rfl, ?_⟩) (by assumption) ?_
        rotate_left
        · intro w hSw
          (try dsimp only at hSw)
          first | (go_simp; done) | (go_simp; with_reducible rfl)
        try simp only [Act.put, List.setIfInBounds_toArray, List.set_cons_zero, List.set_cons_succ]
        refine wpAnyH_take (i := 15) (oi := { dst := some 26, op := Op.move (Operand.tmp 1), type := 22, pos := "prices.go:26", after := #[{ on := 13, ground := Ground.guard }], guard := some (13, false) }) (v := ?_) rfl (by kernel_rfl) (by kernel_rfl) (by kernel_rfl) (fun _ _ _ h => h) (Or.inl ⟨by rfl, ?_⟩) (by assumption) ?_
        rotate_left
        · intro w hSw
          (try dsimp only at hSw)
          first | (go_simp; done) | (go_simp; with_reducible rfl)
        try simp only [Act.put, List.setIfInBounds_toArray, List.set_cons_zero, List.set_cons_succ]
        refine wpAnyH_take (i := 16) (oi := { dst := some 27, op := Op.move (Operand.tmp 5), type := 3, pos := "prices.go:26", after := #[{ on := 13, ground := Ground.guard }], guard := some (13, false) }) (v := ?_) rfl (by kernel_rfl) (by kernel_rfl) (by kernel_rfl) (fun _ _ _ h => h) (Or.inl ⟨by rfl, ?_⟩) (by assumption) ?_
        rotate_left
        · intro w hSw
          (try dsimp only at hSw)
          first | (go_simp; done) | (go_simp; with_reducible rfl)
        try simp only [Act.put, List.setIfInBounds_toArray, List.set_cons_zero, List.set_cons_succ]
        refine wpAnyH_take (i := 18) (oi := { dst := some 29, op := Op.fieldAddr 24 (Operand.tmp 2) 0, type := 0, pos := "prices.go:26", after := #[{ on := 13, ground := Ground.guard }], guard := some (13, false) }) (v := ?_) rfl (by kernel_rfl) (by kernel_rfl) (by kernel_rfl) (fun _ _ _ h => h) (Or.inl ⟨by rfl, ?_⟩) (by assumption) ?_
        rotate_left
        · intro w hSw
          (try dsimp only at hSw)
          first | (go_simp; done) | (go_simp; with_reducible rfl)
        try simp only [Act.put, List.setIfInBounds_toArray, List.set_cons_zero, List.set_cons_succ]
        refine wpAnyH_take (i := 19) (oi := { dst := some 30, op := Op.load 3 (Operand.tmp 29), type := 3, pos := "prices.go:26", after := #[{ on := 18, ground := Ground.data }, { on := 13, ground := Ground.guard }], guard := some (13, false) }) (v := ?_) rfl (by kernel_rfl) (by kernel_rfl) (by kernel_rfl) (fun _ _ _ h => h) (Or.inl ⟨by rfl, ?_⟩) (by assumption) ?_
        rotate_left
        · intro w hSw
          (try dsimp only at hSw)
          first | (go_simp; done) | (go_simp; with_reducible rfl)
        try simp only [Act.put, List.setIfInBounds_toArray, List.set_cons_zero, List.set_cons_succ]
        refine wpAnyH_ready (rs := [17]) (by kernel_rfl) (by simp) ?_
        refine AllReadyH.cons (o := { dst := some 28, op := Op.call { callee := Callee.value (Operand.func 84), args := #[Operand.tmp 25, Operand.tmp 26, Operand.tmp 27], argTypes := #[24, 22, 3] }, type := 3, pos := "prices.go:26", after := #[{ on := 14, ground := Ground.data }, { on := 15, ground := Ground.data }, { on := 16, ground := Ground.data }, { on := 13, ground := Ground.chain }, { on := 13, ground := Ground.guard }], guard := some (13, false) }) rfl (fun K hK => ?_) AllReadyH.nil
        rw [if_pos (by rfl)]
        go_simp
        go_at_call 84
        refine (HW.out _ HTR.out HPRR.out).mono ?_
        rintro e8 w8 ⟨rfl, hb8⟩
        first | refine hK.out _ _ ?_ (fun hHeld => ?_) | (go_wp2_with fail; refine hK.out _ _ ?_ (fun hHeld => ?_))
        · (try dsimp only)
          go_split_ands
          refine ⟨?_, ?_, ?_, ?_, ?_⟩ <;> (rw [hb8.cell (by simp; omega)]; assumption)
        clear hK K
        try simp only [Act.put, List.setIfInBounds_toArray, List.set_cons_zero, List.set_cons_succ]
        refine wpAnyH_take (i := 20) (oi := { dst := some 31, op := Op.binOp BinOp.gtr 3 (Operand.tmp 28) (Operand.tmp 30) 3, type := 4, pos := "prices.go:26", after := #[{ on := 17, ground := Ground.data }, { on := 19, ground := Ground.data }, { on := 13, ground := Ground.guard }], guard := some (13, false) }) (v := ?_) rfl (by kernel_rfl) (by kernel_rfl) (by kernel_rfl) (fun _ _ _ h => h) (Or.inl ⟨by rfl, ?_⟩) (by assumption) ?_
        rotate_left
        · intro w hSw
          (try dsimp only at hSw)
          first | (go_simp; done) | (go_simp; with_reducible rfl)
        try simp only [Act.put, List.setIfInBounds_toArray, List.set_cons_zero, List.set_cons_succ]
        refine wpAnyH_take (i := 21) (oi := { dst := some 32, op := Op.pick (Operand.tmp 24) (Operand.const (Value.bool true)) (Operand.tmp 31), type := 4, pos := "prices.go:26", after := #[{ on := 13, ground := Ground.data }, { on := 20, ground := Ground.data }], guard := none }) (v := ?_) rfl (by kernel_rfl) (by kernel_rfl) (by kernel_rfl) (fun _ _ _ h => h) (Or.inl ⟨by rfl, ?_⟩) (by assumption) ?_
        rotate_left
        · intro w hSw
          (try dsimp only at hSw)
          first | (go_simp; done) | (go_simp; with_reducible rfl)
        try simp only [Act.put, List.setIfInBounds_toArray, List.set_cons_zero, List.set_cons_succ]
        refine wpAnyH_done (by kernel_rfl) ?_ _
        by_cases hu : K < u
        · go_wp2_with fail
          go_ret
          exact ⟨ret_bool (HN.out fun e => by have := e.2; omega).symm, HBL.out.drew.trans (hb8.mono hsz)⟩
        · go_wp2_with fail
          go_roundw
          case rel => exact ⟨k + 1, by omega, by go_num, HY.out ⟨fun h => by omega, by omega⟩, HB.out.draw.keep hb8 HB.out.in_, HBL.out.drew.trans (hb8.mono hsz)⟩
          case measure => simp [intOf]; omega
    · obtain rfl : k = n := by omega
      go_wp2_with fail
      go_ret
      exact ⟨ret_bool (decide_eq_true (p := (tk K h cs ds).Holds (pl ps) k) hh).symm, hbel⟩

end Go.Proofs.Ytlndjjdggedljaa

/- WalkR -/
namespace Go.Proofs.Ytlndjjdggedljaa
open Go.RowKit

def errV (K h : Int) (cs ds vs : List Int) : Int := if OkT K h cs ds ∧ AllOk vs ds.length 100000 then (if (tk K h cs ds).Holds (pl vs) ds.length then 0 else 7) else 1
theorem errV_task {K h : Int} {cs ds vs : List Int} (o : ¬ OkT K h cs ds) : errV K h cs ds vs = 1 := by unfold errV; rw [if_neg (fun x => o x.1)]
theorem errV_arg {K h : Int} {cs ds vs : List Int} (o : ¬ AllOk vs ds.length 100000) : errV K h cs ds vs = 1 := by unfold errV; rw [if_neg (fun x => o x.2)]
theorem errV_proof {K h : Int} {cs ds vs : List Int} (o : OkT K h cs ds) (a : AllOk vs ds.length 100000) (r : ¬ (tk K h cs ds).Holds (pl vs) ds.length) : errV K h cs ds vs = 7 := by
  unfold errV; rw [if_pos ⟨o, a⟩, if_neg r]
theorem errV_ok {K h : Int} {cs ds vs : List Int} (o : OkT K h cs ds) (a : AllOk vs ds.length 100000) (r : (tk K h cs ds).Holds (pl vs) ds.length) : errV K h cs ds vs = 0 := by
  unfold errV; rw [if_pos ⟨o, a⟩, if_pos r]
theorem errV_zero {K h : Int} {cs ds vs : List Int} (e : errV K h cs ds vs = 0) : OkT K h cs ds ∧ AllOk vs ds.length 100000 ∧ (tk K h cs ds).Holds (pl vs) ds.length := by
  unfold errV at e
  split at e
  · rename_i h
    split at e
    · exact ⟨h.1, h.2, by assumption⟩
    · contradiction
  · contradiction
theorem AllOk.price {vs : List Int} {n : Nat} (h : AllOk vs n 100000) : PriceIn (pl vs) n := fun i hi => h.2 i (by have := h.1; omega)
theorem PriceIn.sum {v : Nat → Int} {n : Nat} (h : PriceIn v n) {k : Nat} (hk : k ≤ n) : 0 ≤ sm v 0 k ∧ sm v 0 k ≤ (k : Int) * 100000 :=
  ⟨sm_nonneg fun i _ hi => (h i (by omega)).1, sm_bound (by omega) fun i _ hi => (h i (by omega)).2⟩

set_option maxHeartbeats 4000000 in
theorem CheckPrices_any (K h : Int) (A : Option Addr) (n c : Nat) (cs : List Int) (A' : Option Addr) (n' c' : Nat) (ds : List Int) (P : Option Addr) (np pc : Nat) (vs : List Int) (w : World)
    (hT : Tin w A n c cs A' n' c' ds) (hP : Row w P np pc vs) :
    Calls Try.prog 36 #[.agg #[.int .i64 K, .int .i64 h, .slice A n c, .slice A' n' c'], .slice P np pc] w
      (NumPost (okv (errV K h cs ds vs) (sm (pl vs) 0 ds.length)) (errV K h cs ds vs) w) := by
  have HT := hide hT
  have HPr := hide hP
  have L1 := hT.1.length
  have L2 := hT.2.length
  have L3 := hP.length
  have B0 := hide ((Below.refl w.heap.size w).alloc (Nat.le_refl _) (.cells #[.int .i64 K, .int .i64 h, .slice A n c, .slice A' n' c'] 24))
  have K0 := hide (Bk.born w 24 #[.int .i64 K, .int .i64 h, .slice A n c, .slice A' n' c'])
  clear hT hP
  by_cases o : OkT K h cs ds
  case neg =>
    have HV := hide (errV_task (vs := vs) o)
    have HE := hide (errT_no o)
    clear o
    go_enter Try.func36, Try.ntmps36
    go_wp2_with fail
    refine (Validate_any K h _ n c cs _ n' c' ds _ (HT.out.alloc _)).mono ?_
    rw [HE.out]
    rintro e w1 ⟨rfl, b1⟩
    go_wp2_with fail
    go_ret2
    exact ⟨ret2_ii (by rw [HV.out]; rfl) HV.out.symm, B0.out.trans (b1.mono (by simp))⟩
  have hn1 : 1 ≤ n' := by have := o.n1; omega
  have hn2 : n' ≤ 12 := by have := o.n2; omega
  have hcn : cs.length = ds.length := by have := o.c.1; omega
  obtain rfl : n = n' := by omega
  have HE := hide (errT_ok o)
  have HN := hide L2
  by_cases a : AllOk vs ds.length 100000
  case neg =>
    have HV := hide (errV_arg (K := K) (h := h) (cs := cs) a)
    have ha := allB_false a
    rw [L2] at ha
    clear o a L1 L2 L3 hcn
    go_enter Try.func36, Try.ntmps36
    go_wp2_with fail
    refine (Validate_any K h _ n c cs _ n c' ds _ (HT.out.alloc _)).mono ?_
    rw [HE.out]
    rintro e w1 ⟨rfl, b1⟩
    have B1 := hide (B0.out.trans (b1.mono (by simp)))
    have K1 := hide (K0.out.keep b1 (by simp))
    obtain ⟨k0, k1, k2, k3, _⟩ := K1.out.four
    clear b1
    go_wp2_with fail
    refine (isForEach_any n _ np pc vs 100000 _ (HPr.out.below B1.out (Nat.le_refl _)) (by omega) (by omega)).mono ?_
    rw [ha]
    rintro e w2 ⟨rfl, rfl⟩
    go_wp2_with fail
    go_ret2
    exact ⟨ret2_ii (by rw [HV.out]; rfl) HV.out.symm, B1.out⟩
  have ha := allB_true a
  rw [L2] at ha
  obtain rfl : np = n := by have := a.1; omega
  have OK := hide (by have := o.tk; rw [L2] at this; exact this)
  have HPl := hide (by have := a.price; rw [L2] at this; exact this)
  have HF := hide (fun (f : (tk K h cs ds).Holds (pl vs) np) => errV_ok o a (by rw [L2]; exact f))
  have HFn := hide (fun (f : ¬ (tk K h cs ds).Holds (pl vs) np) => errV_proof o a (by rw [L2]; exact f))
  clear o a L1 L2 L3 hcn
  go_enter Try.func36, Try.ntmps36
  go_wp2_with fail
  refine (Validate_any K h _ np c cs _ np c' ds _ (HT.out.alloc _)).mono ?_
  rw [HE.out]
  rintro e w1 ⟨rfl, b1⟩
  have B1 := hide (B0.out.trans (b1.mono (by simp)))
  have K1 := hide (K0.out.keep b1 (by simp))
  obtain ⟨k0, k1, k2, k3, _⟩ := K1.out.four
  clear b1
  go_wp2_with fail
  refine (isForEach_any np _ np pc vs 100000 _ (HPr.out.below B1.out (Nat.le_refl _)) (by omega) (by omega)).mono ?_
  rw [ha]
  rintro e w2 ⟨rfl, rfl⟩
  go_wp2_with fail
  refine (hold_any K h _ np c cs _ c' ds _ pc vs _ (HT.out.below B1.out (Nat.le_refl _)) (HPr.out.below B1.out (Nat.le_refl _)) OK.out HPl.out hn1 hn2).mono ?_
  rintro e w2 ⟨rfl, b2⟩
  have B2 := hide (B1.out.trans (b2.mono B1.out.size))
  clear k0 k1 k2 k3 b2
  by_cases f : (tk K h cs ds).Holds (pl vs) np
  case neg =>
    rw [decide_eq_false f]
    have HV := hide (HFn.out f)
    clear f
    go_wp2_with fail
    go_ret2
    exact ⟨ret2_ii (by rw [HV.out]; rfl) HV.out.symm, B2.out⟩
  rw [decide_eq_true f]
  have HV := hide (HF.out f)
  clear f
  have RP := hide (HPr.out.below B2.out (Nat.le_refl _))
  obtain ⟨bp, offp, rp⟩ := RP.out
  obtain rfl := rp.at_ (by omega)
  have RPA := hide rp
  clear rp
  go_wp2_with fail
  go_loop [7, 27] (fun s i => ∃ k : Nat, k ≤ np ∧ i = .int .i64 k ∧ s = .int .i64 (sm (pl vs) 0 k)) (fun _ i => np - (intOf i).toNat)
  case atStart => exact ⟨0, by omega, rfl, rfl⟩
  case round =>
    obtain ⟨k, hk, rfl, rfl⟩ := hrel
    have s0 := HPl.out.sum hk
    by_cases hlt : k < np
    · have cp := RPA.out.cell k hlt
      rw [show vs.getD k 0 = pl vs k from rfl] at cp
      have p0 := HPl.out k hlt
      have HS := hide (sm_succ (f := pl vs) (s := 0) (n := k) (Nat.zero_le _))
      generalize sm (pl vs) 0 k = u at *
      generalize pl vs k = z at *
      go_wp2_with fail
      go_round
      case rel => exact ⟨k + 1, by omega, by go_num, by rw [HS.out]⟩
      case measure => simp [intOf]; omega
    · obtain rfl : k = np := by omega
      go_wp2_with fail
      go_ret2
      exact ⟨ret2_ii (by rw [okv_zero HV.out]; (try rw [HN.out])) HV.out.symm, B2.out⟩

/-- The example of the document. -/
def ExPost (w : World) (e : Ending) (w' : World) : Prop :=
  ∃ A A', e = .returned (.agg #[.int .i64 10, .int .i64 1, .slice A 2 2, .slice A' 2 2]) ∧ Tin w' A 2 2 [0, 0] A' 2 2 [5, 5] ∧ Below w.heap.size w w'
set_option maxHeartbeats 4000000 in
theorem example_any (w : World) : Calls Try.prog 55 #[] w (ExPost w) := by
  go_enter Try.func55, Try.ntmps55
  go_wp2_with fail
  have KX := ((Bk.born w 24 #[.int .i64 10, .int .i64 1, .slice (some ⟨w.heap.size + 1, 0, none⟩) 2 2, .slice (some ⟨w.heap.size + 1 + 1, 0, none⟩) 2 2]).more (.cells #[.int .i64 0, .int .i64 0] 3)).more (.cells #[.int .i64 5, .int .i64 5] 3)
  obtain ⟨k0, k1, k2, k3, _⟩ := KX.four
  refine bodyPost_ret (v := .agg #[.int .i64 10, .int .i64 1, .slice (some ⟨w.heap.size + 1, 0, none⟩) 2 2, .slice (some ⟨w.heap.size + 1 + 1, 0, none⟩) 2 2]) (by simp [results, Try.results55, go_sem, k0, k1, k2, k3]) rfl ⟨_, _, rfl, ⟨?_, ?_⟩, ?_⟩
  · have O := Own.litAt (B := 0) (w.alloc (.cells #[.int .i64 10, .int .i64 1, .slice (some ⟨w.heap.size + 1, 0, none⟩) 2 2, .slice (some ⟨w.heap.size + 1 + 1, 0, none⟩) 2 2] 24)) [0, 0] (w.heap.size + 1) (by simp) (Nat.zero_le _) (by simp [maxLen])
    exact O.row.alloc _
  · have O := Own.litAt (B := 0) ((w.alloc (.cells #[.int .i64 10, .int .i64 1, .slice (some ⟨w.heap.size + 1, 0, none⟩) 2 2, .slice (some ⟨w.heap.size + 1 + 1, 0, none⟩) 2 2] 24)).alloc (.cells #[.int .i64 0, .int .i64 0] 3)) [5, 5] (w.heap.size + 1 + 1) (by simp) (Nat.zero_le _) (by simp [maxLen])
    exact O.row
  · exact (((Below.refl w.heap.size w).alloc (Nat.le_refl _) _).alloc (by simp) _).alloc (by simp; omega) _

theorem ex_ok : OkT 10 1 [0, 0] [5, 5] := by decide
theorem ex_f : (tk 10 1 [0, 0] [5, 5]).f 2 = 15 := by
  have f1 : (tk 10 1 [0, 0] [5, 5]).f 1 = 10 := by
    unfold Tk.f
    rw [Tk.F_eq]
    simp [firstMin, Tk.G, Tk.F_zero, Tk.tog, Tk.units, Tk.save, Tk.way, sm, tk]
  have e0 : (tk 10 1 [0, 0] [5, 5]).G 2 0 = 15 := by
    simp [Tk.G, Tk.F_zero, Tk.tog, Tk.units, Tk.save, Tk.way, sm, tk]
  have e1 : (tk 10 1 [0, 0] [5, 5]).G 2 1 = 20 := by
    show (tk 10 1 [0, 0] [5, 5]).f 1 + _ = 20
    rw [f1]
    simp [Tk.tog, Tk.units, Tk.save, Tk.way, sm, tk]
  unfold Tk.f
  rw [Tk.F_eq]
  simp [firstMin, e0, e1]
theorem ex_v : errV 10 1 [0, 0] [5, 5] [5, 10] = 0 := errV_ok ex_ok (by decide) (by decide)

set_option maxHeartbeats 4000000 in
theorem known_any (w : World) : Calls Try.prog 19 #[] w fun e w' => e = .returned (.bool true) ∧ Below w.heap.size w w' := by
  go_enter Try.func19, Try.ntmps19
  go_wp2_with fail
  refine (example_any _).mono ?_
  rintro e w1 ⟨A1, A1', rfl, t1, b1⟩
  have B1 := hide b1
  have z1 := b1.size
  go_wp2_with fail
  refine (Least_any 10 1 _ 2 2 [0, 0] _ 2 2 [5, 5] _ t1).mono ?_
  rw [errT_ok ex_ok, show [(5 : Int), 5].length = 2 from rfl, ex_f, okv_zero rfl]
  rintro e w2 ⟨rfl, b2⟩
  have B2 := hide (B1.out.trans (b2.mono z1))
  clear b1 b2 t1 B1
  go_wp2_with fail
  refine (example_any _).mono ?_
  rintro e w3 ⟨A3, A3', rfl, t3, b3⟩
  have B3 := hide (B2.out.trans (b3.mono B2.out.size))
  have z3 := B3.out.size
  have T3 := hide t3
  clear b3 t3 B2 z1
  go_wp2_with fail
  refine (CheckPrices_any 10 1 _ 2 2 [0, 0] _ 2 2 [5, 5] _ 2 2 [5, 10] _ (T3.out.alloc _) (Own.litAt (B := 0) w3 [5, 10] w3.heap.size rfl (Nat.zero_le _) (by simp [maxLen])).row).mono ?_
  rw [ex_v, okv_zero rfl, show sm (pl [5, 10]) 0 [(5 : Int), 5].length = 15 from by decide]
  rintro e w4 ⟨rfl, b4⟩
  go_wp2_with fail
  go_ret
  exact ⟨rfl, (B3.out.alloc z3 _).trans (b4.mono (by simp; omega))⟩

end Go.Proofs.Ytlndjjdggedljaa

/- Lift -/
namespace Go.Proofs.Ytlndjjdggedljaa
open Go.ChangeShapes Go.WideShapes Go.ChangeAt Go.RowKit

theorem own : ownKnob Try.prog.godebug = none := by kernel_rfl
theorem laidOut : laidOutB Try.prog = true := by kernel_rfl
theorem cellsInt : Try.prog.cellsOf 3 = 1 := by kernel_rfl
theorem cellsInts : Try.prog.cellsOf 22 = 1 := by kernel_rfl
theorem cellsTask : Try.prog.cellsOf 24 = 4 := by kernel_rfl
theorem Row.nilRow (w : World) : Row w none 0 0 [] := ⟨0, 0, rfl, by omega, by omega, fun h => by omega, fun h => by omega, fun k hk => by omega⟩

theorem add_spot (x : Addr) (i : Nat) (h : x.spot = none) : x.add i = ⟨x.block, x.off + i, none⟩ := by
  cases x with
  | mk b off spot =>
    simp at h
    subst h
    unfold Addr.add
    split
    · rename_i h0; subst h0; rfl
    · rfl

theorem row_of_cells {w : World} {x : Addr} {n c : Nat} {zs : List Int} (hl : n ≤ c) (hm : c ≤ maxLen) (hz : zs.length = c) (hcell : ∀ i, i < zs.length → w.cell? (x.add i) = some (.int .i64 (zs.getD i 0))) :
    Row w (some x) n c (zs.take n) := by
  by_cases hn : n = 0
  · subst hn
    exact ⟨0, 0, by simp, by omega, hm, fun h => by omega, fun h => by omega, fun k hk => by omega⟩
  · have h0 := hcell 0 (by omega)
    have hs : x.spot = none := by
      have := World.cell?_spot h0
      simpa [Addr.add] using this
    refine ⟨x.block, x.off, by rw [List.length_take]; omega, hl, hm, fun _ => ?_, fun _ => ?_, fun k hk => ?_⟩
    · cases x with
      | mk b off spot => simp at hs; subst hs; rfl
    · have := World.block_lt_of_cell? w _ h0
      simpa [Addr.add] using this
    · rw [← add_spot x k hs, hcell k (by omega)]
      simp [List.getD_eq_getElem?_getD, hk]

/-- A cell that reads as a slice of integers. -/
theorem ints_open {H : Type} {enc : TypeId × Value → H} {W : World} {fuel : Nat} {cs : List Value} {x : DataW H × List MemPlace}
    (h : DataW.trod enc Try.prog W 0 (fun _ => true) true fuel 22 cs = some x) : ∃ A n c zs, cs = [.slice A n c] ∧ Row W A n c zs := by
  rcases open_ints Try.underlying22 Try.underlying3 cellsInt h with ⟨hcs, _⟩ | ⟨a, l, c, zs, hcs, _, hl, hm, hz, _, hcell, _⟩
  · exact ⟨none, 0, 0, [], hcs, Row.nilRow W⟩
  · exact ⟨some a, l, c, zs.take l, hcs, row_of_cells hl hm (by simpa using hz) hcell⟩
theorem slice_open {H : Type} {enc : TypeId × Value → H} {W : World} {b0 : Nat} {v : Value} {d : DataW H} {p : List MemPlace} (hv : Value.okWide Try.prog W .any b0 22 v) (h : DataW.Trod enc Try.prog W 0 (fun _ => true) true 22 v d p) :
    ∃ A n c zs, v = .slice A n c ∧ Row W A n c zs := by
  obtain ⟨a, l, c, rfl⟩ := okWide_slice Try.underlying22 hv
  obtain ⟨fuel, hf⟩ := h
  obtain ⟨A, n, c', zs, e, r⟩ := ints_open hf
  simp [Value.cells] at e
  obtain ⟨rfl, rfl, rfl⟩ := e
  exact ⟨_, _, _, zs, rfl, r⟩
theorem task_open {H : Type} {enc : TypeId × Value → H} {W : World} {b0 : Nat} {v : Value} {d : DataW H} {p : List MemPlace} (hv : Value.okWide Try.prog W .any b0 24 v) (h : DataW.Trod enc Try.prog W 0 (fun _ => true) true 24 v d p) :
    ∃ K h A n c cs A' n' c' ds, v = .agg #[.int .i64 K, .int .i64 h, .slice A n c, .slice A' n' c'] ∧ Tin W A n c cs A' n' c' ds := by
  obtain ⟨cs, rfl, hsz⟩ := okWide_struct Try.underlying24 hv
  rw [cellsTask] at hsz
  obtain ⟨l⟩ := cs
  match l, hsz with
  | [c0, c1, c2, c3], _ =>
  obtain ⟨fuel, hf⟩ := h
  obtain ⟨y0, y1, y2, y3, m, _, _, h0, h1, h2, h3⟩ := Go.Joins.trod_struct4 Try.underlying24 hf
  obtain ⟨a, e0, _, _⟩ := DataW.trod_int Try.underlying3 h0
  obtain ⟨b, e1, _, _⟩ := DataW.trod_int Try.underlying3 h1
  obtain ⟨A, n, c, zs, e2, r2⟩ := ints_open h2
  obtain ⟨A', n', c', zs', e3, r3⟩ := ints_open h3
  simp [Value.cells, cellsInt, cellsInts] at e0 e1 e2 e3
  subst e0 e1 e2 e3
  exact ⟨a, b, A, n, c, zs, A', n', c', zs', rfl, r2, r3⟩
theorem cellsClaim : Try.prog.cellsOf 41 = 2 := by kernel_rfl
theorem claim_open {H : Type} {enc : TypeId × Value → H} {W : World} {b0 : Nat} {v : Value} {d : DataW H} {p : List MemPlace} (hv : Value.okWide Try.prog W .any b0 41 v) (h : DataW.Trod enc Try.prog W 0 (fun _ => true) true 41 v d p) :
    ∃ A n c cs A' n' c' ds, v = .agg #[.slice A n c, .slice A' n' c'] ∧ Row W A n c cs ∧ Row W A' n' c' ds := by
  obtain ⟨cs, rfl, hsz⟩ := okWide_struct Try.underlying41 hv
  rw [cellsClaim] at hsz
  obtain ⟨l⟩ := cs
  match l, hsz with
  | [c0, c1], _ =>
  obtain ⟨fuel, hf⟩ := h
  obtain ⟨y0, y1, m, _, _, h0, h1⟩ := trod_struct2 Try.underlying41 hf
  obtain ⟨A, n, c, zs, e2, r2⟩ := ints_open h0
  obtain ⟨A', n', c', zs', e3, r3⟩ := ints_open h1
  simp [Value.cells, cellsInts] at e2 e3
  subst e2 e3
  exact ⟨A, n, c, zs, A', n', c', zs', rfl, r2, r3⟩

end Go.Proofs.Ytlndjjdggedljaa
