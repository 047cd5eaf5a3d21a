/- Rows: appended to, copied, compared. -/
import Derived.Test.YtkjnhdkbojcojaaBase
import Derived.Laws.IdiomCopy
import Derived.Laws.AppendOwnNone
import Derived.StillTailTactics
import Derived.Deep.AppendLies
import Derived.Deep.RegionLaw
import Derived.Deep.RegionHeld3
import Derived.Shelf.RegionOpen
import Derived.Deep.RegionWith
namespace Go.Proofs.Ytkjnhdkbojcojaa
open Go.RowKit Go.Shelf

theorem R.zero {α : Type} {E : Enc α} {w : World} {A : Option Addr} {n c : Nat} {xs : List α} (h : R E w A n c xs) (hn : n = 0) : xs = [] := List.eq_nil_of_length_eq_zero (by rw [h.length]; exact hn)
theorem R.le {α : Type} {E : Enc α} {w : World} {A : Option Addr} {n c : Nat} {xs : List α} (h : R E w A n c xs) : n ≤ 9223372036854775807 := by
  obtain ⟨b, off, hr⟩ := h
  exact Nat.le_trans hr.cap hr.max
theorem info_int : (Try.prog.info? 3).map (fun i => (i.zero, i.size, i.bytes)) = some (some (.int .i64 0), 1, 8) := by kernel_rfl
/-- A row of integers of the call's own. -/
def IntsPost (l : List Int) (w : World) (e : Ending) (w' : World) : Prop :=
  ∃ A n c, e = .returned (.slice A n c) ∧ Own E1 w' w.heap.size 3 A n c l ∧ Below w.heap.size w w'
theorem Own.addr {α : Type} {E : Enc α} {w : World} {B n c : Nat} {e : TypeId} {A : Option Addr} {xs : List α} (h : Own E w B e A n c xs) (hn : 1 ≤ n) : ∃ g, A = some ⟨g, 0, none⟩ ∧ B ≤ g ∧ g < w.heap.size ∧ n ≤ c ∧ c ≤ maxLen := by
  rcases h.form with ⟨_, h1, _⟩ | h
  · omega
  · exact h
section
variable {α : Type} {E : Enc α} {P : Program} (w : World) {ops : Array Oper} {rest : List Oper} {o : Oper} {a : Act} {Q : Exit → Act → World → Prop}
/-- out = append(out, xs...), xs a row that is not nil. -/
theorem wpList_appN (z : Value) (bytes : Nat) (hgd : o.guard = none) (s x : Operand) (t e : TypeId) (ho : o.op = .call { callee := .builtin .append, args := #[s, x], argTypes := #[t, t] })
    (hu : P.underlying t = some (.slice e)) (hinfo : (P.info? e).map (fun i => (i.zero, i.size, i.bytes)) = some (some z, E.size, bytes)) (hz : z.cells.size = E.size) (hE : 0 < E.size) (hby : bytes ≤ 64)
    (B n c : Nat) (A : Option Addr) (l : List α) (ad : Addr) (m c2 : Nat) (ys : List α) (hs : a.eval s = .slice A n c) (hx : a.eval x = .slice (some ad) m c2)
    (hown : Own E w B e A n c l) (hrow : R E w (some ad) m c2 ys) (hm2 : m ≤ 1000000) (hn : n ≤ 1000000) (hB : B ≤ w.heap.size)
    (h : ∀ A' c' w', Own E w' B e A' (n + m) c' (l ++ ys) → Below B w w' → w.grownBy w' (Value.slice A n c).ownBlock → wpList P ops Q rest (a.put o.dst (.slice A' (n + m) c')) w') :
    wpList P ops Q (o :: rest) a w := by
  obtain ⟨i0, hi, hz0, hz1, hz2⟩ := info_parts hinfo
  obtain ⟨b, off, hr⟩ := hrow
  have hrl := hr.len
  refine wpList_append_own (P := P) _ hgd s x t ho B e i0 z E.size bytes hu hi hz0 hz1 hz2 hz hE _ n (E.cells l) hs hown.2
    ad m c2 (E.cells ys) hx (by rw [E.cells_len, hrl]) ?_ (E.cells_one ys) (by unfold maxLen; omega) ?_ hB ?_
  · intro j u hu'
    have hj := (List.getElem?_eq_some_iff.1 hu').1
    rw [E.cells_len, hrl] at hj
    have hm : 0 < m := by
      rcases Nat.eq_zero_or_pos m with e0 | e0
      · subst e0; omega
      · exact e0
    have e1 := hr.at_ hm
    injection e1 with e1
    subst e1
    have hadd : (⟨b, off, none⟩ : Addr).add j = ⟨b, off + j, none⟩ := by unfold Addr.add; split <;> simp_all
    have hq : j / E.size < m := Nat.div_lt_of_lt_mul (by rw [Nat.mul_comm]; exact hj)
    have hrr : j % E.size < E.size := Nat.mod_lt _ hE
    have ej : j / E.size * E.size + j % E.size = j := by rw [Nat.mul_comm]; exact Nat.div_add_mod _ _
    have g1 := E.cells_get ys (k := j / E.size) (j := j % E.size) (by omega) hrr
    have g2 := hr.cell (j / E.size) hq (j % E.size) hrr
    rw [ej] at g1 g2
    rw [hadd, g2, ← g1]
    exact hu'
  · have : (n + m) * bytes ≤ (n + m) * 64 := Nat.mul_le_mul_left _ hby
    omega
  · intro v' w' hown' hg hnil
    have hown2 : w'.ownsRow B e E.size v' (n + m) (E.cells (l ++ ys)) := by rw [E.cells_app]; exact hown'
    have hv : ∃ A' c', v' = .slice A' (n + m) c' := by
      rcases hown2.2 with ⟨hv0, hn0⟩ | ⟨g, cap, cur, hv, _⟩
      · exact ⟨none, 0, by rw [hv0, show n + m = 0 from hn0]⟩
      · exact ⟨_, _, hv⟩
    obtain ⟨A', c', rfl⟩ := hv
    have hl := hown.len
    refine h A' c' w' ⟨by simp [hl, hrl], hown2⟩ ((Below.refl B w).grown hg hB fun k hk => ?_) hg
    rcases hown.form with ⟨rfl, _⟩ | ⟨g, rfl, hbg, _⟩
    · simp [Value.ownBlock] at hk
    · simp [Value.ownBlock] at hk; omega
end
def ClonePostI (xs : List (Int)) (n : Nat) (w : World) (e : Ending) (w' : World) : Prop :=
  ∃ (A' : Option Addr) (c' : Nat), e = .returned (.slice A' n c') ∧ Own E1 w' w.heap.size 3 A' n c' xs ∧ Below w.heap.size w w'
section
variable {α : Type} {E : Enc α} {P : Program} (w : World) {ops : Array Oper} {rest : List Oper} {o : Oper} {a : Act} {Q : Exit → Act → World → Prop}
/-- out = append(out, xs...), xs a row of our own, nil or not. -/
theorem wpList_appR (z : Value) (bytes : Nat) (hgd : o.guard = none) (s x : Operand) (t e : TypeId) (ho : o.op = .call { callee := .builtin .append, args := #[s, x], argTypes := #[t, t] })
    (hu : P.underlying t = some (.slice e)) (hinfo : (P.info? e).map (fun i => (i.zero, i.size, i.bytes)) = some (some z, E.size, bytes)) (hz : z.cells.size = E.size) (hE : 0 < E.size) (hby : bytes ≤ 64)
    (B n c : Nat) (A : Option Addr) (l : List α) (A2 : Option Addr) (m c2 : Nat) (ys : List α) (hs : a.eval s = .slice A n c) (hx : a.eval x = .slice A2 m c2)
    (hown : Own E w B e A n c l) (B2 : Nat) (hrow : Own E w B2 e A2 m c2 ys) (hm2 : m ≤ 1000000) (hn : n ≤ 1000000) (hB : B ≤ w.heap.size)
    (h : ∀ A' c' w', Own E w' B e A' (n + m) c' (l ++ ys) → Below B w w' → w.grownBy w' (Value.slice A n c).ownBlock → wpList P ops Q rest (a.put o.dst (.slice A' (n + m) c')) w') :
    wpList P ops Q (o :: rest) a w := by
  cases A2 with
  | some ad => exact wpList_appN w z bytes hgd s x t e ho hu hinfo hz hE hby B n c A l ad m c2 ys hs hx hown hrow.row hm2 hn hB h
  | none =>
    rcases hrow.form with ⟨_, rfl, rfl, rfl⟩ | ⟨g, hh, _⟩
    · obtain ⟨i0, hi, hz0, hz1, hz2⟩ := info_parts hinfo
      refine wpList_append_own_none hgd s x t ho B e i0 E.size hu hi _ n (E.cells l) hs hown.2 hx ?_
      exact h A c w (by rw [List.append_nil]; exact hown) (Below.refl _ _) (gb_refl _ _)
    · cases hh
end
theorem own1 {w : World} {B n c g : Nat} {e : TypeId} {L : List Int} (h : Own E1 w B e (some ⟨g, 0, none⟩) n c L) {k : Nat} (hk : k < n) : w.cell? ⟨g, k, none⟩ = some (.int .i64 (L.getD k 0)) := by
  have h1 := h.cell (j := 0) hk (by decide)
  rw [show k * E1.size + 0 = k from Nat.mul_one k] at h1
  exact h1
theorem Own.stored1 {w : World} {B n c g : Nat} {e : TypeId} {L : List Int} (h : Own E1 w B e (some ⟨g, 0, none⟩) n c L) {k : Nat} (hk : k < n) (a : Int) :
    Own E1 (w.setCell ⟨g, k, none⟩ (.int .i64 a)) B e (some ⟨g, 0, none⟩) n c (L.set k a) := by
  have h1 := h.stored (j := 0) hk (by decide) (.int .i64 a) a rfl
  rw [show k * E1.size + 0 = k from Nat.mul_one k] at h1
  exact h1
theorem gb_drewN {W X : World} {row : Option Nat} (h : W.grownBy X row) (k : Nat) : W.grownBy (X.drewN k) row := ⟨h.os, h.tape, h.output, h.size, h.block⟩
section
variable {α : Type} {E : Enc α} {P : Program} (w : World) {ops : Array Oper} {o : Oper} {a : Act} {K : Act → World → Prop} {Q : Exit → Act → World → Prop} {F : Prop}
/-- out = append(out, x) at a step of a region that draws its order. -/
theorem step_app1 (z : Value) (bytes : Nat) (hgd : o.guard = none) (s x : Operand) (t e : TypeId) (ho : o.op = .call { callee := .builtin .append, args := #[s, x], argTypes := #[t, t] })
    (hu : P.underlying t = some (.slice e)) (hinfo : (P.info? e).map (fun i => (i.zero, i.size, i.bytes)) = some (some z, E.size, bytes)) (hz : z.cells.size = E.size) (hE : 0 < E.size) (hby : bytes ≤ 64)
    (B n c : Nat) (A : Option Addr) (l : List α) (y : α) (cs : Array Value) (hcs : cs = (E.enc y).toArray) (hs : a.eval s = .slice A n c) (hx : a.eval x = .slice (some ⟨w.heap.size, 0, none⟩) 1 1)
    (hown : Own E w B e A n c l) (hn : n ≤ 1000000) (hB : B ≤ w.heap.size)
    (h : ∀ A' c' w', Own E w' B e A' (n + 1) c' (l ++ [y]) → Below B w w' → K (a.put o.dst (.slice A' (n + 1) c')) w') :
    if Region.wanted o (yielded ops a.tmps) = true then Oper.wp P o a (w.alloc (.cells cs e)) K Q else F := by
  subst hcs
  obtain ⟨i0, hi, hz0, hz1, hz2⟩ := info_parts hinfo
  have hlen := E.len y
  have hl := hown.len
  refine step_append_lies (w.alloc (.cells (E.enc y).toArray e)) hgd s x t ho B e i0 z E.size bytes hu hi hz0 hz1 hz2 hz hE _ n (E.cells l) hs (World.ownsRow.alloc hown.2 _)
    ⟨w.heap.size, 0, none⟩ 1 1 (E.enc y) hx (by omega) (fun j u hu => World.news_of_block (heap_alloc_new w (.cells (E.enc y).toArray e)) j u (by simpa using hu)) (E.one y) (by omega) (by unfold maxLen; omega) ?_ (by simp; omega) _ rfl ?_
  · have : (n + 1) * bytes ≤ (n + 1) * 64 := Nat.mul_le_mul_left _ hby
    omega
  · intro g cap w' hown' hg _ _
    have hown2 : w'.ownsRow B e E.size (.slice (some ⟨g, 0, none⟩) (n + 1) cap) (n + 1) (E.cells (l ++ [y])) := by
      rw [E.cells_app]
      have e1 : E.cells [y] = E.enc y := by simp [Enc.cells]
      rw [e1]
      exact hown'
    have hg2 : w.grownBy w' (Value.slice A n c).ownBlock :=
      ⟨hg.os, hg.tape, hg.output, Nat.le_trans (by simp) hg.size, fun k hk hne => (hg.block k (by simp; omega) hne).trans (Below.heap_alloc w _ k hk)⟩
    refine h _ cap w' ⟨by simp [hl], hown2⟩ ((Below.refl B w).grown hg2 hB fun k hk => ?_)
    rcases hown.form with ⟨rfl, _⟩ | ⟨g, rfl, hbg, _⟩
    · simp [Value.ownBlock] at hk
    · simp [Value.ownBlock] at hk; omega
end
theorem below_undrew {B : Nat} {W W' : World} (h : Below B W.drew W') : Below B W W' := ⟨h.os, h.tape, h.output, h.size, h.block⟩
section
variable {α : Type} {E : Enc α} {P : Program} (w : World) {ops : Array Oper} {rest : List Oper} {o : Oper} {a : Act} {Q : Exit → Act → World → Prop}
theorem wpList_appX (z : Value) (bytes : Nat) (hgd : o.guard = none) (s x : Operand) (t e : TypeId) (ho : o.op = .call { callee := .builtin .append, args := #[s, x], argTypes := #[t, t] })
    (hu : P.underlying t = some (.slice e)) (hinfo : (P.info? e).map (fun i => (i.zero, i.size, i.bytes)) = some (some z, E.size, bytes)) (hz : z.cells.size = E.size) (hE : 0 < E.size) (hby : bytes ≤ 64)
    (B g : Nat) (A2 : Option Addr) (m c2 : Nat) (ys : List α) (hs : a.eval s = .slice (some ⟨g, 0, none⟩) 0 0) (hx : a.eval x = .slice A2 m c2)
    (hown : Own E w B e (some ⟨g, 0, none⟩) 0 0 []) (hrow : R E w A2 m c2 ys) (hm2 : m ≤ 1000000) (hB : B ≤ w.heap.size)
    (h : ∀ A' c' w', Own E w' B e A' m c' ys → Below B w w' → wpList P ops Q rest (a.put o.dst (.slice A' m c')) w') :
    wpList P ops Q (o :: rest) a w := by
  by_cases hm : m = 0
  · subst hm
    obtain ⟨i0, hi, hz0, hz1, hz2⟩ := info_parts hinfo
    obtain rfl : ys = [] := List.eq_nil_of_length_eq_zero hrow.length
    have hrun : (Builtin.append_ #[t, t] o.type #[.slice (some ⟨g, 0, none⟩) 0 0, .slice A2 0 c2]).run P w = .ok (.slice (some ⟨g, 0, none⟩) 0 0) w := by
      cases A2 <;> simp [Builtin.append_, run_underlying hu, sizeOf, typeInfo, hi, Builtin.lenOf, Builtin.firstCells, loadCells, loadCellsFrom, storeCells]
    refine wpList_plain hgd fun K hK => ?_
    unfold Oper.wp
    simp [execOp, ho, resolve, invoke, builtin, hs, hx, hrun, Result.andThen]
    exact hK _ _ (h _ _ w hown (Below.refl _ _))
  · have hA : ∃ ad, A2 = some ad := by
      obtain ⟨b, off, hr⟩ := hrow
      exact ⟨_, hr.at_ (by omega)⟩
    obtain ⟨ad, rfl⟩ := hA
    refine wpList_appN w z bytes hgd s x t e ho hu hinfo hz hE hby B 0 0 _ [] ad m c2 ys hs hx hown hrow hm2 (by omega) hB fun A' c' w' h1 h2 _ => ?_
    rw [Nat.zero_add] at h1 ⊢
    exact h A' c' w' (by simpa using h1) h2
end
/-- The header of a row. -/
abbrev Hd := Option Addr × Nat × Nat
def EH : Enc Hd := { size := 1, enc := fun h => [.slice h.1 h.2.1 h.2.2], len := fun _ => rfl, one := fun x u h => by simp at h; subst h; rfl, d := (none, 0, 0) }
theorem info_row : (Try.prog.info? 23).map (fun i => (i.zero, i.size, i.bytes)) = some (some (.slice none 0 0), 1, 24) := by kernel_rfl
theorem cH {w : World} {A : Option Addr} {n c b off : Nat} {hs : List Hd} (h : RAt EH w A n c hs b off) {k : Nat} (hk : k < n) : w.cell? ⟨b, off + k, none⟩ = some (.slice (hs.getD k EH.d).1 (hs.getD k EH.d).2.1 (hs.getD k EH.d).2.2) := by
  have h1 := h.cell k hk 0 (by decide)
  rw [show k * EH.size + 0 = k from Nat.mul_one k] at h1
  exact h1
theorem R.drewN {α : Type} {E : Enc α} {w : World} {A : Option Addr} {n c : Nat} {xs : List α} (h : R E w A n c xs) (q : Nat) : R E (w.drewN q) A n c xs := h.below (below_drewN (Below.refl _ _) q) (Nat.le_refl _)
/-- A row that is laid anew. -/
theorem lit_row (w : World) (l : List Int) (h : l.length ≤ maxLen) : R E1 (w.alloc (.cells (E1.cells l).toArray 3)) (some ⟨w.heap.size, 0, none⟩) l.length l.length l := (Own.lit (B := w.heap.size) w l (Nat.le_refl _) h).row
theorem le_two {w x : World} (h : Below w.heap.size w x) (o : Obj) : Below w.heap.size w (x.alloc o) := h.alloc h.size o
theorem le_call {w x y : World} (h : Below w.heap.size w x) (k : Below x.heap.size x y) : Below w.heap.size w y := h.trans (k.mono h.size)
theorem sameTo_end {xs ys : List Int} (hl : xs.length = ys.length) (h : ∀ i, i < xs.length → xs.getD i 0 = ys.getD i 0) : xs = ys := by
  apply List.ext_getElem hl
  intro i h1 h2
  have := h i h1
  simpa [List.getD_eq_getElem?_getD, h1, h2] using this
set_option maxHeartbeats 2000000 in
theorem SameInts_any (A : Option Addr) (n c : Nat) (A' : Option Addr) (n' c' : Nat) (xs ys : List Int) (w : World) (h : R E1 w A n c xs) (h' : R E1 w A' n' c' ys) (hn : n ≤ 100000) (hn' : n' ≤ 100000) :
    Calls Try.prog 27 #[.slice A n c, .slice A' n' c'] w fun e w' => e = .returned (.bool (xs == ys)) ∧ ∃ q, w' = w.drewN q := by
  have H1 := hide h.length
  have H2 := hide h'.length
  by_cases hnn : n = n'
  · subst hnn
    obtain ⟨b, off, hr⟩ := h
    obtain ⟨b', off', hr'⟩ := h'
    have HR := hide hr
    have HR' := hide hr'
    have hcap := hr.cap
    have hmax := hr.max
    have hcap' := hr'.cap
    have hmax' := hr'.max
    clear hr hr'
    go_enter Try.func27, Try.ntmps27
    go_wp2_with fail
    go_loopw [5] (fun i wr => ∃ k q : Nat, k ≤ n ∧ i = .int .i64 k ∧ wr = w.drewN q ∧ Hid (∀ j, j < k → xs.getD j 0 = ys.getD j 0)) (fun i _ => n - (intOf i).toNat)
    case atStart => exact ⟨0, 0, Nat.zero_le _, rfl, rfl, fun j hj => absurd hj (Nat.not_lt_zero j)⟩
    case round =>
      obtain ⟨k, q, hk, rfl, rfl, HS⟩ := hrel
      by_cases hlt : k < n
      · obtain rfl := HR.out.at_ (by omega)
        obtain rfl := HR'.out.at_ (by omega)
        have hbl := HR.out.lt (by omega)
        have hbl' := HR'.out.lt (by omega)
        have a1 := c1 HR.out hlt
        have d1 := c1 HR'.out hlt
        have i1 : (k : Int) < (n : Int) := by omega
        by_cases hxy : xs.getD k 0 = ys.getD k 0
        · have HK := hide (fun j (hj : j < k + 1) => (show xs.getD j 0 = ys.getD j 0 from by
            by_cases e : j = k
            · subst e; exact hxy
            · exact HS.out j (by omega)))
          rw [← hxy] at d1
          clear hxy
          generalize xs.getD k 0 = x at a1 d1
          have hxx : (x != x) = false := by simp
          go_wp2_with fail
          go_quiet (fail)
          go_wp2_with fail
          go_roundw
          case rel => exact ⟨k + 1, q + nq, by omega, by go_num, by first | rfl | (rw [World.drewN_drewN]), HK⟩
          case measure => simp [intOf]; omega
        · have HK := hide (show (xs == ys) = false from by rw [beq_eq_false_iff_ne]; intro e; exact hxy (by rw [e]))
          generalize xs.getD k 0 = x at a1 hxy
          generalize ys.getD k 0 = y at d1 hxy
          have hxx : (x != y) = true := by simp [hxy]
          clear hxy
          go_wp2_with fail
          go_quiet (fail)
          go_wp2_with fail
          go_ret
          exact ⟨ret_bool HK.out.symm, q + nq, by first | rfl | (rw [World.drewN_drewN])⟩
      · have HK := hide (show (xs == ys) = true from by rw [beq_iff_eq]; exact sameTo_end (by rw [H1.out, H2.out]) (fun i hi => HS.out i (by rw [H1.out] at hi; omega)))
        go_wp2_with fail
        go_ret
        exact ⟨ret_bool HK.out.symm, q, rfl⟩
  · have HK := hide (show (xs == ys) = false from by rw [beq_eq_false_iff_ne]; intro e; rw [e] at H1; exact hnn (H1.out.symm.trans H2.out))
    have hne : ¬ (n : Int) = (n' : Int) := by omega
    go_enter Try.func27, Try.ntmps27
    go_wp2_with fail
    go_ret
    exact ⟨ret_bool HK.out.symm, 0, rfl⟩
/-- A row of the call's own, and an error. -/
def RowPost (er : Int) (l : List Int) (w : World) (e : Ending) (w' : World) : Prop :=
  ∃ A n c, e = .returned (.tuple #[.slice A n c, .int .i64 er]) ∧ Own E1 w' w.heap.size 3 A n c l ∧ Below w.heap.size w w'
end Go.Proofs.Ytkjnhdkbojcojaa
