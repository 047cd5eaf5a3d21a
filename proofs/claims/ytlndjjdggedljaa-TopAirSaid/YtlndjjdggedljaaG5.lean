/- Group 5: texts WalkAp, WalkS, WalkSt, MathD, WalkBo, WalkT. -/
import Derived.Test.YtlndjjdggedljaaG4
/- WalkAp -/
namespace Go.Proofs.Ytlndjjdggedljaa
open Go.RowKit

set_option maxHeartbeats 4000000 in
theorem AirPlans_walk (K h : Int) (A : Option Addr) (n c : Nat) (cs : List Int) (A' : Option Addr) (n' c' : Nat) (ds : List Int) (P : Option Addr) (np pc : Nat) (ps : List Int) (w : World)
    (hT : Tin w A n c cs A' n' c' ds) (hP : Row w P np pc ps) :
    Calls Try.prog 3 #[.agg #[.int .i64 K, .int .i64 h, .slice A n c, .slice A' n' c'], .slice P np pc] w fun e w' => e = .returned (.bool true) ∧ Below w.heap.size w w' := by
  have HT := hide hT
  have HPr := hide hP
  have B0 := hide ((Below.refl w.heap.size w).alloc (Nat.le_refl _) (.cells #[.int .i64 K, .int .i64 h, .slice A n c, .slice A' n' c'] 24))
  have K0 := hide (Bk.born w 24 #[.int .i64 K, .int .i64 h, .slice A n c, .slice A' n' c'])
  clear hT hP
  by_cases hL : 100 < n ∨ 100 < n'
  · go_enter Try.func3, Try.ntmps3
    go_wp2_with fail
    refine (Long_any K h _ n c cs _ n' c' ds _ (HT.out.alloc _)).mono ?_
    rw [decide_eq_true hL]
    rintro e w1 ⟨rfl, b1⟩
    go_wp2_with fail
    refine (known_any _).mono ?_
    rintro e w2 ⟨rfl, b2⟩
    go_wp2_with fail
    go_ret
    exact ⟨rfl, B0.out.trans ((b1.mono (by simp)).trans (b2.mono (by have := b1.size; simp at this; omega)))⟩
  by_cases hL2 : 100 < np
  · go_enter Try.func3, Try.ntmps3
    go_wp2_with fail
    refine (Long_any K h _ n c cs _ n' c' ds _ (HT.out.alloc _)).mono ?_
    rw [decide_eq_false hL]
    rintro e w1 ⟨rfl, b1⟩
    have B1 := hide (B0.out.trans (b1.mono (by simp)))
    clear b1
    go_wp2_with fail
    refine (large_any _ np pc ps _ (HPr.out.below B1.out (Nat.le_refl _))).mono ?_
    rw [decide_eq_true hL2]
    rintro e w2 ⟨rfl, rfl⟩
    go_wp2_with fail
    refine (known_any _).mono ?_
    rintro e w2 ⟨rfl, b2⟩
    go_wp2_with fail
    go_ret
    exact ⟨rfl, B1.out.trans (b2.mono B1.out.size)⟩
  go_enter Try.func3, Try.ntmps3
  go_wp2_with fail
  refine (Long_any K h _ n c cs _ n' c' ds _ (HT.out.alloc _)).mono ?_
  rw [decide_eq_false hL]
  rintro e w1 ⟨rfl, b1⟩
  have B1 := hide (B0.out.trans (b1.mono (by simp)))
  have K1 := hide (K0.out.keep b1 (by simp))
  clear b1
  go_wp2_with fail
  refine (large_any _ np pc ps _ (HPr.out.below B1.out (Nat.le_refl _))).mono ?_
  rw [decide_eq_false hL2]
  rintro e w2 ⟨rfl, rfl⟩
  obtain ⟨k0, k1, k2, k3, _⟩ := K1.out.four
  go_wp2_with fail
  refine (CheckPlan_any K h _ n c cs _ n' c' ds _ np pc ps _ (HT.out.below B1.out (Nat.le_refl _)) (HPr.out.below B1.out (Nat.le_refl _))).mono ?_
  rintro e w2 ⟨rfl, b2⟩
  have B2 := hide (B1.out.trans (b2.mono B1.out.size))
  have K2 := hide (K1.out.keep b2 K1.out.in_)
  clear b2 k0 k1 k2 k3
  obtain ⟨k0, k1, k2, k3, _⟩ := K2.out.four
  go_wp2_with fail
  refine (rCheckPlan_any K h _ n c cs _ n' c' ds _ np pc ps _ (HT.out.below B2.out (Nat.le_refl _)) (HPr.out.below B2.out (Nat.le_refl _))).mono ?_
  rintro e w3 ⟨rfl, b3⟩
  have B3 := hide (B2.out.trans (b3.mono B2.out.size))
  have K3 := hide (K2.out.keep b3 K2.out.in_)
  clear b3 k0 k1 k2 k3
  obtain ⟨k0, k1, k2, k3, kin⟩ := K3.out.four
  generalize okv (errP K h cs ds ps) ((tk K h cs ds).cost (pl ps) ds.length) = x1 at *
  generalize errP K h cs ds ps = x2 at *
  have hz3 := B3.out.size
  have HV1 := hide (fun W hw => Validate_any K h A n c cs A' n' c' ds W hw)
  have HV2 := hide (fun W hw => rValidate_any K h A n c cs A' n' c' ds W hw)
  generalize errT K h cs ds = x3 at *
  go_wp2_with fail
  go_region_held3 (fun w' => w'.cell? ⟨w.heap.size, 0, none⟩ = some (.int .i64 K) ∧ w'.cell? ⟨w.heap.size, 1, none⟩ = some (.int .i64 h) ∧ w'.cell? ⟨w.heap.size, 2, none⟩ = some (.slice A n c) ∧ w'.cell? ⟨w.heap.size, 3, none⟩ = some (.slice A' n' c'))
    (first
      | go_keep
      | (go_split_ands
         refine ⟨?_, ?_, ?_, ?_⟩ <;> (rw [hb8.cell (by simp; omega)]; assumption))
      | (go_split_ands
         refine ⟨?_, ?_, ?_, ?_⟩ <;> (rw [hb9.cell (by have := hb8.size; simp at this ⊢; omega)]; assumption))
      | (go_split_ands
         refine ⟨?_, ?_, ?_, ?_⟩ <;> (rw [hb10.cell (by have := hb8.size; have := hb9.size; simp at *; omega)]; assumption)))
    (first
      | (go_at_call 22; refine (HV1.out _ (HT.out.below (below_drewN B3.out 1) (Nat.le_refl _))).mono ?_; rintro e8 w8 ⟨rfl, hb8⟩)
      | (go_at_call 23; refine (HV2.out _ (HT.out.below ((below_drewN B3.out 1).trans (hb8.mono B3.out.size)) (Nat.le_refl _))).mono ?_; rintro e9 w9 ⟨rfl, hb9⟩)
      | (go_at_call 19; refine (known_any _).mono ?_; rintro e10 w10 ⟨rfl, hb10⟩))
  all_goals
    have s8 := hb8.size
    have s9 := hb9.size
    go_wp2_with fail
    go_ret
    exact ⟨rfl, (((below_drewN B3.out 1).trans (hb8.mono (by simp; omega))).trans (hb9.mono (by simp at s8; omega))).trans (hb10.mono (by simp at s8; omega))⟩

end Go.Proofs.Ytlndjjdggedljaa

/- WalkS -/
namespace Go.Proofs.Ytlndjjdggedljaa
open Go.RowKit

def EqTo (xs ys : List Int) (k : Nat) : Prop := ∀ j, j < k → xs.getD j 0 = ys.getD j 0
theorem eqTo_zero (xs ys : List Int) : EqTo xs ys 0 := fun _ h => absurd h (Nat.not_lt_zero _)
theorem eqTo_succ {xs ys : List Int} {k : Nat} (h : EqTo xs ys k) (e : xs.getD k 0 = ys.getD k 0) : EqTo xs ys (k + 1) := by
  intro j hj
  by_cases hjk : j = k
  · subst hjk; exact e
  · exact h j (by omega)
theorem list_ext_getD {xs ys : List Int} (hl : xs.length = ys.length) (h : ∀ j, j < xs.length → xs.getD j 0 = ys.getD j 0) : xs = ys := by
  apply List.ext_getElem hl
  intro j h1 h2
  have := h j h1
  simpa [List.getD_eq_getElem?_getD, h1, h2] using this
def eqL (xs ys : List Int) : Bool := xs == ys
theorem eqL_true {xs ys : List Int} (hl : xs.length = ys.length) (h : EqTo xs ys xs.length) : eqL xs ys = true := by
  unfold eqL; simp [list_ext_getD hl h]
theorem eqL_len {xs ys : List Int} (hl : xs.length ≠ ys.length) : eqL xs ys = false := by
  unfold eqL
  simp
  intro h; exact hl (by rw [h])
theorem eqL_ne {xs ys : List Int} {k : Nat} (e : xs.getD k 0 ≠ ys.getD k 0) : eqL xs ys = false := by
  unfold eqL
  simp
  intro h; exact e (by rw [h])
theorem eqL_iff {xs ys : List Int} : eqL xs ys = true ↔ xs = ys := by unfold eqL; simp
theorem eqL_self (xs : List Int) : eqL xs xs = true := by rw [eqL_iff]

theorem Bk.bornAt {w : World} {g : Nat} {t : TypeId} {cs : Array Value} (hg : g = w.heap.size) : Bk (w.alloc (.cells cs t)) g t cs := by subst hg; exact Bk.born w t cs
/-- Only draws. -/
def Drew (w w' : World) : Prop := ∃ m, w' = w.drewN m
theorem Drew.refl (w : World) : Drew w w := ⟨0, rfl⟩
theorem Drew.more {w w' : World} (h : Drew w w') (n : Nat) : Drew w (w'.drewN n) := by
  obtain ⟨m, rfl⟩ := h
  exact ⟨m + n, by rw [World.drewN_drewN]⟩
theorem below_drewN' {B : Nat} {a w : World} (h : Below B a w) (n : Nat) : Below B a (w.drewN n) := ⟨h.os, h.tape, h.output, h.size, h.block⟩
theorem Drew.below {w w' : World} (h : Drew w w') (B : Nat) : Below B w w' := by
  obtain ⟨m, rfl⟩ := h
  exact below_drewN' (Below.refl B w) m
theorem Drew.row {w w' : World} {A : Option Addr} {n c : Nat} {xs : List Int} (h : Row w A n c xs) (hd : Drew w w') : Row w' A n c xs := by
  obtain ⟨m, rfl⟩ := hd
  exact h.drewN m
theorem Drew.cell {w w' : World} (h : Drew w w') (a : Addr) : w'.cell? a = w.cell? a := by
  obtain ⟨m, rfl⟩ := h
  rfl

set_option maxHeartbeats 400000 in
theorem SameInts_any (A : Option Addr) (n c : Nat) (xs : List Int) (A' : Option Addr) (n' c' : Nat) (ys : List Int) (w : World) (h : Row w A n c xs) (h' : Row w A' n' c' ys) :
    Calls Try.prog 30 #[.slice A n c, .slice A' n' c'] w fun e w' => e = .returned (.bool (eqL xs ys)) ∧ Below w.heap.size w w' := by
  obtain ⟨b, off, h1, hcap, hmax, h2, h3, h4⟩ := h
  obtain ⟨b', off', h1', hcap', hmax', h2', h3', h4'⟩ := h'
  have H1 := hide h1
  have H2 := hide h2
  have H4 := hide h4
  have H1' := hide h1'
  have H2' := hide h2'
  have H4' := hide h4'
  clear h1 h2 h3 h4 h1' h2' h3' h4'
  by_cases hl : n = n'
  · subst hl
    go_enter Try.func30, Try.ntmps30
    go_wp2
    go_loopw [5] (fun i wr => ∃ k : Nat, k ≤ n ∧ i = .int .i64 k ∧ EqTo xs ys k ∧ Drew w wr) (fun i _ => n - (intOf i).toNat)
    case atStart => exact ⟨0, Nat.zero_le _, rfl, eqTo_zero _ _, Drew.refl _⟩
    case round =>
      obtain ⟨k, hk, rfl, hrep, hd⟩ := hrel
      by_cases hlt : k < n
      · have hcell := (hd.cell _).trans (H4.out k hlt)
        have hcell' := (hd.cell _).trans (H4'.out k hlt)
        have hA := H2.out (by omega)
        have hA' := H2'.out (by omega)
        generalize hx : xs.getD k 0 = x at hcell
        generalize hy : ys.getD k 0 = y at hcell'
        have HX := hide hx
        have HY := hide hy
        clear hx hy
        subst hA hA'
        have hi : (k : Int) < (n : Int) := by omega
        cases hxy : (x != y) with
        | false =>
          go_wp2
          go_quiet (fail)
          go_wp2
          go_roundw
          case rel => exact ⟨k + 1, by omega, by go_num, eqTo_succ hrep (by rw [HX.out, HY.out]; simpa using hxy), hd.more _⟩
          case measure => simp [intOf]; omega
        | true =>
          go_wp2
          go_quiet (fail)
          go_wp2
          go_ret
          exact ⟨ret_bool (eqL_ne (k := k) (by rw [HX.out, HY.out]; simpa using hxy)).symm, (hd.more _).below _⟩
      · go_wp2
        go_ret
        exact ⟨ret_bool (eqL_true (by rw [H1.out, H1'.out]) (by rw [H1.out, show n = k from by omega]; exact hrep)).symm, hd.below _⟩
  · go_enter Try.func30, Try.ntmps30
    go_wp2
    go_ret
    exact ⟨ret_bool (eqL_len (by rw [H1.out, H1'.out]; exact hl)).symm, Below.refl _ _⟩

end Go.Proofs.Ytlndjjdggedljaa

/- WalkSt -/
namespace Go.Proofs.Ytlndjjdggedljaa
open Go.RowKit

set_option maxHeartbeats 4000000 in
theorem AirStocks_walk (K h : Int) (A : Option Addr) (n c : Nat) (cs : List Int) (A' : Option Addr) (n' c' : Nat) (ds : List Int) (P : Option Addr) (np pc : Nat) (ps : List Int) (w : World)
    (hT : Tin w A n c cs A' n' c' ds) (hP : Row w P np pc ps) :
    Calls Try.prog 4 #[.agg #[.int .i64 K, .int .i64 h, .slice A n c, .slice A' n' c'], .slice P np pc] w fun e w' => e = .returned (.bool true) ∧ Below w.heap.size w w' := by
  have HT := hide hT
  have HPr := hide hP
  have B0 := hide ((Below.refl w.heap.size w).alloc (Nat.le_refl _) (.cells #[.int .i64 K, .int .i64 h, .slice A n c, .slice A' n' c'] 24))
  have K0 := hide (Bk.born w 24 #[.int .i64 K, .int .i64 h, .slice A n c, .slice A' n' c'])
  clear hT hP
  by_cases hL : 100 < n ∨ 100 < n'
  case pos =>
    go_enter Try.func4, Try.ntmps4
    go_wp2_with fail
    refine (Long_any K h _ n c cs _ n' c' ds _ (HT.out.below B0.out (Nat.le_refl _))).mono ?_
    rw [decide_eq_true hL]
    rintro e w1 ⟨rfl, b1⟩
    have B1 := hide (B0.out.trans (b1.mono B0.out.size))
    have K1 := hide (K0.out.keep b1 K0.out.in_)
    clear b1
    go_wp2_with fail
    refine (known_any _).mono ?_
    rintro e wz ⟨rfl, bz⟩
    go_wp2_with fail
    go_ret
    exact ⟨rfl, B1.out.trans (bz.mono B1.out.size)⟩
  by_cases hL2 : 100 < np
  case pos =>
    go_enter Try.func4, Try.ntmps4
    go_wp2_with fail
    refine (Long_any K h _ n c cs _ n' c' ds _ (HT.out.below B0.out (Nat.le_refl _))).mono ?_
    rw [decide_eq_false hL]
    rintro e w1 ⟨rfl, b1⟩
    have B1 := hide (B0.out.trans (b1.mono B0.out.size))
    have K1 := hide (K0.out.keep b1 K0.out.in_)
    clear b1
    go_wp2_with fail
    refine (large_any _ np pc ps _ (HPr.out.below B1.out (Nat.le_refl _))).mono ?_
    rw [decide_eq_true hL2]
    rintro e wq ⟨rfl, rfl⟩
    go_wp2_with fail
    refine (known_any _).mono ?_
    rintro e wz ⟨rfl, bz⟩
    go_wp2_with fail
    go_ret
    exact ⟨rfl, B1.out.trans (bz.mono B1.out.size)⟩
  go_enter Try.func4, Try.ntmps4
  go_wp2_with fail
  refine (Long_any K h _ n c cs _ n' c' ds _ (HT.out.below B0.out (Nat.le_refl _))).mono ?_
  rw [decide_eq_false hL]
  rintro e w1 ⟨rfl, b1⟩
  have B1 := hide (B0.out.trans (b1.mono B0.out.size))
  have K1 := hide (K0.out.keep b1 K0.out.in_)
  clear b1
  go_wp2_with fail
  refine (large_any _ np pc ps _ (HPr.out.below B1.out (Nat.le_refl _))).mono ?_
  rw [decide_eq_false hL2]
  rintro e wq ⟨rfl, rfl⟩
  obtain ⟨k0, k1, k2, k3, _⟩ := K1.out.four
  go_wp2_with fail
  refine (Stock_any K h _ n c cs _ n' c' ds _ np pc ps _ (HT.out.below B1.out (Nat.le_refl _)) (HPr.out.below B1.out (Nat.le_refl _))).mono ?_
  rintro e w2 ⟨Aa, na, ca, rfl, oa, b2⟩
  have B2 := hide (B1.out.trans (b2.mono B1.out.size))
  have K2 := hide (K1.out.keep b2 K1.out.in_)
  clear b2
  clear k0 k1 k2 k3
  have Ra := hide (oa.row)
  clear oa
  obtain ⟨k0, k1, k2, k3, _⟩ := K2.out.four
  go_wp2_with fail
  refine (rStock_any K h _ n c cs _ n' c' ds _ np pc ps _ (HT.out.below B2.out (Nat.le_refl _)) (HPr.out.below B2.out (Nat.le_refl _))).mono ?_
  rintro e w3 ⟨Ab, nb, cb, rfl, ob, b3⟩
  have B3 := hide (B2.out.trans (b3.mono B2.out.size))
  have K3 := hide (K2.out.keep b3 K2.out.in_)
  replace Ra := hide (Ra.out.below b3 (Nat.le_refl _))
  clear b3
  clear k0 k1 k2 k3
  have Rb := hide (ob.row)
  clear ob
  obtain ⟨k0, k1, k2, k3, _⟩ := K3.out.four
  go_wp2_with fail
  refine (Starts_any K h _ n c cs _ n' c' ds _ np pc ps _ (HT.out.below B3.out (Nat.le_refl _)) (HPr.out.below B3.out (Nat.le_refl _))).mono ?_
  rintro e w4 ⟨Ac, nc, cc, rfl, oc, b4⟩
  have B4 := hide (B3.out.trans (b4.mono B3.out.size))
  have K4 := hide (K3.out.keep b4 K3.out.in_)
  replace Ra := hide (Ra.out.below b4 (Nat.le_refl _))
  replace Rb := hide (Rb.out.below b4 (Nat.le_refl _))
  clear b4
  clear k0 k1 k2 k3
  have Rc := hide (oc.row)
  clear oc
  obtain ⟨k0, k1, k2, k3, _⟩ := K4.out.four
  go_wp2_with fail
  refine (rStarts_any K h _ n c cs _ n' c' ds _ np pc ps _ (HT.out.below B4.out (Nat.le_refl _)) (HPr.out.below B4.out (Nat.le_refl _))).mono ?_
  rintro e w5 ⟨Ad, nd, cd, rfl, od, b5⟩
  have B5 := hide (B4.out.trans (b5.mono B4.out.size))
  have K5 := hide (K4.out.keep b5 K4.out.in_)
  replace Ra := hide (Ra.out.below b5 (Nat.le_refl _))
  replace Rb := hide (Rb.out.below b5 (Nat.le_refl _))
  replace Rc := hide (Rc.out.below b5 (Nat.le_refl _))
  clear b5
  clear k0 k1 k2 k3
  have Rd := hide (od.row)
  clear od
  obtain ⟨k0, k1, k2, k3, _⟩ := K5.out.four
  go_wp2_with fail
  refine (IsTidy_any K h _ n c cs _ n' c' ds _ np pc ps _ (HT.out.below B5.out (Nat.le_refl _)) (HPr.out.below B5.out (Nat.le_refl _))).mono ?_
  rintro e w6 ⟨rfl, b6⟩
  have B6 := hide (B5.out.trans (b6.mono B5.out.size))
  have K6 := hide (K5.out.keep b6 K5.out.in_)
  replace Ra := hide (Ra.out.below b6 (Nat.le_refl _))
  replace Rb := hide (Rb.out.below b6 (Nat.le_refl _))
  replace Rc := hide (Rc.out.below b6 (Nat.le_refl _))
  replace Rd := hide (Rd.out.below b6 (Nat.le_refl _))
  clear b6
  clear k0 k1 k2 k3
  obtain ⟨k0, k1, k2, k3, _⟩ := K6.out.four
  go_wp2_with fail
  refine (rIsTidy_any K h _ n c cs _ n' c' ds _ np pc ps _ (HT.out.below B6.out (Nat.le_refl _)) (HPr.out.below B6.out (Nat.le_refl _))).mono ?_
  rintro e w7 ⟨rfl, b7⟩
  have B7 := hide (B6.out.trans (b7.mono B6.out.size))
  have K7 := hide (K6.out.keep b7 K6.out.in_)
  replace Ra := hide (Ra.out.below b7 (Nat.le_refl _))
  replace Rb := hide (Rb.out.below b7 (Nat.le_refl _))
  replace Rc := hide (Rc.out.below b7 (Nat.le_refl _))
  replace Rd := hide (Rd.out.below b7 (Nat.le_refl _))
  clear b7
  clear k0 k1 k2 k3
  go_wp2_with fail
  refine (SameInts_any _ _ _ _ _ _ _ _ _ Ra.out Rb.out).mono ?_
  rw [eqL_self]
  rintro e w8 ⟨rfl, b8⟩
  have B8 := hide (B7.out.trans (b8.mono B7.out.size))
  have K8 := hide (K7.out.keep b8 K7.out.in_)
  replace Ra := hide (Ra.out.below b8 (Nat.le_refl _))
  replace Rb := hide (Rb.out.below b8 (Nat.le_refl _))
  replace Rc := hide (Rc.out.below b8 (Nat.le_refl _))
  replace Rd := hide (Rd.out.below b8 (Nat.le_refl _))
  clear b8
  go_wp2_with fail
  refine (SameInts_any _ _ _ _ _ _ _ _ _ Rc.out Rd.out).mono ?_
  rw [eqL_self]
  rintro e w9 ⟨rfl, b9⟩
  have B9 := hide (B8.out.trans (b9.mono B8.out.size))
  have K9 := hide (K8.out.keep b9 K8.out.in_)
  replace Ra := hide (Ra.out.below b9 (Nat.le_refl _))
  replace Rb := hide (Rb.out.below b9 (Nat.le_refl _))
  replace Rc := hide (Rc.out.below b9 (Nat.le_refl _))
  replace Rd := hide (Rd.out.below b9 (Nat.le_refl _))
  clear b9
  go_wp2_with fail
  refine (known_any _).mono ?_
  rintro e wz ⟨rfl, bz⟩
  go_wp2_with fail
  go_ret
  exact ⟨rfl, B9.out.trans (bz.mono B9.out.size)⟩

end Go.Proofs.Ytlndjjdggedljaa

/- MathD -/
namespace Go.Proofs.Ytlndjjdggedljaa

theorem sm_swap (f : Nat → Nat → Int) (n : Nat) : ∀ m : Nat, sm (fun u => sm (fun s => f s u) 0 n) 0 m = sm (fun s => sm (fun u => f s u) 0 m) 0 n := by
  intro m
  induction m with
  | zero => exact sm_zero.symm
  | succ m ih =>
    rw [sm_succ (Nat.zero_le _), ih, ← sm_add]
    exact sm_congr fun i _ _ => (sm_succ (Nat.zero_le _)).symm
theorem sm_from (g : Nat → Int) (s : Nat) : ∀ n : Nat, sm (fun u => if s ≤ u then g u else 0) 0 n = sm g s n := by
  intro n
  induction n with
  | zero => rfl
  | succ n ih =>
    rw [sm_succ (Nat.zero_le _), ih]
    by_cases h : s ≤ n
    · rw [sm_succ h, if_pos h]
    · rw [sm_ge (by omega), sm_ge (by omega), if_neg h]; rfl
theorem sm_tele (f : Nat → Int) : ∀ n : Nat, sm (fun u => f (u + 1) - f u) 0 n = f n - f 0 := by
  intro n
  induction n with
  | zero => simp [sm]
  | succ n ih => rw [sm_succ (Nat.zero_le _), ih]; omega

/-- z, held between a and b. -/
def clp (a b z : Int) : Int := if z < a then a else if b < z then b else z
theorem clp_sym {a b c d : Int} (h1 : a ≤ b) (h2 : c ≤ d) : clp a b d - clp a b c = clp c d b - clp c d a := by
  unfold clp
  repeat' split
  all_goals omega
theorem clp_low {a b z : Int} (h : z ≤ a) (h2 : a ≤ b) : clp a b z = a := by
  unfold clp
  repeat' split
  all_goals omega
theorem clp_high {a b z : Int} (h : b ≤ z) (h2 : a ≤ b) : clp a b z = b := by
  unfold clp
  repeat' split
  all_goals omega
theorem clp_in {a b : Int} (z : Int) (h2 : a ≤ b) : a ≤ clp a b z ∧ clp a b z ≤ b := by
  unfold clp
  repeat' split
  all_goals omega
theorem clp_mono {a b x z : Int} (h : x ≤ z) (h2 : a ≤ b) : clp a b x ≤ clp a b z := by
  unfold clp
  repeat' split
  all_goals omega

theorem Tk.stk_eq (t : Tk) (p : Nat → Int) (i : Nat) : t.stk p i = sm p 0 i - sm t.d 0 i := sm_sub p t.d 0 i
/-- How many of the units that are pumped in the hour s are for the hour u, first come, first served. -/
def Tk.fl (t : Tk) (p : Nat → Int) (s u : Nat) : Int := clp (sm p 0 s) (sm p 0 (s + 1)) (sm t.d 0 (u + 1)) - clp (sm p 0 s) (sm p 0 (s + 1)) (sm t.d 0 u)

section
variable {t : Tk} {n : Nat} {p v : Nat → Int}
theorem cum_le (p0 : ∀ i, i < n → 0 ≤ p i) {i : Nat} (h : i < n) : sm p 0 i ≤ sm p 0 (i + 1) := by
  rw [sm_succ (Nat.zero_le _)]
  have := p0 i h
  omega
theorem cum_mono (p0 : ∀ i, i < n → 0 ≤ p i) {i j : Nat} (hij : i ≤ j) (h : j ≤ n) : sm p 0 i ≤ sm p 0 j := sm_le (fun k _ hk => p0 k (by omega)) hij
theorem Tk.Right.p0 (r : t.Right p n) : ∀ i, i < n → 0 ≤ p i := fun i hi => (r.in_ i hi).1
theorem Tk.fl_sym (ok : t.Ok n) (r : t.Right p n) {s u : Nat} (hs : s < n) (hu : u < n) :
    t.fl p s u = clp (sm t.d 0 u) (sm t.d 0 (u + 1)) (sm p 0 (s + 1)) - clp (sm t.d 0 u) (sm t.d 0 (u + 1)) (sm p 0 s) :=
  clp_sym (cum_le r.p0 hs) (cum_le ok.d0 hu)
theorem Tk.fl_nonneg (ok : t.Ok n) (r : t.Right p n) {s u : Nat} (hs : s < n) (hu : u < n) : 0 ≤ t.fl p s u := by
  have := clp_mono (cum_le ok.d0 hu) (cum_le r.p0 hs)
  unfold Tk.fl
  omega
theorem Tk.fl_pump (r : t.Right p n) {s : Nat} (hs : s < n) : sm (t.fl p s) 0 n = p s := by
  have a := r.last
  rw [Tk.stk_eq] at a
  have c := cum_mono r.p0 (i := s + 1) (j := n) (by omega) (Nat.le_refl _)
  have c0 := cum_mono r.p0 (i := 0) (j := s) (by omega) (by omega)
  have e : sm (t.fl p s) 0 n = clp (sm p 0 s) (sm p 0 (s + 1)) (sm t.d 0 n) - clp (sm p 0 s) (sm p 0 (s + 1)) (sm t.d 0 0) :=
    sm_tele (fun u => clp (sm p 0 s) (sm p 0 (s + 1)) (sm t.d 0 u)) n
  have z0 : sm t.d 0 0 = 0 := rfl
  have z1 : sm p 0 0 = 0 := rfl
  rw [e, clp_high (by omega) (cum_le r.p0 hs), clp_low (by omega) (cum_le r.p0 hs), sm_succ (Nat.zero_le _)]
  omega
theorem Tk.fl_need (ok : t.Ok n) (r : t.Right p n) {u : Nat} (hu : u < n) : sm (fun s => t.fl p s u) 0 n = t.d u := by
  have a := r.last
  rw [Tk.stk_eq] at a
  have c := cum_mono ok.d0 (i := u + 1) (j := n) (by omega) (Nat.le_refl _)
  have c0 := cum_mono ok.d0 (i := 0) (j := u) (by omega) (by omega)
  have e : sm (fun s => t.fl p s u) 0 n = clp (sm t.d 0 u) (sm t.d 0 (u + 1)) (sm p 0 n) - clp (sm t.d 0 u) (sm t.d 0 (u + 1)) (sm p 0 0) := by
    rw [sm_congr fun s _ hs => Tk.fl_sym ok r hs hu]
    exact sm_tele (fun s => clp (sm t.d 0 u) (sm t.d 0 (u + 1)) (sm p 0 s)) n
  have z0 : sm t.d 0 0 = 0 := rfl
  have z1 : sm p 0 0 = 0 := rfl
  rw [e, clp_high (by omega) (cum_le ok.d0 hu), clp_low (by omega) (cum_le ok.d0 hu), sm_succ (Nat.zero_le _)]
  omega
theorem Tk.fl_late (ok : t.Ok n) (r : t.Right p n) {s u : Nat} (hs : s < n) (hu : u < s) : t.fl p s u = 0 := by
  have a := r.stk u (by omega)
  rw [Tk.stk_eq] at a
  have b := cum_mono r.p0 (i := u + 1) (j := s) (by omega) (by omega)
  have c := cum_le ok.d0 (i := u) (by omega)
  unfold Tk.fl
  rw [clp_low (by omega) (cum_le r.p0 hs), clp_low (by omega) (cum_le r.p0 hs)]
  omega
theorem Tk.fl_le (ok : t.Ok n) (r : t.Right p n) {s u : Nat} (hs : s < n) (hu : u < n) : t.fl p s u ≤ p s ∧ t.fl p s u ≤ t.d u := by
  have a := clp_in (sm t.d 0 (u + 1)) (cum_le r.p0 hs)
  have b := clp_in (sm t.d 0 u) (cum_le r.p0 hs)
  have c := clp_in (sm p 0 (s + 1)) (cum_le ok.d0 hu)
  have d := clp_in (sm p 0 s) (cum_le ok.d0 hu)
  refine ⟨?_, ?_⟩
  · have := sm_succ (f := p) (s := 0) (n := s) (Nat.zero_le _)
    unfold Tk.fl
    omega
  · have := sm_succ (f := t.d) (s := 0) (n := u) (Nat.zero_le _)
    rw [Tk.fl_sym ok r hs hu]
    omega
/-- What a start in s takes of the price of u. -/
def Tk.part (t : Tk) (p v : Nat → Int) (s u : Nat) : Int := if s ≤ u then (if 0 < p s then t.over v s u else 0) else 0
theorem Tk.part0 (t : Tk) (p v : Nat → Int) (s u : Nat) : 0 ≤ t.part p v s u := by
  unfold Tk.part
  repeat' split
  · exact t.over0 v s u
  · omega
  · omega
theorem Tk.flw0 (ok : t.Ok n) (r : t.Right p n) {s u : Nat} (hs : s < n) (hu : u < n) : 0 ≤ t.fl p s u * t.way s u := by
  by_cases h : s ≤ u
  · exact Int.mul_nonneg (Tk.fl_nonneg ok r hs hu) (ok.way0 h hu)
  · rw [Tk.fl_late ok r hs (by omega), Int.zero_mul]; omega
theorem Tk.one_price (ok : t.Ok n) (r : t.Right p n) (hv : t.Holds v n) {u : Nat} (hu : u < n) :
    v u ≤ sm (fun s => t.part p v s u + t.fl p s u * t.way s u) 0 n := by
  have d0 := ok.d0 u hu
  by_cases hd : t.d u = 0
  · rw [(hv u hu).1 hd]
    exact sm_nonneg fun s _ hs => by
      have := t.part0 p v s u
      have := Tk.flw0 ok r hs hu
      omega
  · refine Int.le_of_mul_le_mul_left (a := t.d u) ?_ (by omega)
    rw [← sm_mul]
    have e : t.d u * v u = sm (fun s => v u * t.fl p s u) 0 n := by
      rw [sm_mul, Tk.fl_need ok r hu, Int.mul_comm]
    rw [e]
    refine sm_mono fun s _ hs => ?_
    have f0 := Tk.fl_nonneg ok r hs hu
    have w0 := Tk.flw0 ok r hs hu
    have q0 := t.part0 p v s u
    by_cases hz : t.fl p s u = 0
    · rw [hz, Int.mul_zero, Int.zero_mul]
      exact Int.mul_nonneg d0 (by omega)
    · have hsu : s ≤ u := by
        by_cases h : s ≤ u
        · exact h
        · exact absurd (Tk.fl_late ok r hs (by omega)) hz
      obtain ⟨f1, f2⟩ := Tk.fl_le ok r hs hu
      have hp : 0 < p s := by omega
      have ep : t.part p v s u = t.over v s u := by unfold Tk.part; rw [if_pos hsu, if_pos hp]
      rw [ep]
      have o0 := t.over0 v s u
      have o1 := t.over_le v s u
      have m1 : v u * t.fl p s u ≤ (t.over v s u + t.d u * t.way s u) * t.fl p s u := Int.mul_le_mul_of_nonneg_right (by omega) f0
      have m2 : t.over v s u * t.fl p s u ≤ t.over v s u * t.d u := Int.mul_le_mul_of_nonneg_left f2 o0
      have m3 : (t.over v s u + t.d u * t.way s u) * t.fl p s u = t.over v s u * t.fl p s u + t.d u * (t.fl p s u * t.way s u) := by
        rw [Int.add_mul, Int.mul_assoc, Int.mul_comm (t.way s u)]
      rw [Int.mul_add, Int.mul_comm (t.d u) (t.over v s u)]
      omega
theorem Tk.parts_le (t : Tk) (hv : t.Holds v n) : sm (fun s => sm (fun u => t.part p v s u) 0 n) 0 n ≤ t.begs p n := by
  refine sm_mono fun s _ hs => ?_
  by_cases hp : 0 < p s
  · rw [if_pos hp]
    have e : sm (fun u => t.part p v s u) 0 n = t.above v s n := by
      have := sm_from (t.over v s) s n
      unfold Tk.above
      rw [← this]
      exact sm_congr fun u _ _ => by unfold Tk.part; rw [if_pos hp]
    rw [e]
    exact (hv s hs).2
  · rw [if_neg hp]
    have e : sm (fun u => t.part p v s u) 0 n = 0 := by
      rw [sm_congr (g := fun _ => 0) fun u _ _ => by unfold Tk.part; rw [if_neg hp]; split <;> rfl, sm_zero]
    omega
theorem Tk.abel (t : Tk) (p : Nat → Int) : ∀ n : Nat, sm (fun i => (i : Int) * t.d i) 0 n - sm (fun i => (i : Int) * p i) 0 n = sm (fun i => t.stk p (i + 1)) 0 n - (n : Int) * t.stk p n := by
  intro n
  induction n with
  | zero => simp [sm, Tk.stk]
  | succ n ih =>
    rw [sm_succ (Nat.zero_le _), sm_succ (Nat.zero_le _), sm_succ (Nat.zero_le _), Tk.stk_succ]
    have e1 : ((n + 1 : Nat) : Int) * (t.stk p n + (p n - t.d n)) = (n : Int) * t.stk p n + ((n : Int) * p n - (n : Int) * t.d n) + (t.stk p n + (p n - t.d n)) := by
      rw [Int.natCast_add, Int.add_mul, Int.mul_add, Int.mul_sub]
      simp
    rw [e1]
    omega
theorem Tk.ways_sum (ok : t.Ok n) (r : t.Right p n) : sm (fun s => sm (fun u => t.fl p s u * t.way s u) 0 n) 0 n = t.runs p n := by
  have e1 : ∀ s, s < n → sm (fun u => t.fl p s u * t.way s u) 0 n = (t.c s - t.h * (s : Int)) * p s + t.h * sm (fun u => (u : Int) * t.fl p s u) 0 n := by
    intro s hs
    rw [← Tk.fl_pump r hs, ← sm_mul, ← sm_mul, ← sm_add]
    refine sm_congr fun u _ _ => ?_
    unfold Tk.way
    rw [Int.mul_sub, Int.mul_comm (t.fl p s u), Int.mul_comm (u : Int), ← Int.mul_assoc]
    generalize t.fl p s u = f
    have : (t.c s + (t.h * (u : Int) - t.h * (s : Int))) = (t.c s - t.h * (s : Int)) + t.h * (u : Int) := by omega
    rw [this, Int.add_mul]
    have : t.h * (u : Int) * f = t.h * f * (u : Int) := by rw [Int.mul_assoc, Int.mul_comm (u : Int), Int.mul_assoc]
    omega
  rw [sm_congr fun s _ hs => e1 s hs, sm_add, sm_mul]
  have e2 : sm (fun s => sm (fun u => (u : Int) * t.fl p s u) 0 n) 0 n = sm (fun u => (u : Int) * t.d u) 0 n := by
    rw [← sm_swap (fun s u => (u : Int) * t.fl p s u) n n]
    exact sm_congr fun u _ hu => by rw [sm_mul, Tk.fl_need ok r hu]
  have e3 : sm (fun s => (t.c s - t.h * (s : Int)) * p s) 0 n = sm (fun s => t.c s * p s) 0 n - t.h * sm (fun s => (s : Int) * p s) 0 n := by
    rw [← sm_mul, ← sm_sub]
    exact sm_congr fun s _ _ => by rw [Int.sub_mul, Int.mul_assoc]
  have e4 : t.runs p n = sm (fun s => t.c s * p s) 0 n + t.h * sm (fun i => t.stk p (i + 1)) 0 n := by
    unfold Tk.runs
    rw [sm_add, sm_mul]
  have a := t.abel p n
  rw [r.last, Int.mul_zero] at a
  have e5 : t.h * sm (fun i => t.stk p (i + 1)) 0 n = t.h * sm (fun i => (i : Int) * t.d i) 0 n - t.h * sm (fun i => (i : Int) * p i) 0 n := by
    rw [← Int.mul_sub, a]
    congr 1
    omega
  rw [e2, e3, e4, e5]
  omega
/-- No right plan costs less than prices that hold are worth. -/
theorem Tk.Ok.weak (ok : t.Ok n) (r : t.Right p n) (hv : t.Holds v n) : sm v 0 n ≤ t.cost p n := by
  have a : sm v 0 n ≤ sm (fun u => sm (fun s => t.part p v s u + t.fl p s u * t.way s u) 0 n) 0 n := sm_mono fun u _ hu => Tk.one_price ok r hv hu
  rw [sm_swap (fun s u => t.part p v s u + t.fl p s u * t.way s u) n n] at a
  have e : sm (fun s => sm (fun u => t.part p v s u + t.fl p s u * t.way s u) 0 n) 0 n = sm (fun s => sm (fun u => t.part p v s u) 0 n) 0 n + sm (fun s => sm (fun u => t.fl p s u * t.way s u) 0 n) 0 n := by
    rw [← sm_add]
    exact sm_congr fun s _ _ => sm_add _ _ _ _
  rw [e, Tk.ways_sum ok r] at a
  have b := t.parts_le (p := p) hv
  unfold Tk.cost
  omega
/-- No right plan costs less than the least cost. -/
theorem Tk.Ok.least_le (ok : t.Ok n) (r : t.Right p n) : t.f n ≤ t.cost p n := by
  have := ok.weak r ok.holds
  rw [ok.worth] at this
  exact this
end

end Go.Proofs.Ytlndjjdggedljaa

/- WalkBo -/
namespace Go.Proofs.Ytlndjjdggedljaa
open Go.RowKit

theorem bounds_plan {K h : Int} {cs ds ps : List Int} (e2 : errT K h cs ds = 0) (e1 : errP K h cs ds ps = 0) :
    okv (errT K h cs ds) ((tk K h cs ds).f ds.length) ≤ okv (errP K h cs ds ps) ((tk K h cs ds).cost (pl ps) ds.length) := by
  rw [okv_zero e2, okv_zero e1]
  exact (errT_zero e2).tk.least_le (errP_right e1)
theorem bounds_price {K h : Int} {cs ds vs : List Int} (e2 : errT K h cs ds = 0) (e3 : errV K h cs ds vs = 0) :
    okv (errV K h cs ds vs) (sm (pl vs) 0 ds.length) ≤ okv (errT K h cs ds) ((tk K h cs ds).f ds.length) := by
  rw [okv_zero e2, okv_zero e3]
  exact (errT_zero e2).tk.worth_le (errV_zero e3).2.2 (Nat.le_refl _)
theorem bounds_both {K h : Int} {cs ds ps vs : List Int} (e1 : errP K h cs ds ps = 0) (e3 : errV K h cs ds vs = 0) :
    okv (errV K h cs ds vs) (sm (pl vs) 0 ds.length) ≤ okv (errP K h cs ds ps) ((tk K h cs ds).cost (pl ps) ds.length) := by
  rw [okv_zero e1, okv_zero e3]
  exact (errP_zero e1).1.tk.weak (errP_right e1) (errV_zero e3).2.2

set_option maxHeartbeats 4000000 in
theorem AirBounds_walk (K h : Int) (A : Option Addr) (n c : Nat) (cs : List Int) (A' : Option Addr) (n' c' : Nat) (ds : List Int) (P : Option Addr) (np pc : Nat) (ps : List Int) (V : Option Addr) (nv vc : Nat) (vs : List Int) (w : World)
    (hT : Tin w A n c cs A' n' c' ds) (hP : Row w P np pc ps) (hV : Row w V nv vc vs) :
    Calls Try.prog 7 #[.agg #[.int .i64 K, .int .i64 h, .slice A n c, .slice A' n' c'], .agg #[.slice P np pc, .slice V nv vc]] w fun e w' => e = .returned (.bool true) ∧ Below w.heap.size w w' := by
  have HT := hide hT
  have HPr := hide hP
  have HVr := hide hV
  have B0 := hide ((Below.refl w.heap.size w).alloc (Nat.le_refl _) (.cells #[.int .i64 K, .int .i64 h, .slice A n c, .slice A' n' c'] 24))
  have K0 := hide (Bk.born w 24 #[.int .i64 K, .int .i64 h, .slice A n c, .slice A' n' c'])
  have KC0 := hide (Bk.bornAt (w := w.alloc (.cells #[.int .i64 K, .int .i64 h, .slice A n c, .slice A' n' c'] 24)) (g := w.heap.size + 1) (t := 41) (cs := #[.slice P np pc, .slice V nv vc]) (by simp))
  replace K0 := hide (K0.out.more (.cells #[.slice P np pc, .slice V nv vc] 41))
  replace B0 := hide (B0.out.alloc (by simp) (.cells #[.slice P np pc, .slice V nv vc] 41))
  clear hT hP hV
  by_cases hL : 100 < n ∨ 100 < n'
  case pos =>
    go_enter Try.func7, Try.ntmps7
    go_wp2_with fail
    refine (Long_any K h _ n c cs _ n' c' ds _ (HT.out.below B0.out (Nat.le_refl _))).mono ?_
    rw [decide_eq_true hL]
    rintro e w1 ⟨rfl, b1⟩
    have B1 := hide (B0.out.trans (b1.mono B0.out.size))
    have K1 := hide (K0.out.keep b1 K0.out.in_)
    have KC1 := hide (KC0.out.keep b1 KC0.out.in_)
    clear b1
    go_wp2_with fail
    refine (known_any _).mono ?_
    rintro e wz ⟨rfl, bz⟩
    go_wp2_with fail
    go_ret
    exact ⟨rfl, B1.out.trans (bz.mono B1.out.size)⟩
  by_cases hL2 : 100 < np
  case pos =>
    go_enter Try.func7, Try.ntmps7
    go_wp2_with fail
    refine (Long_any K h _ n c cs _ n' c' ds _ (HT.out.below B0.out (Nat.le_refl _))).mono ?_
    rw [decide_eq_false hL]
    rintro e w1 ⟨rfl, b1⟩
    have B1 := hide (B0.out.trans (b1.mono B0.out.size))
    have K1 := hide (K0.out.keep b1 K0.out.in_)
    have KC1 := hide (KC0.out.keep b1 KC0.out.in_)
    clear b1
    obtain ⟨x0, x1, _, _, _⟩ := KC1.out.two
    go_wp2_with fail
    refine (large_any _ np pc ps _ (HPr.out.below B1.out (Nat.le_refl _))).mono ?_
    rw [decide_eq_true hL2]
    rintro e wq ⟨rfl, rfl⟩
    clear x0 x1
    go_wp2_with fail
    refine (known_any _).mono ?_
    rintro e wz ⟨rfl, bz⟩
    go_wp2_with fail
    go_ret
    exact ⟨rfl, B1.out.trans (bz.mono B1.out.size)⟩
  by_cases hL3 : 100 < nv
  case pos =>
    go_enter Try.func7, Try.ntmps7
    go_wp2_with fail
    refine (Long_any K h _ n c cs _ n' c' ds _ (HT.out.below B0.out (Nat.le_refl _))).mono ?_
    rw [decide_eq_false hL]
    rintro e w1 ⟨rfl, b1⟩
    have B1 := hide (B0.out.trans (b1.mono B0.out.size))
    have K1 := hide (K0.out.keep b1 K0.out.in_)
    have KC1 := hide (KC0.out.keep b1 KC0.out.in_)
    clear b1
    obtain ⟨x0, x1, _, _, _⟩ := KC1.out.two
    go_wp2_with fail
    refine (large_any _ np pc ps _ (HPr.out.below B1.out (Nat.le_refl _))).mono ?_
    rw [decide_eq_false hL2]
    rintro e wq ⟨rfl, rfl⟩
    clear x0 x1
    obtain ⟨x0, x1, _, _, _⟩ := KC1.out.two
    go_wp2_with fail
    refine (large_any _ nv vc vs _ (HVr.out.below B1.out (Nat.le_refl _))).mono ?_
    rw [decide_eq_true hL3]
    rintro e wq ⟨rfl, rfl⟩
    clear x0 x1
    go_wp2_with fail
    refine (known_any _).mono ?_
    rintro e wz ⟨rfl, bz⟩
    go_wp2_with fail
    go_ret
    exact ⟨rfl, B1.out.trans (bz.mono B1.out.size)⟩
  go_enter Try.func7, Try.ntmps7
  go_wp2_with fail
  refine (Long_any K h _ n c cs _ n' c' ds _ (HT.out.below B0.out (Nat.le_refl _))).mono ?_
  rw [decide_eq_false hL]
  rintro e w1 ⟨rfl, b1⟩
  have B1 := hide (B0.out.trans (b1.mono B0.out.size))
  have K1 := hide (K0.out.keep b1 K0.out.in_)
  have KC1 := hide (KC0.out.keep b1 KC0.out.in_)
  clear b1
  obtain ⟨x0, x1, _, _, _⟩ := KC1.out.two
  go_wp2_with fail
  refine (large_any _ np pc ps _ (HPr.out.below B1.out (Nat.le_refl _))).mono ?_
  rw [decide_eq_false hL2]
  rintro e wq ⟨rfl, rfl⟩
  clear x0 x1
  obtain ⟨x0, x1, _, _, _⟩ := KC1.out.two
  go_wp2_with fail
  refine (large_any _ nv vc vs _ (HVr.out.below B1.out (Nat.le_refl _))).mono ?_
  rw [decide_eq_false hL3]
  rintro e wq ⟨rfl, rfl⟩
  clear x0 x1
  obtain ⟨k0, k1, k2, k3, _⟩ := K1.out.four
  obtain ⟨x0, x1, _, _, _⟩ := KC1.out.two
  go_wp2_with fail
  refine (CheckPlan_any K h _ n c cs _ n' c' ds _ np pc ps _ (HT.out.below B1.out (Nat.le_refl _)) (HPr.out.below B1.out (Nat.le_refl _))).mono ?_
  rintro e w2 ⟨rfl, b2⟩
  have B2 := hide (B1.out.trans (b2.mono B1.out.size))
  have K2 := hide (K1.out.keep b2 K1.out.in_)
  have KC2 := hide (KC1.out.keep b2 KC1.out.in_)
  clear b2
  clear k0 k1 k2 k3 x0 x1
  obtain ⟨k0, k1, k2, k3, _⟩ := K2.out.four
  go_wp2_with fail
  refine (Least_any K h _ n c cs _ n' c' ds _ (HT.out.below B2.out (Nat.le_refl _))).mono ?_
  rintro e w3 ⟨rfl, b3⟩
  have B3 := hide (B2.out.trans (b3.mono B2.out.size))
  have K3 := hide (K2.out.keep b3 K2.out.in_)
  have KC3 := hide (KC2.out.keep b3 KC2.out.in_)
  clear b3
  clear k0 k1 k2 k3
  obtain ⟨k0, k1, k2, k3, _⟩ := K3.out.four
  obtain ⟨x0, x1, _, _, _⟩ := KC3.out.two
  go_wp2_with fail
  refine (CheckPrices_any K h _ n c cs _ n' c' ds _ nv vc vs _ (HT.out.below B3.out (Nat.le_refl _)) (HVr.out.below B3.out (Nat.le_refl _))).mono ?_
  rintro e w4 ⟨rfl, b4⟩
  have B4 := hide (B3.out.trans (b4.mono B3.out.size))
  have K4 := hide (K3.out.keep b4 K3.out.in_)
  have KC4 := hide (KC3.out.keep b4 KC3.out.in_)
  clear b4
  clear k0 k1 k2 k3 x0 x1
  have F1 := hide (bounds_plan (K := K) (h := h) (cs := cs) (ds := ds) (ps := ps))
  have F2 := hide (bounds_price (K := K) (h := h) (cs := cs) (ds := ds) (vs := vs))
  have F3 := hide (bounds_both (K := K) (h := h) (cs := cs) (ds := ds) (ps := ps) (vs := vs))
  generalize okv (errP K h cs ds ps) ((tk K h cs ds).cost (pl ps) ds.length) = c1 at *
  generalize okv (errT K h cs ds) ((tk K h cs ds).f ds.length) = c2 at *
  generalize okv (errV K h cs ds vs) (sm (pl vs) 0 ds.length) = c3 at *
  generalize errP K h cs ds ps = e1 at *
  generalize errT K h cs ds = e2 at *
  generalize errV K h cs ds vs = e3 at *
  by_cases h2 : e2 = 0
  case neg =>
    have h2' : (e2 != 0) = true := by simpa using h2
    go_wp2_with fail
    refine (known_any _).mono ?_
    rintro e wz ⟨rfl, bz⟩
    go_wp2_with fail
    go_ret
    exact ⟨rfl, B4.out.trans (bz.mono B4.out.size)⟩
  have h2' : (e2 != 0) = false := by simpa using h2
  by_cases h1 : e1 = 0
  · by_cases h3 : e3 = 0
    · have h1' : (e1 != 0) = false := by simpa using h1
      have h3' : (e3 != 0) = false := by simpa using h3
      have g1 := F1.out h2 h1
      have g2 := F2.out h2 h3
      have g3 := F3.out h1 h3
      go_wp2_with fail
      refine (known_any _).mono ?_
      rintro e wz ⟨rfl, bz⟩
      go_wp2_with fail
      go_ret
      exact ⟨rfl, B4.out.trans (bz.mono B4.out.size)⟩
    · have h1' : (e1 != 0) = false := by simpa using h1
      have h3' : (e3 != 0) = true := by simpa using h3
      have g1 := F1.out h2 h1
      go_wp2_with fail
      refine (known_any _).mono ?_
      rintro e wz ⟨rfl, bz⟩
      go_wp2_with fail
      go_ret
      exact ⟨rfl, B4.out.trans (bz.mono B4.out.size)⟩
  · by_cases h3 : e3 = 0
    · have h1' : (e1 != 0) = true := by simpa using h1
      have h3' : (e3 != 0) = false := by simpa using h3
      have g2 := F2.out h2 h3
      go_wp2_with fail
      refine (known_any _).mono ?_
      rintro e wz ⟨rfl, bz⟩
      go_wp2_with fail
      go_ret
      exact ⟨rfl, B4.out.trans (bz.mono B4.out.size)⟩
    · have h1' : (e1 != 0) = true := by simpa using h1
      have h3' : (e3 != 0) = true := by simpa using h3
      go_wp2_with fail
      refine (known_any _).mono ?_
      rintro e wz ⟨rfl, bz⟩
      go_wp2_with fail
      go_ret
      exact ⟨rfl, B4.out.trans (bz.mono B4.out.size)⟩

end Go.Proofs.Ytlndjjdggedljaa

/- WalkT -/
namespace Go.Proofs.Ytlndjjdggedljaa
open Go.RowKit

/-- The prices, as a list. -/
def Tk.pL (t : Tk) (n : Nat) : List Int := (List.range n).map t.p
theorem Tk.pL_len (t : Tk) (n : Nat) : (t.pL n).length = n := by simp [Tk.pL]
theorem Tk.pL_get (t : Tk) {n i : Nat} (h : i < n) : (t.pL n).getD i 0 = t.p i := by simp [Tk.pL, List.getD_eq_getElem?_getD, h]
/-- The least costs of the first hours, as a list. -/
def Tk.fL (t : Tk) (n : Nat) : List Int := (List.range (n + 1)).map t.f
theorem Tk.fL_len (t : Tk) (n : Nat) : (t.fL n).length = n + 1 := by simp [Tk.fL]
theorem Tk.fL_get (t : Tk) {n i : Nat} (h : i ≤ n) : (t.fL n).getD i 0 = t.f i := by simp [Tk.fL, List.getD_eq_getElem?_getD, show i < n + 1 by omega]
theorem kn_fL {t : Tk} {n : Nat} {cl ll : List Int} (h : Kn t n cl ll) (hl : cl.length = n + 1) : cl = t.fL n := by
  apply list_ext_getD (by rw [hl, Tk.fL_len])
  intro j hj
  rw [(h j (by omega)).1, Tk.fL_get _ (by omega)]

section
variable (K h : Int) (A : Option Addr) (n c : Nat) (cs : List Int) (A' : Option Addr) (n' c' : Nat) (ds : List Int) (w : World) (hT : Tin w A n c cs A' n' c' ds)
include hT
set_option maxHeartbeats 4000000 in
theorem Firsts_any : Calls Try.prog 34 #[.agg #[.int .i64 K, .int .i64 h, .slice A n c, .slice A' n' c']] w
      (ListPost (okl (errT K h cs ds) ((tk K h cs ds).fL ds.length)) (errT K h cs ds) w) := by
  have HT := hide hT
  have L1 := hT.1.length
  have L2 := hT.2.length
  have B0 := hide ((Below.refl w.heap.size w).alloc (Nat.le_refl _) (.cells #[.int .i64 K, .int .i64 h, .slice A n c, .slice A' n' c'] 24))
  have K0 := hide (Bk.born w 24 #[.int .i64 K, .int .i64 h, .slice A n c, .slice A' n' c'])
  clear hT
  by_cases he : errT K h cs ds = 0
  case neg =>
    have HE := hide he
    have he' : (errT K h cs ds != 0) = true := by simpa using he
    clear he
    go_enter Try.func34, Try.ntmps34
    go_wp2_with fail
    refine (Validate_any K h _ n c cs _ n' c' ds _ (HT.out.alloc _)).mono ?_
    rintro e w1 ⟨rfl, b1⟩
    go_wp2_with fail
    go_ret2
    exact ⟨none, 0, 0, rfl, by rw [okl_ne HE.out]; exact Own.nil _ _, B0.out.trans (b1.mono (by simp))⟩
  have o := errT_zero he
  have hn1 : 1 ≤ n' := by have := o.n1; omega
  have hn2 : n' ≤ 12 := by have := o.n2; omega
  obtain rfl : n = n' := by have := o.c.1; omega
  have OK := hide (by have := o.tk; rw [L2] at this; exact this)
  have HE := hide he
  have HN := hide L2
  have rt := run_table0
  clear o he L1 L2
  go_enter Try.func34, Try.ntmps34
  go_wp2_with fail
  refine (Validate_any K h _ n c cs _ n c' ds _ (HT.out.alloc _)).mono ?_
  rw [HE.out]
  rintro e w1 ⟨rfl, b1⟩
  have B1 := hide (B0.out.trans (b1.mono (by simp)))
  have K1 := hide (K0.out.keep b1 (by simp))
  obtain ⟨k0, k1, k2, k3, _⟩ := K1.out.four
  clear b1
  go_wp2_with fail
  refine (cheapest_any K h _ n c cs _ c' ds _ (HT.out.below B1.out (Nat.le_refl _)) OK.out hn1 hn2).mono ?_
  rintro e w2 ⟨gc, gl, cl, ll, rfl, oc, ol, kn, b2⟩
  obtain rfl := kn_fL kn oc.len
  have OC := hide oc
  clear oc ol kn
  go_wp2_with fail
  go_ret2
  exact ⟨_, _, _, by rw [HE.out]; rfl, by rw [okl_zero HE.out, HN.out]; exact OC.out.more B1.out.size, B1.out.trans (b2.mono B1.out.size)⟩

set_option maxHeartbeats 4000000 in
theorem Prices_any : Calls Try.prog 40 #[.agg #[.int .i64 K, .int .i64 h, .slice A n c, .slice A' n' c']] w
      (ListPost (okl (errT K h cs ds) ((tk K h cs ds).pL ds.length)) (errT K h cs ds) w) := by
  have HT := hide hT
  have L1 := hT.1.length
  have L2 := hT.2.length
  have B0 := hide ((Below.refl w.heap.size w).alloc (Nat.le_refl _) (.cells #[.int .i64 K, .int .i64 h, .slice A n c, .slice A' n' c'] 24))
  have K0 := hide (Bk.born w 24 #[.int .i64 K, .int .i64 h, .slice A n c, .slice A' n' c'])
  clear hT
  by_cases he : errT K h cs ds = 0
  case neg =>
    have HE := hide he
    have he' : (errT K h cs ds != 0) = true := by simpa using he
    clear he
    go_enter Try.func40, Try.ntmps40
    go_wp2_with fail
    refine (Validate_any K h _ n c cs _ n' c' ds _ (HT.out.alloc _)).mono ?_
    rintro e w1 ⟨rfl, b1⟩
    go_wp2_with fail
    go_ret2
    exact ⟨none, 0, 0, rfl, by rw [okl_ne HE.out]; exact Own.nil _ _, B0.out.trans (b1.mono (by simp))⟩
  have o := errT_zero he
  have hn1 : 1 ≤ n' := by have := o.n1; omega
  have hn2 : n' ≤ 12 := by have := o.n2; omega
  obtain rfl : n = n' := by have := o.c.1; omega
  have OK := hide (by have := o.tk; rw [L2] at this; exact this)
  have HE := hide he
  have HN := hide L2
  have rt := run_table0
  clear o he L1 L2
  go_enter Try.func40, Try.ntmps40
  go_wp2_with fail
  refine (Validate_any K h _ n c cs _ n c' ds _ (HT.out.alloc _)).mono ?_
  rw [HE.out]
  rintro e w1 ⟨rfl, b1⟩
  have B1 := hide (B0.out.trans (b1.mono (by simp)))
  have K1 := hide (K0.out.keep b1 (by simp))
  obtain ⟨k0, k1, k2, k3, _⟩ := K1.out.four
  clear b1
  go_wp2_with fail
  refine (cheapest_any K h _ n c cs _ c' ds _ (HT.out.below B1.out (Nat.le_refl _)) OK.out hn1 hn2).mono ?_
  rintro e w2 ⟨gc, gl, cl, ll, rfl, oc, ol, kn, b2⟩
  have B2 := hide (B1.out.trans (b2.mono B1.out.size))
  have K2 := hide (K1.out.keep b2 K1.out.in_)
  have OC := hide oc
  have KN := hide kn
  clear oc ol kn b2 k0 k1 k2 k3
  obtain ⟨k0, k1, k2, k3, _⟩ := K2.out.four
  go_wp2_with (at_make; refine wpList_mk _ rfl _ _ rfl w2.heap.size n rfl rfl (by omega) (Nat.le_refl _) ?_; intro w3 o3 b3 s3)
  have O3 := hide o3
  have S3 := hide s3
  have B3 := hide b3
  clear k0 k1 k2 k3 o3 s3 b3
  go_loopw [22] (fun i wr => ∃ k : Nat, k ≤ n ∧ i = .int .i64 k ∧ Own wr w2.heap.size (some ⟨w2.heap.size, 0, none⟩) n n (fillL (tk K h cs ds).p n k) ∧ Below w2.heap.size w2 wr) (fun i _ => n - (intOf i).toNat)
  case atStart => exact ⟨0, by omega, rfl, by rw [fillL_zero]; exact O3.out, B3.out⟩
  case round =>
    obtain ⟨k, hk, rfl, ho, hbel⟩ := hrel
    by_cases hlt : k < n
    · have oc' := OC.out.below hbel (Nat.le_refl _)
      have c0 := oc'.cell (k := k) (by omega)
      have c1 := oc'.cell (k := k + 1) (by omega)
      rw [(KN.out k (by omega)).1] at c0
      rw [(KN.out (k + 1) (by omega)).1] at c1
      have fz := ho.frozen k
      have cx := ho.cell hlt
      have a0 := OK.out.f0 (m := k) (by omega)
      have a1 := OK.out.f1 hn2 (m := k) (by omega)
      have a2 := OK.out.f0 (m := k + 1) (by omega)
      have a3 := OK.out.f1 hn2 (m := k + 1) (by omega)
      have HS := hide (fun x hx => fillL_set (f := (tk K h cs ds).p) (n := n) (k := k) (x := x) hlt hx)
      have HP := hide (show (tk K h cs ds).p k = (tk K h cs ds).f (k + 1) - (tk K h cs ds).f k from rfl)
      have HO := hide ho
      have HB := hide hbel
      clear oc' ho hbel
      generalize (tk K h cs ds).f k = x at *
      generalize (tk K h cs ds).f (k + 1) = y at *
      have w5 : IntKind.i64.wrap (y - x) = y - x := IntWalk.i64_in _ (by omega)
      have w6 : IntKind.i64.wrap ((k : Int) + 1) = (k : Int) + 1 := IntWalk.i64_in _ (by omega)
      have l0 : (0 : Int) ≤ (k : Int) + 1 := by omega
      have l1 : (k : Int) + 1 < n + 1 := by omega
      have l3 : ((k : Int) + 1).toNat = k + 1 := by omega
      have l4 : (k : Int) < n + 1 := by omega
      go_wp2_with fail
      go_region
      all_goals
        clear w5 w6
        go_wp2_with fail
        go_roundw
        case rel => exact ⟨k + 1, by omega, by go_num, by rw [← HS.out _ HP.out]; exact (HO.out.stored k _).drew, (HB.out.setCell (Nat.le_refl _) _).drew⟩
        case measure => simp [intOf]; omega
    · obtain rfl : k = n := by omega
      rw [fillL_all] at ho
      go_wp2_with fail
      go_ret2
      exact ⟨_, _, _, by rw [HE.out]; rfl, by rw [okl_zero HE.out]; (try rw [HN.out]); exact ho.more B2.out.size, B2.out.trans (hbel.mono B2.out.size)⟩
end

end Go.Proofs.Ytlndjjdggedljaa
