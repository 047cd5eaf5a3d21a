/- Walks of the document's own best row; Best on both sides; lists compared; known. -/
import Derived.Test.YtlmmkaadoicogaaWalkF
namespace Go.Proofs.Ytlmmkaadoicogaa
open Go.RowKit

theorem grown_setCell (w : World) (p : Addr) (u : Value) : w.grownBy (w.setCell p u) (some p.block) :=
  ⟨rfl, rfl, rfl, by simp [World.setCell], fun k _ hne => Below.heap_setCell w p u k (fun e => hne (by rw [e]))⟩
theorem Own.apart {w : World} {B n c : Nat} {e : TypeId} {A : Option Addr} {l : Rd} (h : Own w B e A n c l) {p : Addr} (hp : ∀ g, A = some ⟨g, 0, none⟩ → g ≠ p.block) (u : Value) : Own (w.setCell p u) B e A n c l := by
  refine h.kept (grown_setCell w p u) ?_
  rcases h.form with ⟨rfl, _⟩ | ⟨g, rfl, _⟩
  · left; rfl
  · right
    intro hh
    simp [Value.ownBlock] at hh
    exact hp g rfl hh
theorem Own.ltB {w : World} {B n c : Nat} {e : TypeId} {A : Option Addr} {l : Rd} (h : Own w B e A n c l) {b : Nat} (hb : w.heap.size ≤ b) : ∀ g, A = some ⟨g, 0, none⟩ → g ≠ b := by
  intro g hg
  rcases h.form with ⟨rfl, _⟩ | ⟨g', rfl, _, hlt, _⟩
  · cases hg
  · injection hg with hg; injection hg with hg; omega
theorem best_take {xs : Rd} {i : Nat} (hi' : i < xs.length) : (best xs).take (i + 1) = (best xs).take i ++ [(nu (mm (vq xs) (wq xs) xs.length i), de (mm (vq xs) (wq xs) xs.length i))] := by
  have hl : i < (best xs).length := by rw [best_len]; exact hi'
  rw [List.take_succ_eq_append_getElem hl]
  simp [best, bestR, rq]
set_option maxHeartbeats 2000000 in
theorem rbest_any (A : Option Addr) (n c : Nat) (xs : Rd) (w : World) (h : Row w A n c xs) (o : okH xs = true) (hn2 : n ≤ 12) :
    Calls Try.prog 66 #[.slice A n c] w fun e w' => ∃ A' c', e = .returned (.slice A' n c') ∧ Own w' w.heap.size 26 A' n c' (best xs) ∧ Below w.heap.size w w' := by
  have hlen := h.length
  have HR := hide h
  have H1 := hide hlen
  have O := hide o
  clear h hlen o
  go_enter Try.func66, Try.ntmps66
  go_wp2_with fail
  go_loopw [3, 4] (fun s t wr => ∃ (i : Nat) (A' : Option Addr) (c' : Nat), i ≤ n ∧ s = .slice A' i c' ∧ t = .int .i64 i ∧ Own wr w.heap.size 26 A' i c' ((best xs).take i) ∧ Below w.heap.size w wr) (fun _ t _ => n - (intOf t).toNat)
  case atStart => exact ⟨0, none, 0, Nat.zero_le _, rfl, rfl, Own.nil _ _ _, Below.refl _ _⟩
  case round =>
    obtain ⟨i, A', c', hi1, rfl, rfl, hown, hbel⟩ := hrel
    have HOWN := hide hown
    clear hown
    by_cases hlt : i < n
    · have hlx : i < xs.length := by rw [H1.out]; exact hlt
      have HROW := hide (HR.out.below hbel (Nat.le_refl _))
      go_wp2_with fail
      refine (highest_any _ _ _ xs 0 _ _ HROW.out O.out hn2 (Nat.zero_le _) hlt).mono ?_
      rintro e w1 ⟨rfl, hb1⟩
      have hown1 := hide (HOWN.out.below hb1 (Nat.le_refl _))
      have hbel1 := hbel.trans (hb1.mono hbel.size)
      clear HOWN hbel hb1
      obtain ⟨w0, rfl⟩ : ∃ wo : World, wo = w1 := ⟨_, rfl⟩
      have hz0 := hbel1.size
      go_wp2_with fail
      go_loopw [6] (fun s wr => ∃ k : Nat, k ≤ i ∧ s = .int .i64 ((k + 1 : Nat) : Int) ∧ Own wr w.heap.size 26 A' i c' ((best xs).take i) ∧
          Bk wr w0.heap.size 26 #[.int .i64 (nu (loTo (vq xs) (wq xs) n i k)), .int .i64 (de (loTo (vq xs) (wq xs) n i k))] ∧ Below w.heap.size w wr) (fun s _ => i + 1 - (intOf s).toNat)
      case atStart => exact ⟨0, Nat.zero_le _, rfl, hown1.out.alloc _, Bk.born _ _ _, hbel1.alloc hbel1.size _⟩
      case round =>
        obtain ⟨k, hk, rfl, hown, hacc, hbel⟩ := hrel
        obtain ⟨k0, k1, f0, f1, hsz⟩ := hacc.two
        have HOWN := hide hown
        have HACC := hide hacc
        clear hown hacc
        have sm := small_loTo O.out (by rw [H1.out]; exact hn2) hlx (k := k) hk
        rw [H1.out] at sm
        by_cases hka : k + 1 ≤ i
        · have sq := small_hi O.out (by rw [H1.out]; exact hn2) hka hlx
          rw [H1.out] at sq
          have hst : loTo (vq xs) (wq xs) n i (k + 1) = if lessB (hi (vq xs) (wq xs) n (k + 1) i) (loTo (vq xs) (wq xs) n i k) then hi (vq xs) (wq xs) n (k + 1) i else loTo (vq xs) (wq xs) n i k := rmin_step
          have HST := hide hst
          clear hst
          have HROW2 := hide (HR.out.below hbel (Nat.le_refl _))
          go_wp2_with fail
          refine (highest_any _ _ _ xs (k + 1) _ _ HROW2.out O.out hn2 hka hlt).mono ?_
          rintro e w3 ⟨rfl, hb3⟩
          have hacc3 := hide (HACC.out.keep hb3 hsz)
          have hown3 := hide (HOWN.out.below hb3 (Nat.le_refl _))
          have hbel3 := hbel.trans (hb3.mono hbel.size)
          clear k0 k1 f0 f1 hsz HACC HOWN hb3 hbel
          obtain ⟨k0, k1, f0, f1, hsz⟩ := hacc3.out.two
          generalize hp : loTo (vq xs) (wq xs) n i k = p at *
          generalize hq : hi (vq xs) (wq xs) n (k + 1) i = q at *
          have HP := hide hp
          have HQ := hide hq
          clear hp hq
          obtain ⟨p1, p2, p3, p4⟩ := sm
          obtain ⟨q1, q2, q3, q4⟩ := sq
          go_wp2_with fail
          refine (Less_any q p _ q1 (by omega) (by omega) p1 (by omega) (by omega)).mono ?_
          rintro e w4 ⟨rfl, hb4⟩
          have hacc4 := hide ((hacc3.out.more (.cells #[.int .i64 (nu q), .int .i64 (de q)] 26)).keep hb4 (by simp; omega))
          have hown4 := hide ((hown3.out.alloc (.cells #[.int .i64 (nu q), .int .i64 (de q)] 26)).below hb4 (by simp))
          have hnew4 := hide ((Bk.born w3 26 #[.int .i64 (nu q), .int .i64 (de q)]).keep hb4 (by simp))
          have hbel4 := (hbel3.alloc hbel3.size (.cells #[.int .i64 (nu q), .int .i64 (de q)] 26)).trans (hb4.mono (by have := hbel3.size; simp; omega))
          clear k0 k1 f0 f1 hacc3 hown3 hbel3 hb4
          obtain ⟨k0, k1, f0, f1, hsz3⟩ := hacc4.out.two
          obtain ⟨m0, m1, g0, g1, hsz2⟩ := hnew4.out.two
          cases hl : lessB q p with
          | true =>
            have HE : Hid (loTo (vq xs) (wq xs) n i (k + 1) = q) := by have := HST.out; rw [hl] at this; exact this
            clear HST hl
            go_wp2_with fail
            go_roundw
            case rel =>
              refine ⟨k + 1, by omega, by go_num, ?_, by rw [HE.out]; exact hacc4.out.set2, (hbel4.setCell (by omega) _).setCell (by omega) _⟩
              exact (hown4.out.apart (hown1.out.ltB (Nat.le_refl _)) _).apart (hown1.out.ltB (Nat.le_refl _)) _
            case measure => simp [intOf]; omega
          | false =>
            have HE : Hid (loTo (vq xs) (wq xs) n i (k + 1) = p) := by have := HST.out; rw [hl] at this; exact this
            clear HST hl
            go_wp2_with fail
            go_roundw
            case rel => exact ⟨k + 1, by omega, by go_num, hown4.out, by rw [HE.out]; exact hacc4.out, hbel4⟩
            case measure => simp [intOf]; omega
        · obtain rfl : k = i := by omega
          rw [show loTo (vq xs) (wq xs) n k k = mm (vq xs) (wq xs) n k from rfl] at *
          have hbt := best_take hlx
          rw [H1.out] at hbt
          have HBT := hide hbt
          clear hbt
          generalize mm (vq xs) (wq xs) n k = q at *
          go_wp2_with (at_builtin; refine wpList_app1 _ rfl (.tmp 30) (.tmp 32) 34 26 rfl Try.underlying34 info_rat w.heap.size k c' A' _ _ _ rfl rfl HOWN.out (by omega) hbel.size ?_; intro A2 c2 w5 hown5 hb5 hg5)
          go_roundw
          case rel => exact ⟨k + 1, A2, c2, by omega, rfl, by go_num, by rw [HBT.out]; exact hown5, hbel.trans hb5⟩
          case measure => simp [intOf]; omega
    · obtain rfl : i = n := by omega
      have e : (best xs).take i = best xs := List.take_of_length_le (by rw [best_len, H1.out]; exact Nat.le_refl _)
      have HO := HOWN.out
      rw [e] at HO
      have HO' := hide HO
      clear HO e HOWN
      go_wp2_with fail
      go_ret
      exact ⟨_, _, rfl, HO'.out, hbel⟩


/-- What Best returns: the row and the code, both sides. -/
def BestPost (B : Nat) (xs : Rd) (w : World) (e : Ending) (w' : World) : Prop :=
  ∃ A' n' c', e = .returned (.tuple #[.slice A' n' c', .int .i64 (errH xs)]) ∧ Own w' B 26 A' n' c' (if errH xs = 0 then best xs else []) ∧ Below B w w'
theorem errH_ne {xs : Rd} (h : errH xs ≠ 0) : (errH xs != 0) = true := by simp [h]
set_option maxHeartbeats 400000 in
theorem Best_any (A : Option Addr) (n c : Nat) (xs : Rd) (w : World) (h : Row w A n c xs) (hn2 : n ≤ 1000) :
    Calls Try.prog 26 #[.slice A n c] w (BestPost w.heap.size xs w) := by
  have HR := hide h
  have hl := h.length
  have hcap : n ≤ c ∧ c ≤ 9223372036854775807 := by obtain ⟨b, off, h1, hcap, hmax, h2, h3, h4⟩ := h; exact ⟨hcap, hmax⟩
  by_cases he : errH xs = 0
  · obtain ⟨e1, e2, e3⟩ := errH_zero he
    have l1 : 1 ≤ n := by omega
    have l2 : n ≤ 12 := by omega
    have HE := hide he
    clear h hl he e1 e2
    go_enter Try.func26, Try.ntmps26
    go_wp2_with fail
    refine (Validate_any _ _ _ xs _ HR.out (by omega)).mono ?_
    rw [HE.out]
    rintro e w1 ⟨rfl, hb1⟩
    have HROW := hide (HR.out.below hb1 (Nat.le_refl _))
    go_wp2_with fail
    refine (best_any _ _ _ xs _ HROW.out e3 l1 l2).mono ?_
    rintro e w2 ⟨A', c', rfl, hown, hb2⟩
    go_wp2_with fail
    go_ret2
    refine ⟨A', n, c', by rw [HE.out]; rfl, ?_, hb1.trans (hb2.mono hb1.size)⟩
    rw [if_pos HE.out]
    exact hown.more hb1.size
  · have he' := errH_ne he
    have HE := hide he
    clear h hl
    go_enter Try.func26, Try.ntmps26
    go_wp2_with fail
    refine (Validate_any _ _ _ xs _ HR.out (by omega)).mono ?_
    rintro e w1 ⟨rfl, hb1⟩
    go_wp2_with fail
    go_ret2
    refine ⟨none, 0, 0, rfl, ?_, hb1⟩
    rw [if_neg HE.out]
    exact Own.nil _ _ _
set_option maxHeartbeats 400000 in
theorem rBest_any (A : Option Addr) (n c : Nat) (xs : Rd) (w : World) (h : Row w A n c xs) (hn2 : n ≤ 1000) :
    Calls Try.prog 27 #[.slice A n c] w (BestPost w.heap.size xs w) := by
  have HR := hide h
  have hl := h.length
  by_cases he : errH xs = 0
  · obtain ⟨e1, e2, e3⟩ := errH_zero he
    have l2 : n ≤ 12 := by omega
    have HE := hide he
    clear h hl he e1 e2
    go_enter Try.func27, Try.ntmps27
    go_wp2_with fail
    refine (rValidate_any _ _ _ xs _ HR.out (by omega)).mono ?_
    rw [HE.out]
    rintro e w1 ⟨rfl, rfl⟩
    go_wp2_with fail
    refine (rbest_any _ _ _ xs _ HR.out e3 l2).mono ?_
    rintro e w2 ⟨A', c', rfl, hown, hb2⟩
    go_wp2_with fail
    go_ret2
    refine ⟨A', n, c', by rw [HE.out]; rfl, ?_, hb2⟩
    rw [if_pos HE.out]
    exact hown
  · have he' := errH_ne he
    have HE := hide he
    clear h hl
    go_enter Try.func27, Try.ntmps27
    go_wp2_with fail
    refine (rValidate_any _ _ _ xs _ HR.out (by omega)).mono ?_
    rintro e w1 ⟨rfl, rfl⟩
    go_wp2_with fail
    go_ret2
    refine ⟨none, 0, 0, rfl, ?_, Below.refl _ _⟩
    rw [if_neg HE.out]
    exact Own.nil _ _ _

def eqL (xs ys : Rd) : Bool := xs == ys
theorem eqL_self (xs : Rd) : eqL xs xs = true := by simp [eqL]
def EqTo (xs ys : Rd) (k : Nat) : Prop := ∀ j, j < k → xs.getD j (0, 0) = ys.getD j (0, 0)
theorem eqTo_zero (xs ys : Rd) : EqTo xs ys 0 := fun _ h => absurd h (Nat.not_lt_zero _)
theorem eqTo_succ {xs ys : Rd} {k : Nat} (h : EqTo xs ys k) (e : xs.getD k (0, 0) = ys.getD k (0, 0)) : EqTo xs ys (k + 1) := fun j hj => by
  by_cases hjk : j = k
  · subst hjk; exact e
  · exact h j (by omega)
theorem eqL_true {xs ys : Rd} (hl : xs.length = ys.length) (h : EqTo xs ys xs.length) : eqL xs ys = true := by
  have : xs = ys := List.ext_getElem hl fun j h1 h2 => by
    have := h j h1
    simpa [List.getD_eq_getElem?_getD, h1, h2] using this
  simp [eqL, this]
theorem eqL_false {xs ys : Rd} {k : Nat} (e : xs.getD k (0, 0) ≠ ys.getD k (0, 0)) : eqL xs ys = false := by
  cases h : eqL xs ys with
  | false => rfl
  | true =>
    have : xs = ys := by simpa [eqL] using h
    exact absurd (by rw [this]) e
theorem eqL_len {xs ys : Rd} (e : xs.length ≠ ys.length) : eqL xs ys = false := by
  cases h : eqL xs ys with
  | false => rfl
  | true =>
    have : xs = ys := by simpa [eqL] using h
    exact absurd (by rw [this]) e
set_option maxHeartbeats 1000000 in
theorem SameRats_any (A : Option Addr) (n c : Nat) (xs : Rd) (A2 : Option Addr) (n2 c2 : Nat) (ys : Rd) (w : World) (h : Row w A n c xs) (h2 : Row w A2 n2 c2 ys) :
    Calls Try.prog 30 #[.slice A n c, .slice A2 n2 c2] w fun e w' => e = .returned (.bool (eqL xs ys)) ∧ ∃ m, w' = w.drewN m := by
  have hl1 := h.length
  have hl2 := h2.length
  obtain ⟨b, off, h1, hcap, hmax, ha, hlt, hcell⟩ := h
  obtain ⟨b2, off2, h1', hcap2, hmax2, ha2, hlt2, hcell2⟩ := h2
  have H1 := hide hl1
  have H2 := hide hl2
  have HA := hide ha
  have HA2 := hide ha2
  have HC := hide hcell
  have HC2 := hide hcell2
  clear h1 ha hlt hcell h1' ha2 hlt2 hcell2 hl1 hl2
  by_cases hn : n = n2
  · subst hn
    go_enter Try.func30, Try.ntmps30
    go_wp2
    go_loopw [5] (fun i wr => ∃ k m : Nat, k ≤ n ∧ i = .int .i64 k ∧ EqTo xs ys k ∧ wr = w.drewN m) (fun i _ => n - (intOf i).toNat)
    case atStart => exact ⟨0, 0, Nat.zero_le _, rfl, eqTo_zero _ _, rfl⟩
    case round =>
      obtain ⟨k, m, hk, rfl, hrep, rfl⟩ := hrel
      by_cases hlt : k < n
      · obtain ⟨c1, c2⟩ := HC.out k hlt
        obtain ⟨d1, d2⟩ := HC2.out k hlt
        have hA := HA.out (by omega)
        have hA' := HA2.out (by omega)
        generalize hx : xs.getD k (0, 0) = x at c1 c2
        generalize hy : ys.getD k (0, 0) = y at d1 d2
        have HX := hide hx
        have HY := hide hy
        clear hx hy
        obtain ⟨x1, x2⟩ := x
        obtain ⟨y1, y2⟩ := y
        simp only at c1 c2 d1 d2
        subst hA hA'
        have hi : (k : Int) < (n : Int) := by omega
        by_cases e1 : x1 = y1
        · subst e1
          by_cases e2 : x2 = y2
          · subst e2
            go_wp2
            go_quiet (fail)
            go_wp2
            go_roundw
            case rel => exact ⟨k + 1, _, by omega, by go_num, eqTo_succ hrep (by rw [HX.out, HY.out]), rfl⟩
            case measure => simp [intOf]; omega
          · have b2 : (x2 != y2) = true := by simp [e2]
            have b2' : (x2 == y2) = false := by simp [e2]
            go_wp2
            go_quiet (fail)
            go_wp2
            go_ret
            exact ⟨ret_bool (eqL_false (k := k) (by rw [HX.out, HY.out]; simp [e2])).symm, _, World.drewN_drewN ..⟩
        · have b1 : (x1 != y1) = true := by simp [e1]
          have b1' : (x1 == y1) = false := by simp [e1]
          go_wp2
          go_quiet (fail)
          go_wp2
          go_ret
          exact ⟨ret_bool (eqL_false (k := k) (by rw [HX.out, HY.out]; simp [e1])).symm, _, World.drewN_drewN ..⟩
      · go_wp2
        go_ret
        exact ⟨ret_bool (eqL_true (by rw [H1.out, H2.out]) (by rw [H1.out, show n = k from by omega]; exact hrep)).symm, _, rfl⟩
  · go_enter Try.func30, Try.ntmps30
    go_wp2
    go_ret
    exact ⟨ret_bool (eqL_len (by rw [H1.out, H2.out]; exact hn)).symm, 0, rfl⟩


def kx : Rd := [(3, 1), (1, 1), (2, 1)]
theorem kx_best : best kx = [(3, 1), (3, 2), (3, 2)] := by decide +kernel
theorem kx_err : errH kx = 0 := by decide +kernel
theorem Row.of_bk {w : World} {g : Nat} {t : TypeId} {l : Rd} {n : Nat} (h : Bk w g t (cells2 l).toArray) (hl : l.length = n) (hm : n ≤ 1000) : Row w (some ⟨g, 0, none⟩) n n l := by
  subst hl
  refine ⟨g, 0, rfl, Nat.le_refl _, by omega, fun _ => rfl, fun _ => h.in_, fun k hk => ?_⟩
  obtain ⟨g1, g2⟩ := cells2_get l hk
  rw [Nat.zero_add, h.at_, h.at_]
  simp [g1, g2]
set_option maxHeartbeats 1000000 in
theorem known_any (w : World) : Calls Try.prog 19 #[] w fun e w' => e = .returned (.bool true) ∧ Below w.heap.size w w' := by
  go_enter Try.func19, Try.ntmps19
  go_wp2_with fail
  have hb0 : Bk (w.alloc (.cells (cells2 kx).toArray 51)) w.heap.size 51 (cells2 kx).toArray := Bk.born _ _ _
  have HROW := hide (Row.of_bk hb0 (show kx.length = 3 from rfl) (by omega))
  clear hb0
  refine (Best_any _ _ _ kx _ HROW.out (by omega)).mono ?_
  rintro e w1 ⟨A', n', c', rfl, hown, hb⟩
  rw [kx_err] at *
  rw [if_pos rfl, kx_best] at hown
  have hn : n' = 3 := hown.len.symm
  subst hn
  have HOWN := hide hown
  have hbel : Below w.heap.size w w1 := ((Below.refl _ _).alloc (Nat.le_refl _) _).trans (hb.mono (by simp))
  clear hown hb HROW
  go_wp2_with fail
  have hb0 : Bk (w1.alloc (.cells (cells2 [(3, 1), (3, 2), (3, 2)]).toArray 26)) w1.heap.size 26 (cells2 [(3, 1), (3, 2), (3, 2)]).toArray := Bk.born _ _ _
  have HROW := hide (Row.of_bk hb0 (show ([(3, 1), (3, 2), (3, 2)] : Rd).length = 3 from rfl) (by omega))
  clear hb0
  refine (SameRats_any _ _ _ _ _ _ _ _ _ (HOWN.out.alloc _).row HROW.out).mono ?_
  rintro e w2 ⟨rfl, m, rfl⟩
  rw [eqL_self]
  go_wp2_with fail
  go_ret
  exact ⟨rfl, below_drewN (hbel.alloc hbel.size _) _⟩

end Go.Proofs.Ytlmmkaadoicogaa
