/- A log with one more sign: on both sides. -/
import Derived.Test.YtndfdminjegldaaIns
import Derived.Test.YtndfdminjegldaaWalkF
import Derived.Test.YtndfdminjegldaaMM
namespace Go.Proofs.Ytndfdminjegldaa
open Go.RowKit Go.Shelf
attribute [local go_sem] Oper.semAt_some

set_option maxHeartbeats 400000 in
theorem CloneI_any (A : Option Addr) (n c : Nat) (xs : List (Int)) (w : World) (h : R E1 w A n c xs) (hn : n ≤ 1000) :
    Calls Try.prog 79 #[.slice A n c] w (ClonePostI xs n w) := by
  have HR := hide h
  have HL := hide h.length
  have hq := fun W : World => Lib.run_eql_slice_nil (P := Try.prog) W 22 3 A n c 0 0 Try.underlying22
  cases A with
  | none =>
    have hn0 : n = 0 := by
      obtain ⟨b, off, hr⟩ := h
      rcases Nat.eq_zero_or_pos n with e | e
      · exact e
      · have := hr.at_ e; cases this
    subst hn0
    have hx0 := h.zero rfl
    have HX := hide hx0
    clear hx0 h
    go_enter Try.func79, Try.ntmps79
    go_wp2_with fail
    go_ret
    exact ⟨none, 0, rfl, by rw [HX.out]; exact Own.nil _ _ _ _, Below.refl _ _⟩
  | some ad =>
    clear h
    go_enter Try.func79, Try.ntmps79
    go_wp2_with (at_builtin; refine wpList_appN (E := E1) _ (.int .i64 0) 8 rfl (.tmp 5) (.tmp 6) 22 3 rfl Try.underlying22 info_int rfl (by decide) (by omega) w.heap.size 0 0 (some ⟨w.heap.size, 0, none⟩) [] ad n c xs rfl rfl (Own.lit w [] (Nat.le_refl _) (by simp)) (HR.out.below ((Below.refl _ w).alloc (Nat.le_refl _) _) (Nat.le_refl _)) (by omega) (by omega) (by simp) ?_; intro A1 c1 w1 hown hb hg; rw [Nat.zero_add] at hown ⊢)
    go_ret
    exact ⟨A1, c1, rfl, by simpa using hown, ((Below.refl _ _).alloc (Nat.le_refl _) _).trans hb⟩

section
variable {α : Type} {E : Enc α} {P : Program} (w : World) {ops : Array Oper} {rest : List Oper} {o : Oper} {a : Act} {Q : Exit → Act → World → Prop}
/-- out = append(out, xs...), xs any row. -/
theorem wpList_appG (z : Value) (bytes : Nat) (hgd : o.guard = none) (s x : Operand) (t e : TypeId) (ho : o.op = .call { callee := .builtin .append, args := #[s, x], argTypes := #[t, t] })
    (hu : P.underlying t = some (.slice e)) (hinfo : (P.info? e).map (fun i => (i.zero, i.size, i.bytes)) = some (some z, E.size, bytes)) (hz : z.cells.size = E.size) (hE : 0 < E.size) (hby : bytes ≤ 64)
    (B n c : Nat) (A : Option Addr) (l : List α) (A2 : Option Addr) (m c2 : Nat) (ys : List α) (hs : a.eval s = .slice A n c) (hx : a.eval x = .slice A2 m c2)
    (hown : Own E w B e A n c l) (hrow : R E w A2 m c2 ys) (hm2 : m ≤ 1000000) (hn : n ≤ 1000000) (hB : B ≤ w.heap.size)
    (h : ∀ A' c' w', Own E w' B e A' (n + m) c' (l ++ ys) → Below B w w' → wpList P ops Q rest (a.put o.dst (.slice A' (n + m) c')) w') :
    wpList P ops Q (o :: rest) a w := by
  by_cases hm : m = 0
  · subst hm
    obtain ⟨i0, hi, hz0, hz1, hz2⟩ := info_parts hinfo
    obtain rfl : ys = [] := List.eq_nil_of_length_eq_zero hrow.length
    have hrun : (Builtin.append_ #[t, t] o.type #[.slice A n c, .slice A2 0 c2]).run P w = .ok (.slice A n c) w := by
      rcases hown.form with ⟨rfl, rfl, rfl, _⟩ | ⟨g, rfl, _, _, hnc, _⟩
      · cases A2 <;> simp [Builtin.append_, run_underlying hu, sizeOf, typeInfo, hi, Builtin.lenOf, Builtin.firstCells, loadCells, loadCellsFrom, storeCells]
      · cases A2 <;> simp [Builtin.append_, run_underlying hu, sizeOf, typeInfo, hi, Builtin.lenOf, Builtin.firstCells, loadCells, loadCellsFrom, storeCells, hnc]
    refine wpList_plain hgd fun K hK => ?_
    unfold Oper.wp
    simp [execOp, ho, resolve, invoke, builtin, hs, hx, hrun, Result.andThen]
    exact hK _ _ (h _ _ w (by rw [List.append_nil]; exact hown) (Below.refl _ _))
  · have hA : ∃ ad, A2 = some ad := by
      obtain ⟨b, off, hr⟩ := hrow
      exact ⟨_, hr.at_ (by omega)⟩
    obtain ⟨ad, rfl⟩ := hA
    exact wpList_appN w z bytes hgd s x t e ho hu hinfo hz hE hby B n c A l ad m c2 ys hs hx hown hrow hm2 hn hB fun A' c' w' h1 h2 _ => h A' c' w' h1 h2
end

def insL (xs : List Int) (k : Nat) (x : Int) : List Int := xs.take k ++ x :: xs.drop k
def insOk (xs : List Int) (a x : Int) : Prop := (0 ≤ a ∧ a ≤ xs.length) ∧ sgB x = true
instance (xs : List Int) (a x : Int) : Decidable (insOk xs a x) := by unfold insOk; infer_instance
def insE (xs : List Int) (a x : Int) : Int := if errL xs = 0 then (if insOk xs a x then (if xs.length = 10 then 3 else 0) else 1) else errL xs
def insV (xs : List Int) (a x : Int) : List Int := if insE xs a x = 0 then insL xs a.toNat x else []
theorem insE_no {xs : List Int} {a x : Int} (h : errL xs ≠ 0) : insE xs a x = errL xs := if_neg h
theorem insE_arg {xs : List Int} {a x : Int} (h : errL xs = 0) (h1 : ¬ insOk xs a x) : insE xs a x = 1 := by unfold insE; rw [if_pos h, if_neg h1]
theorem insE_large {xs : List Int} {a x : Int} (h : errL xs = 0) (h1 : insOk xs a x) (h2 : xs.length = 10) : insE xs a x = 3 := by unfold insE; rw [if_pos h, if_pos h1, if_pos h2]
theorem insE_fine {xs : List Int} {a x : Int} (h : errL xs = 0) (h1 : insOk xs a x) (h2 : xs.length ≠ 10) : insE xs a x = 0 := by unfold insE; rw [if_pos h, if_pos h1, if_neg h2]
theorem insV_ok {xs : List Int} {a x : Int} (h : insE xs a x = 0) : insV xs a x = insL xs a.toNat x := if_pos h
theorem insV_no {xs : List Int} {a x : Int} (h : insE xs a x ≠ 0) : insV xs a x = [] := if_neg h
theorem insE_ok {xs : List Int} {a x : Int} (h : insE xs a x = 0) : errL xs = 0 ∧ insOk xs a x ∧ xs.length ≠ 10 := by
  unfold insE at h
  split at h
  · rename_i h1
    split at h
    · rename_i h2
      split at h
      · omega
      · rename_i h3; exact ⟨h1, h2, h3⟩
    · omega
  · contradiction
theorem insL_len {xs : List Int} {k : Nat} {x : Int} (h : k ≤ xs.length) : (insL xs k x).length = xs.length + 1 := by unfold insL; simp; omega
theorem insL_err {xs : List Int} {a x : Int} (h : insE xs a x = 0) : errL (insV xs a x) = 0 := by
  obtain ⟨h1, ⟨⟨h2, h3⟩, h4⟩, h5⟩ := insE_ok h
  rw [insV_ok h, errL_ok]
  have h6 := errL_ok.1 h1
  refine ⟨by rw [insL_len (by omega)]; omega, fun y hy => ?_⟩
  unfold insL at hy
  rw [List.mem_append, List.mem_cons] at hy
  rcases hy with hy | rfl | hy
  · exact h6.2 _ (List.mem_of_mem_take hy)
  · exact sgB_iff.1 h4
  · exact h6.2 _ (List.mem_of_mem_drop hy)
theorem insV_len (xs : List Int) (a x : Int) : (insV xs a x).length ≤ 10 := by
  by_cases h : insE xs a x = 0
  · exact (errL_ok.1 (insL_err h)).1
  · rw [insV_no h]; simp
def RowPost2 (er : Int) (l : List Int) (w : World) (e : Ending) (w' : World) : Prop := RowPost er l w e w'
set_option maxRecDepth 100000 in
set_option maxHeartbeats 8000000 in
theorem Insert_any (A : Option Addr) (n c : Nat) (xs : List Int) (a x : Int) (w : World) (h : R E1 w A n c xs) :
    Calls Try.prog 53 #[.slice A n c, .int .i64 a, .int .i64 x] w (RowPost (insE xs a x) (insV xs a x) w) := by
  have H := hide h
  have HL := hide h.length
  have hle := h.le
  by_cases he : errL xs = 0
  · have HE := hide he
    have hn : n ≤ 10 := by rw [← h.length]; exact (errL_ok.1 he).1
    by_cases ha0 : 0 ≤ a
    · obtain ⟨k, rfl⟩ : ∃ k : Nat, a = k := ⟨a.toNat, by omega⟩
      by_cases han : k ≤ n
      · have hkn : (k : Int) ≤ (n : Int) := by omega
        have HW1 := hide (show withinB (k : Int) 0 (n : Int) = true from withinB_true ha0 hkn)
        cases hsx : sgB x with
        | true =>
          have HSX := hide hsx
          have HW2 := hide ((sgB_within x).symm.trans hsx)
          have hok : insOk xs k x := ⟨⟨ha0, by rw [h.length]; exact hkn⟩, hsx⟩
          by_cases h10 : n = 10
          · have HT := hide (insE_large he hok (by rw [h.length]; exact h10))
            have HTV := hide (insV_no (xs := xs) (a := k) (x := x) (by rw [HT.out]; decide))
            have hnb : ((n : Int) == 10) = true := by simp; omega
            clear h he ha0 hsx hok h10
            go_enter Try.func53, Try.ntmps53
            go_wp2_with (first
              | (go_at_call 22; refine (Validate_any _ _ _ xs _ H.out).mono ?_; rintro e w1 ⟨rfl, rfl⟩; rw [HE.out])
              | (go_at_call 60; refine (isSign_any x _).mono ?_; rintro e w' ⟨rfl, rfl⟩; rw [HSX.out]))
            go_ret2
            exact ⟨none, 0, 0, by rw [HT.out]; rfl, by rw [HTV.out]; exact Own.nil _ _ _ _, Below.refl _ _⟩
          · have HT := hide (insE_fine he hok (by rw [h.length]; exact h10))
            have HTV := hide (show insV xs k x = insL xs k x from by rw [insV_ok HT.out]; rfl)
            have hnb : ((n : Int) == 10) = false := by simp; omega
            clear he ha0 hsx hok h10
            clear h
            go_enter Try.func53, Try.ntmps53
            go_wp2_with (first
              | (go_at_call 22; refine (Validate_any _ _ _ xs _ H.out).mono ?_; rintro e w1 ⟨rfl, rfl⟩; rw [HE.out])
              | (go_at_call 60; refine (isSign_any x _).mono ?_; rintro e w' ⟨rfl, rfl⟩; rw [HSX.out])
              | (go_at_call 79; refine (CloneI_any _ n c xs _ H.out (by omega)).mono ?_; rintro e w3 ⟨A3, c3, rfl, o3, b3⟩; have O3 := hide o3; have B3 := hide b3; have hg6 : w.heap.size ≤ w3.heap.size := b3.size; have hne3 : A3 ≠ some ⟨w3.heap.size, 0, none⟩ := (by intro e; rcases o3.form with ⟨h0, _⟩ | ⟨g, h0, _, hlt, _⟩; (· rw [h0] at e; cases e); (· rw [h0] at e; injection e with e; injection e with e; omega)); clear o3 b3)
              | (go_at_call 83; refine (InsertI_any _ w.heap.size n c3 k w3.heap.size x xs _ (O3.out.alloc _) (Own.lit w3 [x] hg6 (by unfold maxLen; simp)) hne3 han (by omega) (by simp; omega)).mono ?_; rintro e w4 ⟨A4, c4, rfl, o4, b4⟩; have O4 := hide (show Own E1 w4 w.heap.size 3 A4 (n + 1) c4 (insL xs k x) from o4); have B4 := hide ((B3.out.alloc hg6 _).trans b4); clear o4 b4))
            go_ret2
            exact ⟨_, _, _, by rw [HT.out]; rfl, by rw [HTV.out]; exact O4.out, B4.out⟩
        | false =>
          have HSX := hide hsx
          have HW2 := hide ((sgB_within x).symm.trans hsx)
          have hno : ¬ insOk xs k x := fun h => by rw [h.2] at hsx; cases hsx
          have HT := hide (insE_arg he hno)
          have HTV := hide (insV_no (xs := xs) (a := k) (x := x) (by rw [HT.out]; decide))
          clear h he ha0 hsx hno
          go_enter Try.func53, Try.ntmps53
          go_wp2_with (first
            | (go_at_call 22; refine (Validate_any _ _ _ xs _ H.out).mono ?_; rintro e w1 ⟨rfl, rfl⟩; rw [HE.out])
            | (go_at_call 60; refine (isSign_any x _).mono ?_; rintro e w' ⟨rfl, rfl⟩; rw [HSX.out]))
          go_ret2
          exact ⟨none, 0, 0, by rw [HT.out]; rfl, by rw [HTV.out]; exact Own.nil _ _ _ _, Below.refl _ _⟩
      · have hkn : (n : Int) < (k : Int) := by omega
        have HW1 := hide (show withinB (k : Int) 0 (n : Int) = false from withinB_false (.inr hkn))
        have hno : ¬ insOk xs k x := fun h' => by have := h'.1.2; rw [h.length] at this; omega
        have HT := hide (insE_arg he hno)
        have HTV := hide (insV_no (xs := xs) (a := k) (x := x) (by rw [HT.out]; decide))
        clear h he ha0 hno
        go_enter Try.func53, Try.ntmps53
        go_wp2_with (first
          | (go_at_call 22; refine (Validate_any _ _ _ xs _ H.out).mono ?_; rintro e w1 ⟨rfl, rfl⟩; rw [HE.out])
          | (go_at_call 60; refine (isSign_any x _).mono ?_; rintro e w' ⟨rfl, rfl⟩; rw [HSX.out]))
        go_ret2
        exact ⟨none, 0, 0, by rw [HT.out]; rfl, by rw [HTV.out]; exact Own.nil _ _ _ _, Below.refl _ _⟩
    · have ha1 : a < 0 := by omega
      have HW1 := hide (show withinB a 0 (n : Int) = false from withinB_false (.inl ha1))
      have hno : ¬ insOk xs a x := fun h' => ha0 h'.1.1
      have HT := hide (insE_arg he hno)
      have HTV := hide (insV_no (xs := xs) (a := a) (x := x) (by rw [HT.out]; decide))
      clear h he ha0 hno
      go_enter Try.func53, Try.ntmps53
      go_wp2_with (first
        | (go_at_call 22; refine (Validate_any _ _ _ xs _ H.out).mono ?_; rintro e w1 ⟨rfl, rfl⟩; rw [HE.out])
        | (go_at_call 60; refine (isSign_any x _).mono ?_; rintro e w' ⟨rfl, rfl⟩; rw [HSX.out]))
      go_ret2
      exact ⟨none, 0, 0, by rw [HT.out]; rfl, by rw [HTV.out]; exact Own.nil _ _ _ _, Below.refl _ _⟩
  · have HT := hide (insE_no (a := a) (x := x) he)
    have HTV := hide (insV_no (xs := xs) (a := a) (x := x) (by rw [HT.out]; exact he))
    have hne : (errL xs != 0) = true := by simpa using he
    clear h he
    go_enter Try.func53, Try.ntmps53
    go_wp2_with (go_at_call 22; refine (Validate_any _ _ _ xs _ H.out).mono ?_; rintro e w1 ⟨rfl, rfl⟩)
    go_ret2
    exact ⟨none, 0, 0, by rw [HT.out]; rfl, by rw [HTV.out]; exact Own.nil _ _ _ _, Below.refl _ _⟩
theorem RAt.rest {w : World} {n c b off : Nat} {xs : List Int} {t : Nat} (h : RAt E1 w (some ⟨b, off, none⟩) n c xs b off) (ht : t ≤ n) (hc : ¬ c = t) : R E1 w (some ⟨b, off + t, none⟩) (n - t) (c - t) (xs.drop t) := by
  have hl := h.len
  have := h.sub (i := t) (m := n - t) (by omega)
  rw [List.take_of_length_le (by rw [List.length_drop]; omega), show off + t * E1.size = off + t from by show off + t * 1 = _; omega] at this
  exact this
set_option maxRecDepth 100000 in
set_option maxHeartbeats 8000000 in
theorem rInsert_any (A : Option Addr) (n c : Nat) (xs : List Int) (a x : Int) (w : World) (h : R E1 w A n c xs) :
    Calls Try.prog 54 #[.slice A n c, .int .i64 a, .int .i64 x] w (RowPost (insE xs a x) (insV xs a x) w) := by
  have H := hide h
  have HL := hide h.length
  have hle := h.le
  by_cases he : errL xs = 0
  · have HE := hide he
    have hn : n ≤ 10 := by rw [← h.length]; exact (errL_ok.1 he).1
    by_cases ha0 : 0 ≤ a
    · obtain ⟨k, rfl⟩ : ∃ k : Nat, a = k := ⟨a.toNat, by omega⟩
      by_cases han : k ≤ n
      · have hkn : (k : Int) ≤ (n : Int) := by omega
        have HW1 := hide (show withinB (k : Int) 0 (n : Int) = true from withinB_true ha0 hkn)
        cases hsx : sgB x with
        | true =>
          have HSX := hide hsx
          have HW2 := hide ((sgB_within x).symm.trans hsx)
          have hok : insOk xs k x := ⟨⟨ha0, by rw [h.length]; exact hkn⟩, hsx⟩
          by_cases h10 : n = 10
          · have HT := hide (insE_large he hok (by rw [h.length]; exact h10))
            have HTV := hide (insV_no (xs := xs) (a := k) (x := x) (by rw [HT.out]; decide))
            have hnb : ((n : Int) == 10) = true := by simp; omega
            clear h he ha0 hsx hok h10
            go_enter Try.func54, Try.ntmps54
            go_wp2_with (first
              | (go_at_call 23; refine (rValidate_any _ _ _ xs _ H.out).mono ?_; rintro e w1 ⟨rfl, rfl⟩; rw [HE.out])
              | (go_at_call_of 58 (Value.int .i64 n); refine (within_any (k : Int) 0 n _).mono ?_; rintro e w' ⟨rfl, rfl⟩; rw [HW1.out]) | (go_at_call 58; refine (within_any x 0 5 _).mono ?_; rintro e w' ⟨rfl, rfl⟩; rw [HW2.out]))
            go_ret2
            exact ⟨none, 0, 0, by rw [HT.out]; rfl, by rw [HTV.out]; exact Own.nil _ _ _ _, Below.refl _ _⟩
          · have HT := hide (insE_fine he hok (by rw [h.length]; exact h10))
            have HTV := hide (show insV xs k x = insL xs k x from by rw [insV_ok HT.out]; rfl)
            have hnb : ((n : Int) == 10) = false := by simp; omega
            clear he ha0 hsx hok h10
            have HWL := hide (show insL xs k x = xs.take k ++ [x] ++ xs.drop k from by unfold insL; simp)
            have HP1 := hide ((h.front han).below ((Below.refl w.heap.size w).alloc (Nat.le_refl _) (.cells #[] 3)) (Nat.le_refl _))
            have hk0 : (0 : Int) ≤ (k : Int) := by omega
            have hkc : (k : Int) ≤ (c : Int) := by obtain ⟨_, _, hr⟩ := h; have := hr.cap; omega
            have hcm : c ≤ 9223372036854775807 := by obtain ⟨_, _, hr⟩ := h; exact hr.max
            by_cases hn0 : n = 0
            · have hd : xs.drop k = [] := by rw [List.drop_eq_nil_iff, HL.out]; omega
              have HPA := hide (fun (A2 : Option Addr) (c2 : Nat) (w' : World) (hc2 : c2 ≤ 9223372036854775807) => (show R E1 w' A2 (n - k) c2 (xs.drop k) from by rw [hd, show n - k = 0 by omega]; exact R.none _ _ hc2))
              clear h hd hn0
              by_cases hct : c = k
              · obtain rfl : k = c := hct.symm
                clear hct
                cases A
                all_goals
                  go_enter Try.func54, Try.ntmps54
                  go_wp2_with (first
                    | (go_at_call 23; refine (rValidate_any _ _ _ xs _ H.out).mono ?_; rintro e w1 ⟨rfl, rfl⟩; rw [HE.out])
                    | (go_at_call_of 58 (Value.int .i64 n); refine (within_any (k : Int) 0 n _).mono ?_; rintro e w' ⟨rfl, rfl⟩; rw [HW1.out]) | (go_at_call 58; refine (within_any x 0 5 _).mono ?_; rintro e w' ⟨rfl, rfl⟩; rw [HW2.out])
                    | (at_builtin; refine wpList_appX (E := E1) _ (.int .i64 0) 8 rfl (.tmp 28) (.tmp 31) 22 3 rfl Try.underlying22 info_int rfl (by decide) (by omega) w.heap.size w.heap.size _ _ _ (xs.take k) rfl rfl (Own.lit w [] (Nat.le_refl _) (by unfold maxLen; simp)) HP1.out (by omega) (by simp) ?_; intro A5 c5 w5 o5 b5; have O5 := hide o5; have B5 := hide (((Below.refl _ _).alloc (Nat.le_refl _) _).trans b5); have z5 : w.heap.size ≤ w5.heap.size := B5.out.size; clear o5 b5)
                    | (at_builtin; refine wpList_app1 (E := E1) w5 (.int .i64 0) 8 rfl (.tmp 32) (.tmp 34) 22 3 rfl Try.underlying22 info_int rfl (by decide) (by omega) w.heap.size _ _ _ (xs.take k) (x : Int) _ rfl rfl rfl O5.out (by omega) z5 ?_; intro A6 c6 w6 o6 b6 g6; have O6 := hide o6; have B6 := hide (B5.out.trans b6); have z6 : w.heap.size ≤ w6.heap.size := B6.out.size; clear o6 b6 g6)
                    | (at_builtin; refine wpList_appG (E := E1) w6 (.int .i64 0) 8 rfl (.tmp 36) (.tmp 39) 22 3 rfl Try.underlying22 info_int rfl (by decide) (by omega) w.heap.size _ _ _ _ _ _ _ (xs.drop k) rfl rfl O6.out (HPA.out _ _ _ (by omega)) (by omega) (by omega) z6 ?_; intro A7 c7 w7 o7 b7; have O7 := hide (show Own E1 w7 w.heap.size 3 A7 _ c7 (insL xs k x) from by rw [HWL.out]; exact o7); have B7 := hide (B6.out.trans b7); clear o7 b7))
                  go_ret2
                  exact ⟨_, _, _, by rw [HT.out]; rfl, by rw [HTV.out]; exact O7.out, B7.out⟩
              · cases A
                all_goals
                  go_enter Try.func54, Try.ntmps54
                  go_wp2_with (first
                    | (go_at_call 23; refine (rValidate_any _ _ _ xs _ H.out).mono ?_; rintro e w1 ⟨rfl, rfl⟩; rw [HE.out])
                    | (go_at_call_of 58 (Value.int .i64 n); refine (within_any (k : Int) 0 n _).mono ?_; rintro e w' ⟨rfl, rfl⟩; rw [HW1.out]) | (go_at_call 58; refine (within_any x 0 5 _).mono ?_; rintro e w' ⟨rfl, rfl⟩; rw [HW2.out])
                    | (at_builtin; refine wpList_appX (E := E1) _ (.int .i64 0) 8 rfl (.tmp 28) (.tmp 31) 22 3 rfl Try.underlying22 info_int rfl (by decide) (by omega) w.heap.size w.heap.size _ _ _ (xs.take k) rfl rfl (Own.lit w [] (Nat.le_refl _) (by unfold maxLen; simp)) HP1.out (by omega) (by simp) ?_; intro A5 c5 w5 o5 b5; have O5 := hide o5; have B5 := hide (((Below.refl _ _).alloc (Nat.le_refl _) _).trans b5); have z5 : w.heap.size ≤ w5.heap.size := B5.out.size; clear o5 b5)
                    | (at_builtin; refine wpList_app1 (E := E1) w5 (.int .i64 0) 8 rfl (.tmp 32) (.tmp 34) 22 3 rfl Try.underlying22 info_int rfl (by decide) (by omega) w.heap.size _ _ _ (xs.take k) (x : Int) _ rfl rfl rfl O5.out (by omega) z5 ?_; intro A6 c6 w6 o6 b6 g6; have O6 := hide o6; have B6 := hide (B5.out.trans b6); have z6 : w.heap.size ≤ w6.heap.size := B6.out.size; clear o6 b6 g6)
                    | (at_builtin; refine wpList_appG (E := E1) w6 (.int .i64 0) 8 rfl (.tmp 36) (.tmp 39) 22 3 rfl Try.underlying22 info_int rfl (by decide) (by omega) w.heap.size _ _ _ _ _ _ _ (xs.drop k) rfl rfl O6.out (HPA.out _ _ _ (by omega)) (by omega) (by omega) z6 ?_; intro A7 c7 w7 o7 b7; have O7 := hide (show Own E1 w7 w.heap.size 3 A7 _ c7 (insL xs k x) from by rw [HWL.out]; exact o7); have B7 := hide (B6.out.trans b7); clear o7 b7))
                  go_ret2
                  exact ⟨_, _, _, by rw [HT.out]; rfl, by rw [HTV.out]; exact O7.out, B7.out⟩
            · obtain ⟨b, off, hr⟩ := h
              obtain rfl := hr.at_ (by omega)
              by_cases hct : c = k
              · obtain rfl : k = c := hct.symm
                clear hct
                have hkk : k = n := by have := hr.cap; omega
                have hd : xs.drop k = [] := by rw [List.drop_eq_nil_iff, HL.out]; omega
                have HP2 := hide (show R E1 w (some ⟨b, off, none⟩) (n - k) 0 (xs.drop k) from by
                  rw [hd, show n - k = 0 by omega]; exact R.none _ _ (by omega))
                clear hr hd hkk
                go_enter Try.func54, Try.ntmps54
                go_wp2_with (first
                  | (go_at_call 23; refine (rValidate_any _ _ _ xs _ H.out).mono ?_; rintro e w1 ⟨rfl, rfl⟩; rw [HE.out])
                  | (go_at_call_of 58 (Value.int .i64 n); refine (within_any (k : Int) 0 n _).mono ?_; rintro e w' ⟨rfl, rfl⟩; rw [HW1.out]) | (go_at_call 58; refine (within_any x 0 5 _).mono ?_; rintro e w' ⟨rfl, rfl⟩; rw [HW2.out])
                  | (at_builtin; refine wpList_appX (E := E1) _ (.int .i64 0) 8 rfl (.tmp 28) (.tmp 31) 22 3 rfl Try.underlying22 info_int rfl (by decide) (by omega) w.heap.size w.heap.size _ _ _ (xs.take k) rfl rfl (Own.lit w [] (Nat.le_refl _) (by unfold maxLen; simp)) HP1.out (by omega) (by simp) ?_; intro A5 c5 w5 o5 b5; have O5 := hide o5; have B5 := hide (((Below.refl _ _).alloc (Nat.le_refl _) _).trans b5); have z5 : w.heap.size ≤ w5.heap.size := B5.out.size; clear o5 b5)
                  | (at_builtin; refine wpList_app1 (E := E1) w5 (.int .i64 0) 8 rfl (.tmp 32) (.tmp 34) 22 3 rfl Try.underlying22 info_int rfl (by decide) (by omega) w.heap.size _ _ _ (xs.take k) (x : Int) _ rfl rfl rfl O5.out (by omega) z5 ?_; intro A6 c6 w6 o6 b6 g6; have O6 := hide o6; have B6 := hide (B5.out.trans b6); have z6 : w.heap.size ≤ w6.heap.size := B6.out.size; have HP6 := hide (HP2.out.below B6.out (Nat.le_refl _)); clear o6 b6 g6)
                  | (at_builtin; refine wpList_appG (E := E1) w6 (.int .i64 0) 8 rfl (.tmp 36) (.tmp 39) 22 3 rfl Try.underlying22 info_int rfl (by decide) (by omega) w.heap.size _ _ _ _ _ _ _ (xs.drop k) rfl rfl O6.out HP6.out (by omega) (by omega) z6 ?_; intro A7 c7 w7 o7 b7; have O7 := hide (show Own E1 w7 w.heap.size 3 A7 _ c7 (insL xs k x) from by rw [HWL.out]; exact o7); have B7 := hide (B6.out.trans b7); clear o7 b7))
                go_ret2
                exact ⟨_, _, _, by rw [HT.out]; rfl, by rw [HTV.out]; exact O7.out, B7.out⟩
              · have HP2 := hide (hr.rest (t := k) han hct)
                clear hr
                go_enter Try.func54, Try.ntmps54
                go_wp2_with (first
                  | (go_at_call 23; refine (rValidate_any _ _ _ xs _ H.out).mono ?_; rintro e w1 ⟨rfl, rfl⟩; rw [HE.out])
                  | (go_at_call_of 58 (Value.int .i64 n); refine (within_any (k : Int) 0 n _).mono ?_; rintro e w' ⟨rfl, rfl⟩; rw [HW1.out]) | (go_at_call 58; refine (within_any x 0 5 _).mono ?_; rintro e w' ⟨rfl, rfl⟩; rw [HW2.out])
                  | (at_builtin; refine wpList_appX (E := E1) _ (.int .i64 0) 8 rfl (.tmp 28) (.tmp 31) 22 3 rfl Try.underlying22 info_int rfl (by decide) (by omega) w.heap.size w.heap.size _ _ _ (xs.take k) rfl rfl (Own.lit w [] (Nat.le_refl _) (by unfold maxLen; simp)) HP1.out (by omega) (by simp) ?_; intro A5 c5 w5 o5 b5; have O5 := hide o5; have B5 := hide (((Below.refl _ _).alloc (Nat.le_refl _) _).trans b5); have z5 : w.heap.size ≤ w5.heap.size := B5.out.size; clear o5 b5)
                  | (at_builtin; refine wpList_app1 (E := E1) w5 (.int .i64 0) 8 rfl (.tmp 32) (.tmp 34) 22 3 rfl Try.underlying22 info_int rfl (by decide) (by omega) w.heap.size _ _ _ (xs.take k) (x : Int) _ rfl rfl rfl O5.out (by omega) z5 ?_; intro A6 c6 w6 o6 b6 g6; have O6 := hide o6; have B6 := hide (B5.out.trans b6); have z6 : w.heap.size ≤ w6.heap.size := B6.out.size; have HP6 := hide (HP2.out.below B6.out (Nat.le_refl _)); clear o6 b6 g6)
                  | (at_builtin; refine wpList_appG (E := E1) w6 (.int .i64 0) 8 rfl (.tmp 36) (.tmp 39) 22 3 rfl Try.underlying22 info_int rfl (by decide) (by omega) w.heap.size _ _ _ _ _ _ _ (xs.drop k) rfl rfl O6.out HP6.out (by omega) (by omega) z6 ?_; intro A7 c7 w7 o7 b7; have O7 := hide (show Own E1 w7 w.heap.size 3 A7 _ c7 (insL xs k x) from by rw [HWL.out]; exact o7); have B7 := hide (B6.out.trans b7); clear o7 b7))
                go_ret2
                exact ⟨_, _, _, by rw [HT.out]; rfl, by rw [HTV.out]; exact O7.out, B7.out⟩
        | false =>
          have HSX := hide hsx
          have HW2 := hide ((sgB_within x).symm.trans hsx)
          have hno : ¬ insOk xs k x := fun h => by rw [h.2] at hsx; cases hsx
          have HT := hide (insE_arg he hno)
          have HTV := hide (insV_no (xs := xs) (a := k) (x := x) (by rw [HT.out]; decide))
          clear h he ha0 hsx hno
          go_enter Try.func54, Try.ntmps54
          go_wp2_with (first
            | (go_at_call 23; refine (rValidate_any _ _ _ xs _ H.out).mono ?_; rintro e w1 ⟨rfl, rfl⟩; rw [HE.out])
            | (go_at_call_of 58 (Value.int .i64 n); refine (within_any (k : Int) 0 n _).mono ?_; rintro e w' ⟨rfl, rfl⟩; rw [HW1.out]) | (go_at_call 58; refine (within_any x 0 5 _).mono ?_; rintro e w' ⟨rfl, rfl⟩; rw [HW2.out]))
          go_ret2
          exact ⟨none, 0, 0, by rw [HT.out]; rfl, by rw [HTV.out]; exact Own.nil _ _ _ _, Below.refl _ _⟩
      · have hkn : (n : Int) < (k : Int) := by omega
        have HW1 := hide (show withinB (k : Int) 0 (n : Int) = false from withinB_false (.inr hkn))
        have hno : ¬ insOk xs k x := fun h' => by have := h'.1.2; rw [h.length] at this; omega
        have HT := hide (insE_arg he hno)
        have HTV := hide (insV_no (xs := xs) (a := k) (x := x) (by rw [HT.out]; decide))
        clear h he ha0 hno
        go_enter Try.func54, Try.ntmps54
        go_wp2_with (first
          | (go_at_call 23; refine (rValidate_any _ _ _ xs _ H.out).mono ?_; rintro e w1 ⟨rfl, rfl⟩; rw [HE.out])
          | (go_at_call_of 58 (Value.int .i64 n); refine (within_any (k : Int) 0 n _).mono ?_; rintro e w' ⟨rfl, rfl⟩; rw [HW1.out]))
        go_ret2
        exact ⟨none, 0, 0, by rw [HT.out]; rfl, by rw [HTV.out]; exact Own.nil _ _ _ _, Below.refl _ _⟩
    · have ha1 : a < 0 := by omega
      have HW1 := hide (show withinB a 0 (n : Int) = false from withinB_false (.inl ha1))
      have hno : ¬ insOk xs a x := fun h' => ha0 h'.1.1
      have HT := hide (insE_arg he hno)
      have HTV := hide (insV_no (xs := xs) (a := a) (x := x) (by rw [HT.out]; decide))
      clear h he ha0 hno
      go_enter Try.func54, Try.ntmps54
      go_wp2_with (first
        | (go_at_call 23; refine (rValidate_any _ _ _ xs _ H.out).mono ?_; rintro e w1 ⟨rfl, rfl⟩; rw [HE.out])
        | (go_at_call_of 58 (Value.int .i64 n); refine (within_any a 0 n _).mono ?_; rintro e w' ⟨rfl, rfl⟩; rw [HW1.out]))
      go_ret2
      exact ⟨none, 0, 0, by rw [HT.out]; rfl, by rw [HTV.out]; exact Own.nil _ _ _ _, Below.refl _ _⟩
  · have HT := hide (insE_no (a := a) (x := x) he)
    have HTV := hide (insV_no (xs := xs) (a := a) (x := x) (by rw [HT.out]; exact he))
    have hne : (errL xs != 0) = true := by simpa using he
    clear h he
    go_enter Try.func54, Try.ntmps54
    go_wp2_with (go_at_call 23; refine (rValidate_any _ _ _ xs _ H.out).mono ?_; rintro e w1 ⟨rfl, rfl⟩)
    go_ret2
    exact ⟨none, 0, 0, by rw [HT.out]; rfl, by rw [HTV.out]; exact Own.nil _ _ _ _, Below.refl _ _⟩
end Go.Proofs.Ytndfdminjegldaa
