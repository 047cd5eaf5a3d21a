/- Overlap, on both sides; and Long. -/
import Derived.Test.YtpkjgnllkaafkaaSane
namespace Go.Proofs.Ytpkjgnllkaafkaa
open Go.RowKit

def inB (xs : Ls) (i : Int) : Bool := decide (0 ≤ i) && decide (i < xs.length)
theorem inB_iff {xs : Ls} {i : Int} : inB xs i = true ↔ 0 ≤ i ∧ i < xs.length := by simp [inB]
/-- The first error of shifts and numbers of some. -/
def errN (xs : Ls) (is : List Int) : Int := if errV xs = 0 then (if is.all (inB xs) = true then 0 else 4) else errV xs
theorem errN_v {xs : Ls} {is : List Int} (h : errV xs ≠ 0) : errN xs is = errV xs := if_neg h
theorem errN_ok {xs : Ls} {is : List Int} (h : errV xs = 0) (h2 : is.all (inB xs) = true) : errN xs is = 0 := by unfold errN; rw [if_pos h, if_pos h2]
theorem errN_no {xs : Ls} {is : List Int} (h : errV xs = 0) (h2 : ¬ is.all (inB xs) = true) : errN xs is = 4 := by unfold errN; rw [if_pos h, if_neg h2]
theorem errN_nz {xs : Ls} {is : List Int} (h : errN xs is = 0) : errV xs = 0 ∧ is.all (inB xs) = true := by
  by_cases h1 : errV xs = 0
  · by_cases h2 : is.all (inB xs) = true
    · exact ⟨h1, h2⟩
    · rw [errN_no h1 h2] at h; cases h
  · rw [errN_v h1] at h; exact absurd h h1
def InTo (xs : Ls) (is : List Int) (k : Nat) : Prop := ∀ i, i < k → inB xs (gi is i) = true
theorem inTo_succ {xs : Ls} {is : List Int} {k : Nat} (h : InTo xs is k) (h1 : inB xs (gi is k) = true) : InTo xs is (k + 1) := by
  intro i hi
  by_cases e : i = k
  · subst e; exact h1
  · exact h i (by omega)
theorem inTo_all {xs : Ls} {is : List Int} (h : InTo xs is is.length) : is.all (inB xs) = true := by
  rw [List.all_eq_true]
  intro x hx
  obtain ⟨i, hi, rfl⟩ := List.getElem_of_mem hx
  have := h i hi
  simpa [gi, List.getD_eq_getElem?_getD, hi] using this
theorem inTo_no {xs : Ls} {is : List Int} {k : Nat} (hk : k < is.length) (h : ¬ (0 ≤ gi is k ∧ gi is k < xs.length)) : ¬ is.all (inB xs) = true := by
  intro hh
  rw [List.all_eq_true] at hh
  exact h (inB_iff.1 (hh _ (gi_mem hk)))

set_option maxHeartbeats 1000000 in
theorem validateNumbers_any (A : Option Addr) (n c : Nat) (xs : Ls) (A' : Option Addr) (m c' : Nat) (is : List Int) (w : World) (h : R E3 w A n c xs) (hn : n ≤ 1000) (h' : R E1 w A' m c' is) (hm0 : 1 ≤ m) (hm : m ≤ 1000) :
    Calls Try.prog 58 #[.slice A n c, .slice A' m c'] w fun e w' => e = .returned (.int .i64 (errN xs is)) ∧ Below w.heap.size w w' := by
  have HLX := hide h.length
  have HLI := hide h'.length
  by_cases he : errV xs = 0
  · have HE := hide he
    have HR := hide h'
    clear he h'
    go_enter Try.func58, Try.ntmps58
    go_wp2_with (go_at_call 23; refine (Validate_any _ _ _ xs _ h hn).mono ?_; rintro e w1 ⟨rfl, b1⟩; rw [HE.out]; have HB1 := hide b1; clear b1)
    obtain ⟨b', off', hr⟩ := HR.out.below HB1.out (Nat.le_refl _)
    obtain rfl := hr.at_ (by omega)
    have hbl := hr.lt (by omega)
    have hcap := hr.cap
    have hmax := hr.max
    have HC := hide (fun k (hk : k < m) => c1 hr hk)
    clear hr
    go_loopw [15] (fun i wr => ∃ k : Nat, k ≤ m ∧ i = .int .i64 k ∧ w1 = wr ∧ Hid (InTo xs is k)) (fun i _ => m - (intOf i).toNat)
    case atStart => exact ⟨0, Nat.zero_le _, rfl, rfl, hide (fun i hi => by omega)⟩
    case round =>
      obtain ⟨k, hk, rfl, rfl, HT⟩ := hrel
      by_cases hlt : k < m
      · have a1 := HC.out k hlt
        have hx : ∃ x, gi is k = x := ⟨_, rfl⟩
        obtain ⟨x, hx⟩ := hx
        have hx' : is.getD k 0 = x := hx
        rw [hx'] at a1
        have HX := hide hx
        clear hx hx'
        by_cases hb : 0 ≤ x ∧ x < n
        · have HI := hide (inTo_succ HT.out (inB_iff.2 (by rw [HX.out, HLX.out]; exact hb)))
          obtain ⟨hb1, hb2⟩ := hb
          go_wp2_with fail
          go_roundw
          case rel => exact ⟨k + 1, by omega, by go_num, trivial, HI⟩
          case measure => simp [intOf]; omega
        · have HN := hide (errN_no HE.out (inTo_no (xs := xs) (is := is) (k := k) (by rw [HLI.out]; exact hlt) (by rw [HX.out, HLX.out]; exact hb)))
          by_cases hb1 : x < 0
          all_goals
            go_wp2_with fail
            all_goals first
              | omega
              | (go_ret; exact ⟨ret_i64 HN.out.symm, HB1.out⟩)
      · obtain rfl : k = m := by omega
        go_wp2_with fail
        go_ret
        exact ⟨ret_i64 (errN_ok HE.out (inTo_all (by rw [HLI.out]; exact HT.out))).symm, HB1.out⟩
  · have HN := hide (errN_v (is := is) he)
    have hne : (errV xs != 0) = true := by simpa using he
    clear he
    go_enter Try.func58, Try.ntmps58
    go_wp2_with (go_at_call 23; refine (Validate_any _ _ _ xs _ h hn).mono ?_; rintro e w1 ⟨rfl, b1⟩)
    go_ret
    exact ⟨ret_i64 HN.out.symm, b1⟩

set_option maxHeartbeats 1000000 in
theorem one_any (A : Option Addr) (n c : Nat) (xs : Ls) (i : Int) (w : World) (h : R E3 w A n c xs) (hn : n ≤ 1000) :
    Calls Try.prog 60 #[.slice A n c, .int .i64 i] w fun e w' => e = .returned (.int .i64 (errN xs [i])) ∧ Below w.heap.size w w' := by
  have HLX := hide h.length
  by_cases he : errV xs = 0
  · have HE := hide he
    have hw : IntKind.i64.wrap ((n : Int) - 1) = (n : Int) - 1 := IntWalk.i64_in _ (by omega)
    rcases withinB_dec i 0 ((n : Int) - 1) with ⟨h5, h6, h7⟩ | ⟨h5, h6⟩
    · have HN := hide (errN_ok (is := [i]) he (by simp [inB, HLX.out]; omega))
      have HW := hide h5
      clear he h5
      go_enter Try.func60, Try.ntmps60
      go_wp2_with (first | (go_at_call 24; refine (rValidate_any _ _ _ xs _ h hn).mono ?_; rintro e w1 ⟨rfl, b1⟩; rw [HE.out]) | (go_at_call 64; refine (within_any _ _ _ _).mono ?_; rintro e w' ⟨rfl, rfl⟩; rw [HW.out]))
      go_ret
      exact ⟨ret_i64 HN.out.symm, b1⟩
    · have HN := hide (errN_no (is := [i]) he (by simp [inB, HLX.out]; omega))
      have HW := hide h5
      clear he h5
      go_enter Try.func60, Try.ntmps60
      go_wp2_with (first | (go_at_call 24; refine (rValidate_any _ _ _ xs _ h hn).mono ?_; rintro e w1 ⟨rfl, b1⟩; rw [HE.out]) | (go_at_call 64; refine (within_any _ _ _ _).mono ?_; rintro e w' ⟨rfl, rfl⟩; rw [HW.out]))
      go_ret
      exact ⟨ret_i64 HN.out.symm, b1⟩
  · have HN := hide (errN_v (is := [i]) he)
    have hne : (errV xs != 0) = true := by simpa using he
    clear he
    go_enter Try.func60, Try.ntmps60
    go_wp2_with (go_at_call 24; refine (rValidate_any _ _ _ xs _ h hn).mono ?_; rintro e w1 ⟨rfl, b1⟩)
    go_ret
    exact ⟨ret_i64 HN.out.symm, b1⟩
set_option maxHeartbeats 1000000 in
theorem roverlap_any (f t p f' t' p' : Int) (ok : f < t ∧ f' < t') (w : World) :
    Calls Try.prog 61 #[.agg #[.int .i64 f, .int .i64 t, .int .i64 p], .agg #[.int .i64 f', .int .i64 t', .int .i64 p']] w fun e w' => e = .returned (.bool (ovB (f, t, p) (f', t', p'))) ∧ Below w.heap.size w w' := by
  obtain ⟨k1, k2⟩ := ok
  by_cases hm : f < f'
  · have HO : Hid (ovB (f, t, p) (f', t', p') = (runB (f, t, p) f' && runB (f', t', p') f')) := by
      refine hide ?_
      rw [Bool.eq_iff_iff, ovB_iff, Bool.and_eq_true, runB_iff, runB_iff]
      simp only
      omega
    cases hr : runB (f, t, p) f' with
    | true =>
      have HR := hide hr
      rw [hr, Bool.true_and] at HO
      clear hr
      go_enter Try.func61, Try.ntmps61
      go_wp2_with fail
      refine (rruns_any _ _ _ _ _).mono ?_
      rintro e w1 ⟨rfl, b1⟩
      rw [HR.out]
      have hK := (b1.block _ (by simp <;> omega)).trans (Bk.born (w.alloc (.cells #[.int .i64 f, .int .i64 t, .int .i64 p] 57)) 57 #[.int .i64 f', .int .i64 t', .int .i64 p'])
      have HK := hide (show Bk w1 (w.heap.size + 1) 57 #[.int .i64 f', .int .i64 t', .int .i64 p'] by rw [World.size_alloc] at hK; exact hK)
      have kk1 := HK.out.at_ 0
      have kk2 := HK.out.at_ 1
      have kk3 := HK.out.at_ 2
      have B1 := hide ((((Below.refl _ w).alloc (Nat.le_refl _) _).alloc (by simp) _).trans (b1.mono (by simp; omega)) : Below w.heap.size w w1)
      have hz := b1.size
      simp at hz
      clear b1 hK
      simp only [List.getElem?_toArray, List.getElem?_cons_zero, List.getElem?_cons_succ] at kk1 kk2 kk3
      go_wp2_with fail
      refine (rruns_any _ _ _ _ _).mono ?_
      rintro e w2 ⟨rfl, b2⟩
      go_wp2_with fail
      go_ret
      exact ⟨ret_bool HO.out.symm, B1.out.trans (b2.mono B1.out.size)⟩
    | false =>
      have HR := hide hr
      rw [hr, Bool.false_and] at HO
      clear hr
      go_enter Try.func61, Try.ntmps61
      go_wp2_with fail
      refine (rruns_any _ _ _ _ _).mono ?_
      rintro e w1 ⟨rfl, b1⟩
      rw [HR.out]
      go_wp2_with fail
      go_ret
      exact ⟨ret_bool HO.out.symm, (((Below.refl _ w).alloc (Nat.le_refl _) _).alloc (by simp) _).trans (b1.mono (by simp; omega))⟩
  · have HO : Hid (ovB (f, t, p) (f', t', p') = (runB (f, t, p) f && runB (f', t', p') f)) := by
      refine hide ?_
      rw [Bool.eq_iff_iff, ovB_iff, Bool.and_eq_true, runB_iff, runB_iff]
      simp only
      omega
    cases hr : runB (f, t, p) f with
    | true =>
      have HR := hide hr
      rw [hr, Bool.true_and] at HO
      clear hr
      go_enter Try.func61, Try.ntmps61
      go_wp2_with fail
      refine (rruns_any _ _ _ _ _).mono ?_
      rintro e w1 ⟨rfl, b1⟩
      rw [HR.out]
      have hK := (b1.block _ (by simp <;> omega)).trans (Bk.born (w.alloc (.cells #[.int .i64 f, .int .i64 t, .int .i64 p] 57)) 57 #[.int .i64 f', .int .i64 t', .int .i64 p'])
      have HK := hide (show Bk w1 (w.heap.size + 1) 57 #[.int .i64 f', .int .i64 t', .int .i64 p'] by rw [World.size_alloc] at hK; exact hK)
      have kk1 := HK.out.at_ 0
      have kk2 := HK.out.at_ 1
      have kk3 := HK.out.at_ 2
      have B1 := hide ((((Below.refl _ w).alloc (Nat.le_refl _) _).alloc (by simp) _).trans (b1.mono (by simp; omega)) : Below w.heap.size w w1)
      have hz := b1.size
      simp at hz
      clear b1 hK
      simp only [List.getElem?_toArray, List.getElem?_cons_zero, List.getElem?_cons_succ] at kk1 kk2 kk3
      go_wp2_with fail
      refine (rruns_any _ _ _ _ _).mono ?_
      rintro e w2 ⟨rfl, b2⟩
      go_wp2_with fail
      go_ret
      exact ⟨ret_bool HO.out.symm, B1.out.trans (b2.mono B1.out.size)⟩
    | false =>
      have HR := hide hr
      rw [hr, Bool.false_and] at HO
      clear hr
      go_enter Try.func61, Try.ntmps61
      go_wp2_with fail
      refine (rruns_any _ _ _ _ _).mono ?_
      rintro e w1 ⟨rfl, b1⟩
      rw [HR.out]
      go_wp2_with fail
      go_ret
      exact ⟨ret_bool HO.out.symm, (((Below.refl _ w).alloc (Nat.le_refl _) _).alloc (by simp) _).trans (b1.mono (by simp; omega))⟩
def LongPost (b : Bool) (w : World) (e : Ending) (w' : World) : Prop := e = .returned (.bool b) ∧ w = w'
set_option maxHeartbeats 400000 in
theorem Long0_any (A : Option Addr) (n c : Nat) (w : World) (b : Bool) (hb : decide (50 < n) = b) :
    Calls Try.prog 19 #[.slice A n c, .slice none 0 0] w (LongPost b w) := by
  have HB := hide hb
  clear hb
  go_enter Try.func19, Try.ntmps19
  go_wp2_with fail
  go_loopw [5] (fun i wr => i = .int .i64 0 ∧ w = wr) (fun i _ => 0)
  case atStart => exact ⟨rfl, rfl⟩
  case round =>
    obtain ⟨rfl, rfl⟩ := hrel
    go_wp2_with fail
    go_ret
    exact ⟨ret_bool (by rw [← HB.out]; simp; omega), rfl⟩
end Go.Proofs.Ytpkjgnllkaafkaa
