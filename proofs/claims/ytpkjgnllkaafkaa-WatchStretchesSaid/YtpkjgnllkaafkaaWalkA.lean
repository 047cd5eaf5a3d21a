/- Walks of the small functions and of Validate, on both sides. -/
import Derived.Test.YtpkjgnllkaafkaaBase
namespace Go.Proofs.Ytpkjgnllkaafkaa
open Go.RowKit

def withinB (n lo hi : Int) : Bool := decide (lo ≤ n) && decide (n ≤ hi)
theorem withinB_true {n lo hi : Int} (h1 : lo ≤ n) (h2 : n ≤ hi) : withinB n lo hi = true := by simp [withinB, h1, h2]
theorem withinB_false {n lo hi : Int} (h : n < lo ∨ hi < n) : withinB n lo hi = false := by
  simp [withinB]; omega
theorem withinB_dec (n lo hi : Int) : withinB n lo hi = true ∧ lo ≤ n ∧ n ≤ hi ∨ withinB n lo hi = false ∧ ¬ (lo ≤ n ∧ n ≤ hi) := by
  by_cases h : lo ≤ n ∧ n ≤ hi
  · exact .inl ⟨withinB_true h.1 h.2, h⟩
  · exact .inr ⟨withinB_false (by omega), h⟩

set_option maxHeartbeats 400000 in
theorem within_any (n lo hi : Int) (w : World) :
    Calls Try.prog 64 #[.int .i64 n, .int .i64 lo, .int .i64 hi] w fun e w' => e = .returned (.bool (withinB n lo hi)) ∧ w = w' := by
  by_cases h1 : lo ≤ n
  · by_cases h2 : n ≤ hi
    · go_enter Try.func64, Try.ntmps64
      go_wp2
      go_ret
      exact ⟨ret_bool (withinB_true h1 h2).symm, rfl⟩
    · have h2' : hi < n := by omega
      go_enter Try.func64, Try.ntmps64
      go_wp2
      go_ret
      exact ⟨ret_bool (withinB_false (.inr h2')).symm, rfl⟩
  · have h1' : n < lo := by omega
    go_enter Try.func64, Try.ntmps64
    go_wp2
    go_ret
    exact ⟨ret_bool (withinB_false (.inl h1')).symm, rfl⟩

theorem runB_true {s : Sh} {m : Int} (h1 : s.1 ≤ m) (h2 : m < s.2.1) : runB s m = true := runB_iff.2 ⟨h1, h2⟩
theorem runB_false {s : Sh} {m : Int} (h : m < s.1 ∨ s.2.1 ≤ m) : runB s m = false := by
  rw [Bool.eq_false_iff]; intro hh; have := runB_iff.1 hh; omega
theorem ovB_true {s t : Sh} (h1 : s.1 < t.2.1) (h2 : t.1 < s.2.1) : ovB s t = true := ovB_iff.2 ⟨h1, h2⟩
theorem ovB_false {s t : Sh} (h : t.2.1 ≤ s.1 ∨ s.2.1 ≤ t.1) : ovB s t = false := by
  rw [Bool.eq_false_iff]; intro hh; have := ovB_iff.1 hh; omega

set_option maxHeartbeats 400000 in
theorem runs_any (f t p m : Int) (w : World) :
    Calls Try.prog 81 #[.agg #[.int .i64 f, .int .i64 t, .int .i64 p], .int .i64 m] w fun e w' => e = .returned (.bool (runB (f, t, p) m)) ∧ Below w.heap.size w w' := by
  by_cases h1 : f ≤ m
  · by_cases h2 : m < t
    · go_enter Try.func81, Try.ntmps81
      go_wp2
      go_ret
      exact ⟨ret_bool (runB_true h1 h2).symm, (Below.refl _ _).alloc (Nat.le_refl _) _⟩
    · have h2' : t ≤ m := by omega
      go_enter Try.func81, Try.ntmps81
      go_wp2
      go_ret
      exact ⟨ret_bool (runB_false (.inr h2')).symm, (Below.refl _ _).alloc (Nat.le_refl _) _⟩
  · have h1' : m < f := by omega
    go_enter Try.func81, Try.ntmps81
    go_wp2
    go_ret
    exact ⟨ret_bool (runB_false (.inl h1')).symm, (Below.refl _ _).alloc (Nat.le_refl _) _⟩
set_option maxHeartbeats 400000 in
theorem rruns_any (f t p m : Int) (w : World) :
    Calls Try.prog 82 #[.agg #[.int .i64 f, .int .i64 t, .int .i64 p], .int .i64 m] w fun e w' => e = .returned (.bool (runB (f, t, p) m)) ∧ Below w.heap.size w w' := by
  by_cases h1 : f ≤ m
  · by_cases h2 : m < t
    · go_enter Try.func82, Try.ntmps82
      go_wp2
      go_ret
      exact ⟨ret_bool (runB_true h1 h2).symm, (Below.refl _ _).alloc (Nat.le_refl _) _⟩
    · have h2' : t ≤ m := by omega
      go_enter Try.func82, Try.ntmps82
      go_wp2
      go_ret
      exact ⟨ret_bool (runB_false (.inr h2')).symm, (Below.refl _ _).alloc (Nat.le_refl _) _⟩
  · have h1' : m < f := by omega
    go_enter Try.func82, Try.ntmps82
    go_wp2
    go_ret
    exact ⟨ret_bool (runB_false (.inl h1')).symm, (Below.refl _ _).alloc (Nat.le_refl _) _⟩
set_option maxHeartbeats 400000 in
theorem overlap_any (f t p f' t' p' : Int) (w : World) :
    Calls Try.prog 59 #[.agg #[.int .i64 f, .int .i64 t, .int .i64 p], .agg #[.int .i64 f', .int .i64 t', .int .i64 p']] w fun e w' => e = .returned (.bool (ovB (f, t, p) (f', t', p'))) ∧ Below w.heap.size w w' := by
  by_cases h1 : f < t'
  · by_cases h2 : f' < t
    · go_enter Try.func59, Try.ntmps59
      go_wp2
      go_ret
      exact ⟨ret_bool (ovB_true h1 h2).symm, ((Below.refl _ _).alloc (Nat.le_refl _) _).alloc (by simp) _⟩
    · have h2' : t ≤ f' := by omega
      go_enter Try.func59, Try.ntmps59
      go_wp2
      go_ret
      exact ⟨ret_bool (ovB_false (.inr h2')).symm, ((Below.refl _ _).alloc (Nat.le_refl _) _).alloc (by simp) _⟩
  · have h1' : t' ≤ f := by omega
    go_enter Try.func59, Try.ntmps59
    go_wp2
    go_ret
    exact ⟨ret_bool (ovB_false (.inl h1')).symm, ((Below.refl _ _).alloc (Nat.le_refl _) _).alloc (by simp) _⟩

theorem okS_true {f t p : Int} (h : 0 ≤ f ∧ f < t ∧ t ≤ 1000 ∧ 0 ≤ p ∧ p ≤ 99) : okS (f, t, p) = true := okS_iff.2 h
theorem okS_false {f t p : Int} (h : ¬ (0 ≤ f ∧ f < t ∧ t ≤ 1000 ∧ 0 ≤ p ∧ p ≤ 99)) : okS (f, t, p) = false := by
  rw [Bool.eq_false_iff]; intro hh; exact h (okS_iff.1 hh)
set_option maxHeartbeats 400000 in
theorem right_any (f t p : Int) (w : World) :
    Calls Try.prog 62 #[.agg #[.int .i64 f, .int .i64 t, .int .i64 p]] w fun e w' => e = .returned (.bool (okS (f, t, p))) ∧ Below w.heap.size w w' := by
  rcases withinB_dec p 0 99 with ⟨h5, h6, h7⟩ | ⟨h5, h6⟩
  all_goals
    go_enter Try.func62, Try.ntmps62
    go_wp2_with (go_at_call 64; refine (within_any _ _ _ _).mono ?_; rintro e w' ⟨rfl, rfl⟩)
    all_goals
      go_ret
      refine ⟨?_, (Below.refl _ _).alloc (Nat.le_refl _) _⟩
      first
        | (refine ret_bool (okS_true ?_).symm; omega)
        | (refine ret_bool (okS_false ?_).symm; omega)

/-- The first k are right. -/
def OkTo (xs : Ls) (k : Nat) : Prop := ∀ i, i < k → okS (xs.getD i sh0) = true
theorem okTo_zero (xs : Ls) : OkTo xs 0 := fun i h => by omega
theorem okTo_succ {xs : Ls} {k : Nat} (h : OkTo xs k) (h1 : okS (xs.getD k sh0) = true) : OkTo xs (k + 1) := by
  intro i hi
  by_cases e : i = k
  · subst e; exact h1
  · exact h i (by omega)
theorem okTo_all {xs : Ls} (h : OkTo xs xs.length) : ∀ s ∈ xs, okS s = true := by
  intro s hs
  obtain ⟨i, hi, rfl⟩ := List.getElem_of_mem hs
  have := h i hi
  simpa [List.getD_eq_getElem?_getD, hi] using this
theorem errV_large {xs : Ls} (h : 12 < xs.length) : errV xs = 3 := by unfold errV; rw [if_pos h]
theorem errV_fine {xs : Ls} (hl : xs.length ≤ 12) (h : OkTo xs xs.length) : errV xs = 0 := errV_ok.2 ⟨hl, okTo_all h⟩
theorem errV_arg {xs : Ls} (hl : xs.length ≤ 12) {k : Nat} (hk : k < xs.length) (h : okS (xs.getD k sh0) = false) : errV xs = 1 := by
  unfold errV
  rw [if_neg (by omega), if_neg]
  intro hh
  rw [List.all_eq_true] at hh
  have := hh _ (List.getElem_mem hk)
  rw [List.getD_eq_getElem?_getD, List.getElem?_eq_getElem hk] at h
  simp at h
  rw [h] at this
  cases this

set_option maxHeartbeats 1000000 in
theorem Validate_any (A : Option Addr) (n c : Nat) (xs : Ls) (w : World) (h : R E3 w A n c xs) (hn2 : n ≤ 1000) :
    Calls Try.prog 23 #[.slice A n c] w fun e w' => e = .returned (.int .i64 (errV xs)) ∧ Below w.heap.size w w' := by
  obtain ⟨b, off, hr⟩ := h
  have H1 := hide hr.len
  by_cases hb : 12 < n
  · go_enter Try.func23, Try.ntmps23
    go_wp2
    go_ret
    exact ⟨ret_i64 (errV_large (by rw [H1.out]; omega)).symm, Below.refl _ _⟩
  · by_cases ha : n < 1
    · obtain rfl : n = 0 := by omega
      go_enter Try.func23, Try.ntmps23
      go_wp2
      go_loopw [10] (fun i wr => i = .int .i64 0 ∧ Below w.heap.size w wr) (fun i _ => 0)
      case atStart => exact ⟨rfl, Below.refl _ _⟩
      case round =>
        obtain ⟨rfl, hbel⟩ := hrel
        go_wp2
        go_ret
        exact ⟨ret_i64 (by rw [errV_fine (by rw [H1.out]; omega) (by rw [H1.out]; exact okTo_zero _)]), hbel⟩
    · have H4 := hide hr
      obtain rfl := hr.at_ (by omega)
      have HL := hide (hr.lt (by omega))
      clear hr
      go_enter Try.func23, Try.ntmps23
      go_wp2
      go_loopw [10] (fun i wr => ∃ k : Nat, k ≤ n ∧ i = .int .i64 k ∧ OkTo xs k ∧ Below w.heap.size w wr) (fun i _ => n - (intOf i).toNat)
      case atStart => exact ⟨0, Nat.zero_le _, rfl, okTo_zero _, Below.refl _ _⟩
      case round =>
        obtain ⟨k, hk, rfl, hrep, hbel⟩ := hrel
        by_cases hlt : k < n
        · obtain ⟨hc1, hc2, hc3⟩ := c3 (H4.out.under hbel fun _ => HL.out) hlt
          generalize hx : xs.getD k sh0 = x at hc1 hc2 hc3
          obtain ⟨x1, x2, x3⟩ := x
          simp only at hc1 hc2 hc3
          have HX := hide hx
          clear hx
          go_wp2
          all_goals first
            | (go_ret; exact ⟨ret_i64 (errV_arg (by rw [H1.out]; omega) (k := k) (by rw [H1.out]; exact hlt) (by rw [HX.out]; exact okS_false (by omega))).symm, hbel.alloc hbel.size _⟩)
            | skip
          go_roundw
          case rel => exact ⟨k + 1, by omega, by go_num, okTo_succ hrep (by rw [HX.out]; exact okS_true (by omega)), hbel.alloc hbel.size _⟩
          case measure => simp [intOf]; omega
        · go_wp2
          go_ret
          exact ⟨ret_i64 (by rw [errV_fine (by rw [H1.out]; omega) (by rw [H1.out, show n = k from by omega]; exact hrep)]), hbel⟩

theorem R.zero {α : Type} {E : Enc α} {w : World} {A : Option Addr} {n c : Nat} {xs : List α} (h : R E w A n c xs) (hn : n = 0) : xs = [] := List.eq_nil_of_length_eq_zero (by rw [h.length]; exact hn)

set_option maxHeartbeats 1000000 in
theorem rValidate_any (A : Option Addr) (n c : Nat) (xs : Ls) (w : World) (h : R E3 w A n c xs) (hn2 : n ≤ 1000) :
    Calls Try.prog 24 #[.slice A n c] w fun e w' => e = .returned (.int .i64 (errV xs)) ∧ Below w.heap.size w w' := by
  obtain ⟨b, off, hr⟩ := h
  have H1 := hide hr.len
  by_cases hb : 12 < n
  · go_enter Try.func24, Try.ntmps24
    go_wp2
    go_ret
    exact ⟨ret_i64 (errV_large (by rw [H1.out]; omega)).symm, Below.refl _ _⟩
  · by_cases ha : n < 1
    · obtain rfl : n = 0 := by omega
      go_enter Try.func24, Try.ntmps24
      go_wp2
      go_loopw [3] (fun i wr => i = .int .i64 0 ∧ Below w.heap.size w wr) (fun i _ => 0)
      case atStart => exact ⟨rfl, Below.refl _ _⟩
      case round =>
        obtain ⟨rfl, hbel⟩ := hrel
        go_wp2
        go_ret
        exact ⟨ret_i64 (by rw [errV_fine (by rw [H1.out]; omega) (by rw [H1.out]; exact okTo_zero _)]), hbel⟩
    · have H4 := hide hr
      obtain rfl := hr.at_ (by omega)
      have HL := hide (hr.lt (by omega))
      clear hr
      go_enter Try.func24, Try.ntmps24
      go_wp2
      go_loopw [3] (fun i wr => ∃ k : Nat, k ≤ n ∧ i = .int .i64 k ∧ OkTo xs k ∧ Below w.heap.size w wr) (fun i _ => n - (intOf i).toNat)
      case atStart => exact ⟨0, Nat.zero_le _, rfl, okTo_zero _, Below.refl _ _⟩
      case round =>
        obtain ⟨k, hk, rfl, hrep, hbel⟩ := hrel
        by_cases hlt : k < n
        · obtain ⟨hc1, hc2, hc3⟩ := c3 (H4.out.under hbel fun _ => HL.out) hlt
          generalize hx : xs.getD k sh0 = x at hc1 hc2 hc3
          obtain ⟨x1, x2, x3⟩ := x
          simp only at hc1 hc2 hc3
          have HX := hide hx
          clear hx
          by_cases hok : okS (x1, x2, x3) = true
          · go_wp2_with (go_at_call 62; refine (right_any _ _ _ _).mono ?_; rintro e w' ⟨rfl, hb'⟩)
            go_roundw
            case rel => exact ⟨k + 1, by omega, by go_num, okTo_succ hrep (by rw [HX.out]; exact hok), hbel.trans (hb'.mono hbel.size)⟩
            case measure => simp [intOf]; omega
          · have hok : okS (x1, x2, x3) = false := by simpa using hok
            go_wp2_with (go_at_call 62; refine (right_any _ _ _ _).mono ?_; rintro e w' ⟨rfl, hb'⟩)
            go_ret
            exact ⟨ret_i64 (errV_arg (by rw [H1.out]; omega) (k := k) (by rw [H1.out]; exact hlt) (by rw [HX.out]; exact hok)).symm, hbel.trans (hb'.mono hbel.size)⟩
        · go_wp2
          go_ret
          exact ⟨ret_i64 (by rw [errV_fine (by rw [H1.out]; omega) (by rw [H1.out, show n = k from by omega]; exact hrep)]), hbel⟩

end Go.Proofs.Ytpkjgnllkaafkaa
