/- Walks of IsFalling, on both sides, and of HazeMeans. -/
import Derived.Test.YtlmmkaadoicogaaWalkH
namespace Go.Proofs.Ytlmmkaadoicogaa
open Go.RowKit

def fallB (xs : Rd) : Bool := (List.range (xs.length - 1)).all fun i => decide (vI xs (i + 1) ≤ vI xs i)
def FallTo (xs : Rd) (k : Nat) : Prop := ∀ j, j < k → vI xs (j + 1) ≤ vI xs j
theorem fallTo_zero (xs : Rd) : FallTo xs 0 := fun _ h => absurd h (Nat.not_lt_zero _)
theorem fallTo_succ {xs : Rd} {k : Nat} (h : FallTo xs k) (e : vI xs (k + 1) ≤ vI xs k) : FallTo xs (k + 1) := fun j hj => by
  by_cases hjk : j = k
  · subst hjk; exact e
  · exact h j (by omega)
theorem fallB_true {xs : Rd} {k : Nat} (h : FallTo xs k) (hk : xs.length - 1 ≤ k) : fallB xs = true := by
  refine List.all_eq_true.2 fun i hi => ?_
  have := List.mem_range.1 hi
  simpa using h i (by omega)
theorem fallB_false {xs : Rd} {k : Nat} (hk : k + 1 < xs.length) (e : vI xs k < vI xs (k + 1)) : fallB xs = false := by
  cases h : fallB xs with
  | false => rfl
  | true =>
    have := List.all_eq_true.1 h k (List.mem_range.2 (by omega))
    simp at this
    omega
def fallOr (xs : Rd) : Bool := if errH xs = 0 then fallB xs else false
def BoolPost (v : Bool) (er : Int) (w : World) (e : Ending) (w' : World) : Prop := e = .returned (.tuple #[.bool v, .int .i64 er]) ∧ Below w.heap.size w w'
theorem ret2_bi {a b : Bool} {c d : Int} (h : a = b) (h' : c = d) : Ending.returned (.tuple #[.bool a, .int .i64 c]) = .returned (.tuple #[.bool b, .int .i64 d]) := by rw [h, h']

set_option maxHeartbeats 1000000 in
theorem IsFalling_any (A : Option Addr) (n c : Nat) (xs : Rd) (w : World) (h : Row w A n c xs) (hn2 : n ≤ 1000) :
    Calls Try.prog 22 #[.slice A n c] w (BoolPost (fallOr xs) (errH xs) w) := by
  have HR := hide h
  have hl := h.length
  by_cases he : errH xs = 0
  · obtain ⟨e1, e2, e3⟩ := errH_zero he
    obtain ⟨bl, off, hr⟩ := h
    obtain rfl := hr.at_ (by omega)
    have HRA := hide hr
    have hcap := hr.cap
    have hmax := hr.max
    have hv : fallOr xs = fallB xs := by unfold fallOr; rw [if_pos he]
    rw [hv, he]
    have HE := hide he
    have HL := hide hl
    have hn1 : 1 ≤ n := by omega
    have hn12 : n ≤ 12 := by omega
    clear he hr hv e1 e2 hl
    go_enter Try.func22, Try.ntmps22
    go_wp2_with fail
    refine (Validate_any _ _ _ xs _ HR.out (by omega)).mono ?_
    rw [HE.out]
    rintro e w1 ⟨rfl, hb1⟩
    have HR1 := hide (HRA.out.below hb1 (Nat.le_refl _))
    go_wp2_with fail
    go_loopw [14] (fun s wr => ∃ k m : Nat, k + 1 ≤ n ∧ s = .int .i64 k ∧ FallTo xs k ∧ wr = w1.drewN m) (fun s _ => n - (intOf s).toNat)
    case atStart => exact ⟨0, 0, by omega, rfl, fallTo_zero _, rfl⟩
    case round =>
      obtain ⟨k, m, hk, rfl, hf, rfl⟩ := hrel
      by_cases hlt : k + 1 < n
      · obtain ⟨c1, _⟩ := HR1.out.cell k (by omega)
        obtain ⟨d1, _⟩ := HR1.out.cell (k + 1) hlt
        rw [show (xs.getD k (0, 0)).1 = vI xs k from rfl] at c1
        rw [show (xs.getD (k + 1) (0, 0)).1 = vI xs (k + 1) from rfl] at d1
        have HF1 := hide fun h : vI xs (k + 1) ≤ vI xs k => fallTo_succ hf h
        have HF2 := hide (fallB_false (xs := xs) (k := k) (by rw [HL.out]; exact hlt))
        generalize vI xs k = x at *
        generalize vI xs (k + 1) = y at *
        have hw1 : IntKind.i64.wrap ((k : Int) + 1) = (k : Int) + 1 := IntWalk.i64_in _ (by omega)
        have l0 : (0 : Int) ≤ (k : Int) + 1 := by omega
        have l1 : (k : Int) + 1 < n := by omega
        have l2 : (k : Int) < n := by omega
        have l3 : ((k : Int) + 1).toNat = k + 1 := by omega
        by_cases hxy : x < y
        · go_wp2_with fail
          go_quiet (fail)
          clear hw1
          go_wp2
          go_ret2
          exact ⟨ret2_bi (HF2.out hxy).symm rfl, below_drewN (below_drewN hb1 _) _⟩
        · have hxy' : decide (x < y) = false := by simpa using hxy
          go_wp2_with fail
          go_quiet (fail)
          clear hw1
          go_wp2
          go_roundw
          case rel => exact ⟨k + 1, _, by omega, by go_num, HF1.out (by omega), rfl⟩
          case measure => simp [intOf]; omega
      · go_wp2_with fail
        go_ret2
        exact ⟨ret2_bi (fallB_true hf (by rw [HL.out]; omega)).symm rfl, below_drewN hb1 _⟩
  · have he' := errH_ne he
    have hv : fallOr xs = false := by unfold fallOr; rw [if_neg he]
    rw [hv]
    have HE := hide he
    clear h hl hv
    go_enter Try.func22, Try.ntmps22
    go_wp2_with fail
    refine (Validate_any _ _ _ xs _ HR.out (by omega)).mono ?_
    rintro e w1 ⟨rfl, hb1⟩
    go_wp2_with fail
    go_ret2
    exact ⟨rfl, hb1⟩

set_option maxHeartbeats 1000000 in
theorem rIsFalling_any (A : Option Addr) (n c : Nat) (xs : Rd) (w : World) (h : Row w A n c xs) (hn2 : n ≤ 1000) :
    Calls Try.prog 23 #[.slice A n c] w (BoolPost (fallOr xs) (errH xs) w) := by
  have HR := hide h
  have hl := h.length
  by_cases he : errH xs = 0
  · obtain ⟨e1, e2, e3⟩ := errH_zero he
    obtain ⟨bl, off, hr⟩ := h
    obtain rfl := hr.at_ (by omega)
    have HRA := hide hr
    have hcap := hr.cap
    have hmax := hr.max
    have hv : fallOr xs = fallB xs := by unfold fallOr; rw [if_pos he]
    rw [hv, he]
    have HE := hide he
    have HL := hide hl
    have hn1 : 1 ≤ n := by omega
    have hn12 : n ≤ 12 := by omega
    clear he hr hv e1 e2 hl
    go_enter Try.func23, Try.ntmps23
    go_wp2_with fail
    refine (rValidate_any _ _ _ xs _ HR.out (by omega)).mono ?_
    rw [HE.out]
    rintro e w1 ⟨rfl, rfl⟩
    go_wp2_with fail
    go_loopw [5] (fun s wr => ∃ k m : Nat, k + 1 ≤ n ∧ s = .int .i64 ((k + 1 : Nat) : Int) ∧ FallTo xs k ∧ wr = w.drewN m) (fun s _ => n - (intOf s).toNat)
    case atStart => exact ⟨0, 0, by omega, rfl, fallTo_zero _, rfl⟩
    case round =>
      obtain ⟨k, m, hk, rfl, hf, rfl⟩ := hrel
      by_cases hlt : k + 1 < n
      · obtain ⟨c1, _⟩ := HRA.out.cell k (by omega)
        obtain ⟨d1, _⟩ := HRA.out.cell (k + 1) hlt
        rw [show (xs.getD k (0, 0)).1 = vI xs k from rfl] at c1
        rw [show (xs.getD (k + 1) (0, 0)).1 = vI xs (k + 1) from rfl] at d1
        have HF1 := hide fun h : vI xs (k + 1) ≤ vI xs k => fallTo_succ hf h
        have HF2 := hide (fallB_false (xs := xs) (k := k) (by rw [HL.out]; exact hlt))
        generalize vI xs k = x at *
        generalize vI xs (k + 1) = y at *
        have hw1 : IntKind.i64.wrap ((k : Int) + 1 - 1) = (k : Int) := by rw [IntWalk.i64_in _ (by omega)]; omega
        have hw2 : IntKind.i64.wrap (k : Int) = (k : Int) := IntWalk.i64_in _ (by omega)
        have l0 : (0 : Int) ≤ (k : Int) + 1 := by omega
        have l1 : (k : Int) + 1 < n := by omega
        have l2 : (k : Int) < n := by omega
        have l3 : ((k : Int) + 1).toNat = k + 1 := by omega
        by_cases hxy : x < y
        · go_wp2_with fail
          go_quiet (fail)
          clear hw1 hw2
          go_wp2
          go_ret2
          exact ⟨ret2_bi (HF2.out hxy).symm rfl, below_drewN (below_drewN (Below.refl _ _) _) _⟩
        · have hxy' : decide (x < y) = false := by simpa using hxy
          go_wp2_with fail
          go_quiet (fail)
          clear hw1 hw2
          go_wp2
          go_roundw
          case rel => exact ⟨k + 1, _, by omega, by go_num, HF1.out (by omega), rfl⟩
          case measure => simp [intOf]; omega
      · go_wp2_with fail
        go_ret2
        exact ⟨ret2_bi (fallB_true hf (by rw [HL.out]; omega)).symm rfl, below_drewN (Below.refl _ _) _⟩
  · have he' := errH_ne he
    have hv : fallOr xs = false := by unfold fallOr; rw [if_neg he]
    rw [hv]
    have HE := hide he
    clear h hl hv
    go_enter Try.func23, Try.ntmps23
    go_wp2_with fail
    refine (rValidate_any _ _ _ xs _ HR.out (by omega)).mono ?_
    rintro e w1 ⟨rfl, rfl⟩
    go_wp2_with fail
    go_ret2
    exact ⟨rfl, Below.refl _ _⟩

set_option maxHeartbeats 1000000 in
theorem HazeMeans_walk (A : Option Addr) (n c : Nat) (xs : Rd) (a b : Int) (w : World) (h : Row w A n c xs) :
    Calls Try.prog 3 #[.slice A n c, .int .i64 a, .int .i64 b] w fun e w' => e = .returned (.bool true) ∧ Below w.heap.size w w' := by
  have HR := hide h
  have hl := h.length
  by_cases hn : 100 < n
  · clear h hl
    go_enter Try.func3, Try.ntmps3
    go_wp2_with (first | (go_at_call 18; refine (Long_yes _ _ _ _ hn).mono ?_; rintro e w' ⟨rfl, rfl⟩) | (go_at_call 19; refine (known_any _).mono ?_; rintro e w1 ⟨rfl, hb⟩))
    go_ret
    exact ⟨rfl, hb⟩
  · have hn' : n ≤ 100 := by omega
    clear h hl hn
    go_enter Try.func3, Try.ntmps3
    go_wp2_with fail
    refine (Long_no _ _ _ _ hn').mono ?_
    rintro e w' ⟨rfl, rfl⟩
    go_wp2_with fail
    refine (Mean_any _ _ _ xs a b _ HR.out (by omega)).mono ?_
    rintro e w1 ⟨rfl, b1⟩
    have z1 := b1.size
    generalize hp : meanOr xs a b = p
    have HP := hide hp
    clear hp
    obtain ⟨p1, p2⟩ := p
    have HR1 := hide ((HR.out.below b1 (Nat.le_refl _)).alloc (.cells #[.int .i64 p1, .int .i64 p2] 26))
    have B1 := b1.alloc z1 (.cells #[.int .i64 p1, .int .i64 p2] 26)
    have K1 := hide (Bk.born w1 26 #[.int .i64 p1, .int .i64 p2])
    go_wp2_with fail
    refine (rMean_any _ _ _ xs a b _ HR1.out (by omega)).mono ?_
    rw [HP.out]
    rintro e w2 ⟨rfl, b2⟩
    have HR2 := hide ((HR1.out.below b2 (Nat.le_refl _)).alloc (.cells #[.int .i64 p1, .int .i64 p2] 26))
    have K1' := hide ((K1.out.keep b2 (by simp)).more (.cells #[.int .i64 p1, .int .i64 p2] 26))
    have K2 := hide (Bk.born w2 26 #[.int .i64 p1, .int .i64 p2])
    have B2 := (B1.trans (b2.mono B1.size)).alloc (B1.trans (b2.mono B1.size)).size (.cells #[.int .i64 p1, .int .i64 p2] 26)
    have hin1 := K1'.out.in_
    clear b1 b2 B1 K1
    go_wp2_with fail
    refine (IsFalling_any _ _ _ xs _ HR2.out (by omega)).mono ?_
    rintro e w3 ⟨rfl, b3⟩
    have HR3 := hide (HR2.out.below b3 (Nat.le_refl _))
    have K1'' := hide (K1'.out.keep b3 hin1)
    have K2' := hide (K2.out.keep b3 (by simp))
    have B3 := B2.trans (b3.mono B2.size)
    clear b3 B2 K1' K2 hin1
    go_wp2_with fail
    refine (rIsFalling_any _ _ _ xs _ HR3.out (by omega)).mono ?_
    rintro e w4 ⟨rfl, b4⟩
    have HR4 := hide (HR3.out.below b4 (Nat.le_refl _))
    have K1 := hide (K1''.out.keep b4 K1''.out.in_)
    have K2 := hide (K2'.out.keep b4 K2'.out.in_)
    have B4 := B3.trans (b4.mono B3.size)
    clear b4 B3 K1'' K2'
    go_wp2_with fail
    refine (Validate_any _ _ _ xs _ HR4.out (by omega)).mono ?_
    rintro e w5 ⟨rfl, b5⟩
    have HR5 := hide (HR4.out.below b5 (Nat.le_refl _))
    have K1' := hide (K1.out.keep b5 K1.out.in_)
    have K2' := hide (K2.out.keep b5 K2.out.in_)
    have B5 := B4.trans (b5.mono B4.size)
    clear b5 B4 K1 K2
    obtain ⟨x0, x1, _, _, _⟩ := K1'.out.two
    obtain ⟨y0, y1, _, _, _⟩ := K2'.out.two
    have z5 := B5.size
    go_wp2_with (first | (go_at_call 25; refine (rValidate_any _ _ _ xs _ HR5.out (by omega)).mono ?_; rintro e w6 ⟨rfl, rfl⟩) | (go_at_call 19; refine (known_any _).mono ?_; rintro e w7 ⟨rfl, hb7⟩))
    go_ret
    exact ⟨rfl, B5.trans (hb7.mono z5)⟩

end Go.Proofs.Ytlmmkaadoicogaa
