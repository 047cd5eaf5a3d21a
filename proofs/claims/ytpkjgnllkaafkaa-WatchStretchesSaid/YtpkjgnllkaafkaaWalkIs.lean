/- Which lists are sets of numbers, on both sides. -/
import Derived.Test.YtpkjgnllkaafkaaLift
namespace Go.Proofs.Ytpkjgnllkaafkaa
open Go.RowKit

/-- The first k are ascending, from 0 to g. -/
def STo (I : List Int) (g : Int) (k : Nat) : Prop := ∀ i, i < k → (0 ≤ gi I i ∧ gi I i ≤ g) ∧ (0 < i → gi I (i - 1) < gi I i)
def isB (I : List Int) (g : Int) : Bool := (List.range I.length).all fun i => (decide (0 ≤ gi I i) && decide (gi I i ≤ g)) && (decide (i = 0) || decide (gi I (i - 1) < gi I i))
theorem isB_iff {I : List Int} {g : Int} : isB I g = true ↔ STo I g I.length := by
  unfold isB STo
  rw [List.all_eq_true]
  simp only [List.mem_range, Bool.and_eq_true, decide_eq_true_eq, Bool.or_eq_true]
  constructor
  · intro h i hi
    obtain ⟨h1, h2⟩ := h i hi
    exact ⟨h1, fun h0 => by rcases h2 with h2 | h2 <;> omega⟩
  · intro h i hi
    obtain ⟨h1, h2⟩ := h i hi
    refine ⟨h1, ?_⟩
    by_cases h0 : i = 0
    · exact .inl h0
    · exact .inr (h2 (by omega))
theorem isB_yes {I : List Int} {g : Int} {n : Nat} (hn : I.length = n) (h : STo I g n) : isB I g = true := isB_iff.2 (by rw [hn]; exact h)
theorem isB_no {I : List Int} {g : Int} (h : ¬ STo I g I.length) : isB I g = false := by
  rw [Bool.eq_false_iff]; intro hh; exact h (isB_iff.1 hh)
theorem sTo_zero (I : List Int) (g : Int) : STo I g 0 := fun i hi => by omega
def lastTo (I : List Int) : Nat → Int
  | 0 => -1
  | j + 1 => gi I j
theorem sTo_yes {I : List Int} {g : Int} {k : Nat} (h : STo I g k) (h1 : lastTo I k < gi I k) (h2 : gi I k ≤ g) : STo I g (k + 1) := by
  intro i hi
  by_cases e : i = k
  · subst e
    cases i with
    | zero => simp only [lastTo] at h1; exact ⟨⟨by omega, h2⟩, fun h0 => by omega⟩
    | succ j =>
      simp only [lastTo] at h1
      have := (h j (by omega)).1
      exact ⟨⟨by omega, h2⟩, fun _ => h1⟩
  · exact h i (by omega)
theorem sTo_no {I : List Int} {g : Int} {k : Nat} (hk : k < I.length) (h : ¬ (lastTo I k < gi I k ∧ gi I k ≤ g)) : ¬ STo I g I.length := by
  intro hh
  obtain ⟨h1, h2⟩ := hh k hk
  refine h ⟨?_, h1.2⟩
  cases k with
  | zero => simp only [lastTo]; omega
  | succ j => exact h2 (by omega)
theorem sTo_yes2 {I : List Int} {g : Int} {k : Nat} (h : STo I g k) (h1 : 0 ≤ gi I k ∧ gi I k ≤ g) (h2 : 0 < k → gi I (k - 1) < gi I k) : STo I g (k + 1) := by
  intro i hi
  by_cases e : i = k
  · subst e; exact ⟨h1, h2⟩
  · exact h i (by omega)

set_option maxHeartbeats 1000000 in
theorem isSet_any (A : Option Addr) (n c : Nat) (I : List Int) (g : Int) (w : World) (h : R E1 w A n c I) (hn : n ≤ 1000) :
    Calls Try.prog 72 #[.slice A n c, .int .i64 g] w fun e w' => e = .returned (.bool (isB I g)) ∧ w = w' := by
  have HL := hide h.length
  obtain ⟨b, off, hr⟩ := h
  have HR := hide hr
  have hcap := hr.cap
  have hmax := hr.max
  clear hr
  go_enter Try.func72, Try.ntmps72
  go_wp2_with fail
  go_loopw [5, 10] (fun v i wr => ∃ k : Nat, k ≤ n ∧ i = .int .i64 k ∧ v = .int .i64 (lastTo I k) ∧ w = wr ∧ Hid (STo I g k)) (fun _ i _ => n - (intOf i).toNat)
  case atStart => exact ⟨0, Nat.zero_le _, rfl, rfl, rfl, hide (sTo_zero _ _)⟩
  case round =>
    obtain ⟨k, hk, rfl, rfl, rfl, HT⟩ := hrel
    by_cases hlt : k < n
    · obtain rfl := HR.out.at_ (by omega)
      have hbl := HR.out.lt (by omega)
      have a1 := c1 HR.out hlt
      have HY := hide (sTo_yes HT.out)
      have HN := hide (sTo_no (I := I) (g := g) (k := k) (by rw [HL.out]; exact hlt))
      have HLS := hide (show lastTo I (k + 1) = gi I k from rfl)
      have hgi : I.getD k 0 = gi I k := rfl
      rw [hgi] at a1
      clear hgi
      generalize gi I k = x at *
      generalize lastTo I k = l at *
      by_cases h1 : l < x
      · by_cases h2 : x ≤ g
        · have HT2 := hide (HY.out h1 h2)
          clear HY HN
          go_wp2_with fail
          go_roundw
          case rel => exact ⟨k + 1, by omega, by go_num, by rw [HLS.out], trivial, HT2⟩
          case measure => simp [intOf]; omega
        · have HF := hide (isB_no (HN.out (by omega)))
          have h2' : g < x := by omega
          clear HY HN
          go_wp2_with fail
          go_ret
          exact ⟨ret_bool HF.out.symm, rfl⟩
      · have HF := hide (isB_no (HN.out (by omega)))
        have h1' : x ≤ l := by omega
        clear HY HN
        go_wp2_with fail
        go_ret
        exact ⟨ret_bool HF.out.symm, rfl⟩
    · obtain rfl : k = n := by omega
      have HF := hide (isB_yes HL.out HT.out)
      go_wp2_with fail
      go_ret
      exact ⟨ret_bool HF.out.symm, rfl⟩

theorem within_quiet {a lo hi : Int} {v : Bool} (hv : withinB a lo hi = v) (w : World) (m : Nat) : Calls Try.prog 64 #[.int .i64 a, .int .i64 lo, .int .i64 hi] (w.drewN m) fun e w'' => e = .returned (.bool v) ∧ ∃ q, w'' = w.drewN q :=
  Calls.quiet_of_same ((within_any a lo hi (w.drewN m)).mono fun e w' h => ⟨by rw [h.1, hv], h.2.symm⟩)

set_option maxHeartbeats 3000000 in
theorem risSet_any (A : Option Addr) (n c : Nat) (I : List Int) (g : Int) (w : World) (h : R E1 w A n c I) (hn : n ≤ 1000) :
    Calls Try.prog 74 #[.slice A n c, .int .i64 g] w fun e w' => e = .returned (.bool (isB I g)) ∧ Below w.heap.size w w' := by
  have HL := hide h.length
  obtain ⟨b, off, hr⟩ := h
  have HR := hide hr
  have hcap := hr.cap
  have hmax := hr.max
  clear hr
  go_enter Try.func74, Try.ntmps74
  go_wp2_with fail
  go_loopw [5] (fun i wr => ∃ k : Nat, k ≤ n ∧ i = .int .i64 k ∧ Hid (STo I g k) ∧ Hid (Below w.heap.size w wr)) (fun i _ => n - (intOf i).toNat)
  case atStart => exact ⟨0, Nat.zero_le _, rfl, hide (sTo_zero _ _), hide (Below.refl _ _)⟩
  case round =>
    obtain ⟨k, hk, rfl, HT, HB⟩ := hrel
    by_cases hlt : k < n
    · obtain rfl := HR.out.at_ (by omega)
      have HRW := hide (HR.out.below HB.out (Nat.le_refl _))
      have hbl := HRW.out.lt (by omega)
      have cx := c1 HRW.out hlt
      have l6 : (k : Int) < n := by omega
      have HY := hide (sTo_yes2 HT.out)
      have HN := hide (fun (z : ¬ (0 ≤ gi I k ∧ gi I k ≤ g)) (f : STo I g I.length) => z (f k (by rw [HL.out]; exact hlt)).1)
      have HP := hide (fun (q0 : 0 < k) (z : ¬ gi I (k - 1) < gi I k) (f : STo I g I.length) => z ((f k (by rw [HL.out]; exact hlt)).2 q0))
      have hgi : I.getD k 0 = gi I k := rfl
      rw [hgi] at cx
      clear hgi
      generalize gi I k = x at *
      rcases withinB_dec x 0 g with ⟨h5, h6, h7⟩ | ⟨h5, h6⟩
      · have HW := hide h5
        clear h5
        cases k with
        | zero =>
          have HT2 := hide (HY.out ⟨h6, h7⟩ (fun h0 => by omega))
          clear HY HN HP
          rw [Nat.add_zero] at cx
          go_wp2_with fail
          go_quiet (first | (go_at_call 64; exact within_quiet HW.out _ _))
          all_goals
            go_wp2_with fail
            go_roundw
            case rel => exact ⟨1, by omega, by go_num, HT2, hide (below_drewN HB.out _)⟩
            case measure => simp [intOf]; omega
        | succ j =>
          have cp := c1 HRW.out (k := j) (by omega)
          have hgi : I.getD j 0 = gi I j := rfl
          rw [hgi] at cp
          clear hgi
          rw [show j + 1 - 1 = j from rfl] at HY HP
          generalize gi I j = p at *
          have wj : IntKind.i64.wrap ((j : Int) + 1 - 1) = j := by rw [Int.add_sub_cancel]; exact IntWalk.i64_in _ (by omega)
          have l3 : (j : Int) < n := by omega
          have l4 : (0 : Int) < (j : Int) + 1 := by omega
          have l5 : (0 : Int) ≤ (j : Int) + 1 := by omega
          have l6 : (j : Int) + 1 < n := by omega
          by_cases h2 : p < x
          · have HT2 := hide (HY.out ⟨h6, h7⟩ (fun _ => h2))
            have h2' : ¬ x ≤ p := by omega
            clear HY HN HP
            go_wp2_with fail
            go_quiet (first | (go_at_call 64; exact within_quiet HW.out _ _))
            all_goals
              go_wp2_with fail
              go_roundw
              case rel => exact ⟨j + 2, by omega, by go_num, HT2, hide (below_drewN HB.out _)⟩
              case measure => simp [intOf]; omega
          · have h2' : x ≤ p := by omega
            have HF := hide (isB_no (HP.out (by omega) h2))
            clear HY HN HP
            go_wp2_with fail
            go_quiet (first | (go_at_call 64; exact within_quiet HW.out _ _))
            all_goals
              go_wp2_with fail
              go_ret
              exact ⟨ret_bool HF.out.symm, below_drewN HB.out _⟩
      · have HW := hide h5
        have HF := hide (isB_no (HN.out h6))
        clear h5 HY HN HP
        go_wp2_with fail
        go_quiet (first | (go_at_call 64; exact within_quiet HW.out _ _))
        all_goals
          go_wp2_with fail
          go_ret
          exact ⟨ret_bool HF.out.symm, below_drewN HB.out _⟩
    · obtain rfl : k = n := by omega
      have HF := hide (isB_yes HL.out HT.out)
      go_wp2_with fail
      go_ret
      exact ⟨ret_bool HF.out.symm, HB.out⟩
end Go.Proofs.Ytpkjgnllkaafkaa
