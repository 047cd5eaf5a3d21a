/- Walks of the document's own Validate, and of Long and large. -/
import Derived.Test.YtjhnfcmijijdcaaWalkB
namespace Go.Proofs.Ytjhnfcmijijdcaa
open Go.RowKit

def withinB (n lo hi : Int) : Bool := decide (lo ≤ n) && decide (n ≤ hi)
theorem withinB_true {n lo hi : Int} (h1 : lo ≤ n) (h2 : n ≤ hi) : withinB n lo hi = true := by simp [withinB, h1, h2]
theorem withinB_false {n lo hi : Int} (h : n < lo ∨ hi < n) : withinB n lo hi = false := by
  simp [withinB]; omega
theorem withinB_no {n lo hi : Int} (h : ¬ (lo ≤ n ∧ n ≤ hi)) : withinB n lo hi = false := withinB_false (by omega)

set_option maxHeartbeats 400000 in
theorem within_any (n lo hi : Int) (w : World) :
    Calls Try.prog 61 #[.int .i64 n, .int .i64 lo, .int .i64 hi] w fun e w' => e = .returned (.bool (withinB n lo hi)) ∧ w = w' := by
  by_cases h1 : lo ≤ n
  · by_cases h2 : n ≤ hi
    · go_enter Try.func61, Try.ntmps61
      go_wp2
      go_ret
      exact ⟨ret_bool (withinB_true h1 h2).symm, rfl⟩
    · have h2' : hi < n := by omega
      go_enter Try.func61, Try.ntmps61
      go_wp2
      go_ret
      exact ⟨ret_bool (withinB_false (.inr h2')).symm, rfl⟩
  · have h1' : n < lo := by omega
    go_enter Try.func61, Try.ntmps61
    go_wp2
    go_ret
    exact ⟨ret_bool (withinB_false (.inl h1')).symm, rfl⟩

/-- The first k numbers are from 0 to hi. -/
def AllTo (xs : List Int) (hi : Int) (k : Nat) : Prop := ∀ j, j < k → 0 ≤ xs.getD j 0 ∧ xs.getD j 0 ≤ hi
theorem allTo_zero (xs : List Int) (hi : Int) : AllTo xs hi 0 := fun _ h => absurd h (Nat.not_lt_zero _)
theorem allTo_succ {xs : List Int} {hi : Int} {k : Nat} (h : AllTo xs hi k) (e : 0 ≤ xs.getD k 0 ∧ xs.getD k 0 ≤ hi) : AllTo xs hi (k + 1) := fun j hj => by
  by_cases hjk : j = k
  · subst hjk; exact e
  · exact h j (by omega)

set_option maxHeartbeats 1000000 in
theorem rall_any (A : Option Addr) (n c : Nat) (xs : List Int) (m hi : Int) (w : World) (h : Row w A n c xs) :
    Calls Try.prog 62 #[.slice A n c, .int .i64 m, .int .i64 hi] w fun e w' => e = .returned (.bool (allB xs m hi)) ∧ w = w' := by
  obtain ⟨b, off, h1, hcap, hmax, h2, h3, h4⟩ := h
  have H4 := hide h4
  have H2 := hide h2
  have HL := hide h1
  clear h1 h2 h3 h4
  by_cases hmn : (n : Int) = m
  · subst hmn
    go_enter Try.func62, Try.ntmps62
    go_wp2
    go_loop [7] (fun i => ∃ k : Nat, k ≤ n ∧ i = .int .i64 k ∧ AllTo xs hi k) (fun i => n - (intOf i).toNat)
    case atStart => exact ⟨0, by omega, rfl, allTo_zero _ _⟩
    case round =>
      obtain ⟨k, hk, rfl, hm⟩ := hrel
      have HM := hide hm
      clear hm
      by_cases hlt : k < n
      · have hcell := H4.out k hlt
        obtain rfl := H2.out (by omega)
        have HY := hide (fun h => allTo_succ HM.out (k := k) h)
        have HN := hide (fun (h : ¬ (0 ≤ xs.getD k 0 ∧ xs.getD k 0 ≤ hi)) => allB_false (xs := xs) (n := n) (hi := hi) fun o => h (o.2 k (by rw [HL.out]; exact hlt)))
        generalize hx : xs.getD k 0 = x at hcell HY HN
        clear hx
        by_cases hc : 0 ≤ x ∧ x ≤ hi
        · have hw := withinB_true hc.1 hc.2
          go_wp2_with fail
          refine (within_any _ _ _ _).mono ?_
          rintro e w1 ⟨rfl, rfl⟩
          rw [hw]
          go_wp2
          go_round
          case rel => exact ⟨k + 1, by omega, by go_num, HY.out hc⟩
          case measure => simp [intOf]; omega
        · have hw := withinB_no hc
          go_wp2_with fail
          refine (within_any _ _ _ _).mono ?_
          rintro e w1 ⟨rfl, rfl⟩
          rw [hw]
          go_wp2
          go_ret
          exact ⟨ret_bool (HN.out hc).symm, rfl⟩
      · go_wp2
        go_ret
        exact ⟨ret_bool (allB_true ⟨by rw [HL.out], fun j hj => HM.out j (by rw [HL.out] at hj; omega)⟩).symm, rfl⟩
  · have hv : allB xs m hi = false := allB_false (fun h => hmn (by rw [← HL.out]; exact h.1))
    have HV := hide hv
    clear hv
    go_enter Try.func62, Try.ntmps62
    go_wp2
    go_ret
    exact ⟨ret_bool HV.out.symm, rfl⟩

set_option maxHeartbeats 2000000 in
theorem rValidate_any (K h : Int) (A : Option Addr) (n c : Nat) (cs : List Int) (A' : Option Addr) (n' c' : Nat) (ds : List Int) (w : World) (hT : Tin w A n c cs A' n' c' ds) :
    Calls Try.prog 23 #[.agg #[.int .i64 K, .int .i64 h, .slice A n c, .slice A' n' c']] w fun e w' => e = .returned (.int .i64 (errT K h cs ds)) ∧ Below w.heap.size w w' := by
  have HT := hide hT
  have HL := hide hT.1.length
  have HL' := hide hT.2.length
  have HB := hide ((Below.refl w.heap.size w).alloc (Nat.le_refl _) (.cells #[.int .i64 K, .int .i64 h, .slice A n c, .slice A' n' c'] 24))
  obtain ⟨b', o', r'⟩ := hT.2
  have hm' := r'.max
  have hc' := r'.cap
  clear hT r'
  by_cases h1 : 0 ≤ K ∧ K ≤ 999
  case neg =>
    have HV := hide (errT_no (K := K) (h := h) (cs := cs) (ds := ds) (fun o => h1 ⟨o.K0, o.K1⟩))
    have g1 := withinB_no h1
    clear h1
    go_enter Try.func23, Try.ntmps23
    go_wp2_with fail
    refine (within_any _ _ _ _).mono ?_
    rintro e w1 ⟨rfl, rfl⟩
    rw [g1]
    go_wp2_with fail
    go_ret
    exact ⟨ret_i64 HV.out.symm, HB.out⟩
  have g1 := withinB_true h1.1 h1.2
  by_cases h2 : 0 ≤ h ∧ h ≤ 20
  case neg =>
    have HV := hide (errT_no (K := K) (h := h) (cs := cs) (ds := ds) (fun o => h2 ⟨o.h0, o.h1⟩))
    have g2 := withinB_no h2
    clear h2
    go_enter Try.func23, Try.ntmps23
    go_wp2_with fail
    refine (within_any _ _ _ _).mono ?_
    rintro e w1 ⟨rfl, rfl⟩
    rw [g1]
    go_wp2_with fail
    refine (within_any _ _ _ _).mono ?_
    rintro e w1 ⟨rfl, rfl⟩
    rw [g2]
    go_wp2_with fail
    go_ret
    exact ⟨ret_i64 HV.out.symm, HB.out⟩
  have g2 := withinB_true h2.1 h2.2
  by_cases h3 : 1 ≤ (n' : Int) ∧ (n' : Int) ≤ 12
  case neg =>
    have HV := hide (errT_no (K := K) (h := h) (cs := cs) (ds := ds) (fun o => h3 (by have := o.n1; have := o.n2; have := HL'.out; omega)))
    have g3 := withinB_no h3
    clear h3
    go_enter Try.func23, Try.ntmps23
    go_wp2_with fail
    refine (within_any _ _ _ _).mono ?_
    rintro e w1 ⟨rfl, rfl⟩
    rw [g1]
    go_wp2_with fail
    refine (within_any _ _ _ _).mono ?_
    rintro e w1 ⟨rfl, rfl⟩
    rw [g2]
    go_wp2_with fail
    refine (within_any _ _ _ _).mono ?_
    rintro e w1 ⟨rfl, rfl⟩
    rw [g3]
    go_wp2_with fail
    go_ret
    exact ⟨ret_i64 HV.out.symm, HB.out⟩
  have g3 := withinB_true h3.1 h3.2
  by_cases h7 : allB cs n' 20 = true
  case neg =>
    have h7' : allB cs n' 20 = false := by simpa using h7
    have HV := hide (errT_no (K := K) (h := h) (cs := cs) (ds := ds) fun o => h7 (allB_iff.2 (by have := o.c; rw [HL'.out] at this; exact this)))
    clear h7
    go_enter Try.func23, Try.ntmps23
    go_wp2_with fail
    refine (within_any _ _ _ _).mono ?_
    rintro e w1 ⟨rfl, rfl⟩
    rw [g1]
    go_wp2_with fail
    refine (within_any _ _ _ _).mono ?_
    rintro e w1 ⟨rfl, rfl⟩
    rw [g2]
    go_wp2_with fail
    refine (within_any _ _ _ _).mono ?_
    rintro e w1 ⟨rfl, rfl⟩
    rw [g3]
    go_wp2_with fail
    refine (rall_any _ _ _ cs _ _ _ (HT.out.1.alloc _)).mono ?_
    rintro e w1 ⟨rfl, rfl⟩
    rw [h7']
    go_wp2_with fail
    go_ret
    exact ⟨ret_i64 HV.out.symm, HB.out⟩
  by_cases h8 : allB ds n' 50 = true
  case neg =>
    have h8' : allB ds n' 50 = false := by simpa using h8
    have HV := hide (errT_no (K := K) (h := h) (cs := cs) (ds := ds) fun o => h8 (allB_iff.2 (by have := o.d; rw [HL'.out] at this; exact this)))
    clear h8
    go_enter Try.func23, Try.ntmps23
    go_wp2_with fail
    refine (within_any _ _ _ _).mono ?_
    rintro e w1 ⟨rfl, rfl⟩
    rw [g1]
    go_wp2_with fail
    refine (within_any _ _ _ _).mono ?_
    rintro e w1 ⟨rfl, rfl⟩
    rw [g2]
    go_wp2_with fail
    refine (within_any _ _ _ _).mono ?_
    rintro e w1 ⟨rfl, rfl⟩
    rw [g3]
    go_wp2_with fail
    refine (rall_any _ _ _ cs _ _ _ (HT.out.1.alloc _)).mono ?_
    rintro e w1 ⟨rfl, rfl⟩
    rw [h7]
    go_wp2_with fail
    refine (rall_any _ _ _ ds _ _ _ (HT.out.2.alloc _)).mono ?_
    rintro e w1 ⟨rfl, rfl⟩
    rw [h8']
    go_wp2_with fail
    go_ret
    exact ⟨ret_i64 HV.out.symm, HB.out⟩
  have HV := hide (errT_ok (K := K) (h := h) (cs := cs) (ds := ds) ⟨by omega, by omega, by omega, by omega, by have := HL'.out; omega, by have := HL'.out; omega, by rw [HL'.out]; exact allB_iff.1 h7, by rw [HL'.out]; exact allB_iff.1 h8⟩)
  go_enter Try.func23, Try.ntmps23
  go_wp2_with fail
  refine (within_any _ _ _ _).mono ?_
  rintro e w1 ⟨rfl, rfl⟩
  rw [g1]
  go_wp2_with fail
  refine (within_any _ _ _ _).mono ?_
  rintro e w1 ⟨rfl, rfl⟩
  rw [g2]
  go_wp2_with fail
  refine (within_any _ _ _ _).mono ?_
  rintro e w1 ⟨rfl, rfl⟩
  rw [g3]
  go_wp2_with fail
  refine (rall_any _ _ _ cs _ _ _ (HT.out.1.alloc _)).mono ?_
  rintro e w1 ⟨rfl, rfl⟩
  rw [h7]
  go_wp2_with fail
  refine (rall_any _ _ _ ds _ _ _ (HT.out.2.alloc _)).mono ?_
  rintro e w1 ⟨rfl, rfl⟩
  rw [h8]
  go_wp2_with fail
  go_ret
  exact ⟨ret_i64 HV.out.symm, HB.out⟩

theorem large_any (A : Option Addr) (n c : Nat) (xs : List Int) (w : World) (h : Row w A n c xs) :
    Calls Try.prog 18 #[.slice A n c] w fun e w' => e = .returned (.bool (decide (100 < n))) ∧ w = w' := by
  obtain ⟨b, off, h1, hcap, hmax, h2, h3, h4⟩ := h
  clear h1 h2 h3 h4
  go_enter Try.func18, Try.ntmps18
  go_wp2
  go_ret
  exact ⟨ret_bool (by simp; omega), rfl⟩
theorem Long_any (K h : Int) (A : Option Addr) (n c : Nat) (cs : List Int) (A' : Option Addr) (n' c' : Nat) (ds : List Int) (w : World) (hT : Tin w A n c cs A' n' c' ds) :
    Calls Try.prog 17 #[.agg #[.int .i64 K, .int .i64 h, .slice A n c, .slice A' n' c']] w fun e w' => e = .returned (.bool (decide (100 < n ∨ 100 < n'))) ∧ Below w.heap.size w w' := by
  have HT := hide hT
  have HB := hide ((Below.refl w.heap.size w).alloc (Nat.le_refl _) (.cells #[.int .i64 K, .int .i64 h, .slice A n c, .slice A' n' c'] 24))
  clear hT
  by_cases hn : 100 < n
  · go_enter Try.func17, Try.ntmps17
    go_wp2_with fail
    refine (large_any _ _ _ cs _ (HT.out.1.alloc _)).mono ?_
    rintro e w1 ⟨rfl, rfl⟩
    rw [decide_eq_true hn]
    go_wp2_with fail
    go_ret
    exact ⟨ret_bool (by simp [hn]), HB.out⟩
  · go_enter Try.func17, Try.ntmps17
    go_wp2_with fail
    refine (large_any _ _ _ cs _ (HT.out.1.alloc _)).mono ?_
    rintro e w1 ⟨rfl, rfl⟩
    rw [decide_eq_false hn]
    go_wp2_with fail
    refine (large_any _ _ _ ds _ (HT.out.2.alloc _)).mono ?_
    rintro e w1 ⟨rfl, rfl⟩
    go_wp2_with fail
    go_ret
    exact ⟨ret_bool (by simp [hn]), HB.out⟩

end Go.Proofs.Ytjhnfcmijijdcaa
