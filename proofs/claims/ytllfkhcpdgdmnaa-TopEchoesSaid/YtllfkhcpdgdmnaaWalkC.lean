/- The document's SameInts, and the program's hasTwice. -/
import Derived.Test.YtllfkhcpdgdmnaaWalkB
namespace Go.Proofs.Ytllfkhcpdgdmnaa
open Go.RowKit Go.Shelf

theorem sameTo_end {xs ys : List Int} (hl : xs.length = ys.length) (h : ∀ i, i < xs.length → xs.getD i 0 = ys.getD i 0) : xs = ys := by
  apply List.ext_getElem hl
  intro i h1 h2
  have := h i h1
  simpa [List.getD_eq_getElem?_getD, h1, h2] using this
set_option maxHeartbeats 2000000 in
theorem SameInts_any (A : Option Addr) (n c : Nat) (A' : Option Addr) (n' c' : Nat) (xs ys : List Int) (w : World) (h : R E1 w A n c xs) (h' : R E1 w A' n' c' ys) (hn : n ≤ 100000) (hn' : n' ≤ 100000) :
    Calls Try.prog 26 #[.slice A n c, .slice A' n' c'] w fun e w' => e = .returned (.bool (xs == ys)) ∧ ∃ q, w' = w.drewN q := by
  have H1 := hide h.length
  have H2 := hide h'.length
  by_cases hnn : n = n'
  · subst hnn
    obtain ⟨b, off, hr⟩ := h
    obtain ⟨b', off', hr'⟩ := h'
    have HR := hide hr
    have HR' := hide hr'
    have hcap := hr.cap
    have hmax := hr.max
    have hcap' := hr'.cap
    have hmax' := hr'.max
    clear hr hr'
    go_enter Try.func26, Try.ntmps26
    go_wp2_with fail
    go_loopw [5] (fun i wr => ∃ k q : Nat, k ≤ n ∧ i = .int .i64 k ∧ wr = w.drewN q ∧ Hid (∀ j, j < k → xs.getD j 0 = ys.getD j 0)) (fun i _ => n - (intOf i).toNat)
    case atStart => exact ⟨0, 0, Nat.zero_le _, rfl, rfl, fun j hj => absurd hj (Nat.not_lt_zero j)⟩
    case round =>
      obtain ⟨k, q, hk, rfl, rfl, HS⟩ := hrel
      by_cases hlt : k < n
      · obtain rfl := HR.out.at_ (by omega)
        obtain rfl := HR'.out.at_ (by omega)
        have hbl := HR.out.lt (by omega)
        have hbl' := HR'.out.lt (by omega)
        have a1 := c1 HR.out hlt
        have d1 := c1 HR'.out hlt
        have i1 : (k : Int) < (n : Int) := by omega
        by_cases hxy : xs.getD k 0 = ys.getD k 0
        · have HK := hide (fun j (hj : j < k + 1) => (show xs.getD j 0 = ys.getD j 0 from by
            by_cases e : j = k
            · subst e; exact hxy
            · exact HS.out j (by omega)))
          rw [← hxy] at d1
          clear hxy
          generalize xs.getD k 0 = x at a1 d1
          have hxx : (x != x) = false := by simp
          go_wp2_with fail
          go_quiet (fail)
          go_wp2_with fail
          go_roundw
          case rel => exact ⟨k + 1, q + nq, by omega, by go_num, by first | rfl | (rw [World.drewN_drewN]), HK⟩
          case measure => simp [intOf]; omega
        · have HK := hide (show (xs == ys) = false from by rw [beq_eq_false_iff_ne]; intro e; exact hxy (by rw [e]))
          generalize xs.getD k 0 = x at a1 hxy
          generalize ys.getD k 0 = y at d1 hxy
          have hxx : (x != y) = true := by simp [hxy]
          clear hxy
          go_wp2_with fail
          go_quiet (fail)
          go_wp2_with fail
          go_ret
          exact ⟨ret_bool HK.out.symm, q + nq, by first | rfl | (rw [World.drewN_drewN])⟩
      · have HK := hide (show (xs == ys) = true from by rw [beq_iff_eq]; exact sameTo_end (by rw [H1.out, H2.out]) (fun i hi => HS.out i (by rw [H1.out] at hi; omega)))
        go_wp2_with fail
        go_ret
        exact ⟨ret_bool HK.out.symm, q, rfl⟩
  · have HK := hide (show (xs == ys) = false from by rw [beq_eq_false_iff_ne]; intro e; rw [e] at H1; exact hnn (H1.out.symm.trans H2.out))
    have hne : ¬ (n : Int) = (n' : Int) := by omega
    go_enter Try.func26, Try.ntmps26
    go_wp2_with fail
    go_ret
    exact ⟨ret_bool HK.out.symm, 0, rfl⟩

/-- Two neighbours are equal. -/
def twoB (xs : List Int) : Bool := (List.range xs.length).any fun i => decide (0 < i ∧ xs.getD (i - 1) 0 = xs.getD i 0)
theorem twoB_true {xs : List Int} {k : Nat} (hk : k < xs.length) (h0 : 0 < k) (h : xs.getD (k - 1) 0 = xs.getD k 0) : twoB xs = true := by
  unfold twoB
  rw [List.any_eq_true]
  exact ⟨k, List.mem_range.2 hk, by simp only [decide_eq_true_eq]; exact ⟨h0, h⟩⟩
theorem twoB_false {xs : List Int} (h : ∀ i, i < xs.length → 0 < i → xs.getD (i - 1) 0 ≠ xs.getD i 0) : twoB xs = false := by
  unfold twoB
  rw [List.any_eq_false]
  intro i hi
  simp only [decide_eq_true_eq]
  rintro ⟨h0, h1⟩
  exact h i (List.mem_range.1 hi) h0 h1
set_option maxHeartbeats 2000000 in
theorem hasTwice_any (A : Option Addr) (n c : Nat) (xs : List Int) (w : World) (h : R E1 w A n c xs) (hn : n ≤ 100000) :
    Calls Try.prog 60 #[.slice A n c] w fun e w' => e = .returned (.bool (twoB xs)) ∧ ∃ q, w' = w.drewN q := by
  have H1 := hide h.length
  obtain ⟨b, off, hr⟩ := h
  have HR := hide hr
  have hcap := hr.cap
  have hmax := hr.max
  clear hr
  go_enter Try.func60, Try.ntmps60
  go_wp2_with fail
  go_loopw [6] (fun i wr => ∃ k q : Nat, k ≤ n ∧ i = .int .i64 k ∧ wr = w.drewN q ∧ Hid (∀ j, j < k → 0 < j → xs.getD (j - 1) 0 ≠ xs.getD j 0)) (fun i _ => n - (intOf i).toNat)
  case atStart => exact ⟨0, 0, Nat.zero_le _, rfl, rfl, fun j hj => absurd hj (Nat.not_lt_zero j)⟩
  case round =>
    obtain ⟨k, q, hk, rfl, rfl, HS⟩ := hrel
    by_cases hlt : k < n
    · obtain rfl := HR.out.at_ (by omega)
      have hbl := HR.out.lt (by omega)
      have i1 : (k : Int) < (n : Int) := by omega
      by_cases hk0 : k = 0
      · subst hk0
        go_wp2_with fail
        go_quiet (fail)
        go_wp2_with fail
        go_roundw
        case rel => exact ⟨0 + 1, q + nq, by omega, by go_num, by first | rfl | (rw [World.drewN_drewN]), fun j hj h0 => absurd h0 (by omega)⟩
        case measure => simp [intOf] <;> omega
      · have a1 := c1 HR.out hlt
        have a0 := c1 HR.out (k := k - 1) (by omega)
        have hkk : ((k : Int) - 1) = ((k - 1 : Nat) : Int) := by omega
        have hkp : 0 < k := by omega
        have HT := hide (fun h => twoB_true (xs := xs) (k := k) (by rw [H1.out]; exact hlt) hkp h)
        have HN := hide (fun (h : xs.getD (k - 1) 0 ≠ xs.getD k 0) j (hj : j < k + 1) (h0 : 0 < j) => (show xs.getD (j - 1) 0 ≠ xs.getD j 0 from by
          by_cases e : j = k
          · subst e; exact h
          · exact HS.out j (by omega) h0))
        generalize xs.getD k 0 = x at a1 HT HN
        generalize xs.getD (k - 1) 0 = y at a0 HT HN
        by_cases hxy : x = y
        · subst hxy
          go_wp2_with fail
          go_quiet (fail)
          go_wp2_with fail
          go_ret
          have HT2 := HT.out (by trivial)
          exact ⟨ret_bool HT2.symm, q + nq, by first | rfl | (rw [World.drewN_drewN])⟩
        · go_wp2_with fail
          go_quiet (fail)
          go_wp2_with fail
          go_roundw
          case rel => exact ⟨k + 1, q + nq, by omega, by go_num, by first | rfl | (rw [World.drewN_drewN]), HN.out (fun e => hxy e.symm)⟩
          case measure => simp [intOf] <;> omega
    · go_wp2_with fail
      go_ret
      exact ⟨ret_bool (twoB_false (fun i hi => HS.out i (by rw [H1.out] at hi; omega))).symm, q, rfl⟩
end Go.Proofs.Ytllfkhcpdgdmnaa
