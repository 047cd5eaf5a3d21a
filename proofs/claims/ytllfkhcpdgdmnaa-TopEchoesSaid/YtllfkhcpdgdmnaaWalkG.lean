/- Delays and IsRuler, on both sides. -/
import Derived.Test.YtllfkhcpdgdmnaaWalkF
namespace Go.Proofs.Ytllfkhcpdgdmnaa
open Go.RowKit Go.Shelf

/-- A row of the call's own, and an error. -/
def RowPost (er : Int) (l : List Int) (w : World) (e : Ending) (w' : World) : Prop :=
  ∃ A n c, e = .returned (.tuple #[.slice A n c, .int .i64 er]) ∧ Own E1 w' w.heap.size 3 A n c l ∧ Below w.heap.size w w'
def delV (xs : List Int) : List Int := if errC xs = 0 then sortZ (dif xs) else []
theorem delV_ok {xs : List Int} (h : errC xs = 0) : delV xs = sortZ (dif xs) := if_pos h
theorem delV_no {xs : List Int} (h : errC xs ≠ 0) : delV xs = [] := if_neg h
def rulV (xs : List Int) : Bool := if errC xs = 0 then !twoB (sortZ (dif xs)) else false
theorem rulV_ok {xs : List Int} (h : errC xs = 0) : rulV xs = !twoB (sortZ (dif xs)) := if_pos h
theorem rulV_no {xs : List Int} (h : errC xs ≠ 0) : rulV xs = false := if_neg h
theorem difTo_len (xs : List Int) : ∀ k, (difTo xs k).length ≤ k * k
  | 0 => Nat.le_refl _
  | k + 1 => by
    rw [difTo_succ, List.length_append]
    have h1 := difTo_len xs k
    have h2 : (rowD xs k k).length = k := by simp [rowD]
    have h3 : (k + 1) * (k + 1) = k * k + 2 * k + 1 := by
      rw [Nat.add_mul, Nat.mul_add]; omega
    omega
theorem dif_len {xs : List Int} (h : xs.length ≤ 6) : (dif xs).length ≤ 36 := by
  have h1 := difTo_len xs xs.length
  have h2 : xs.length * xs.length ≤ 6 * 6 := Nat.mul_le_mul h h
  unfold dif
  omega
set_option maxHeartbeats 1000000 in
theorem Delays_any (A : Option Addr) (n c : Nat) (xs : List Int) (w : World) (h : R E1 w A n c xs) (hn : n ≤ 1000) :
    Calls Try.prog 20 #[.slice A n c] w (RowPost (errC xs) (delV xs) w) := by
  have HX := hide h
  have HL := hide h.length
  clear h
  by_cases he : errC xs = 0
  · have h1 := errC_ok.1 he
    rw [HL.out] at h1
    have HE := hide he
    have HV := hide h1.2.2.1
    have hn6 := h1.2.1
    have HD := hide (delV_ok he)
    clear h1 he
    go_enter Try.func20, Try.ntmps20
    go_wp2_with (first
      | (go_at_call 24; refine (Validate_any _ _ _ xs _ HX.out (by omega)).mono ?_; rintro e w1 ⟨rfl, b1⟩; rw [HE.out]; have B1 := hide b1; clear b1)
      | (go_at_call 58; refine (differences_any _ _ _ xs _ (HX.out.below B1.out (Nat.le_refl _)) (by omega) HV.out).mono ?_; rintro e w2 ⟨A2, n2, c2, rfl, o2, b2⟩))
    go_ret2
    exact ⟨A2, n2, c2, by rw [HE.out]; rfl, by rw [HD.out]; exact o2.more B1.out.size, B1.out.trans (b2.mono B1.out.size)⟩
  · have HE := hide he
    have hne : (errC xs != 0) = true := by simpa using he
    have HD := hide (delV_no he)
    clear he
    go_enter Try.func20, Try.ntmps20
    go_wp2_with (go_at_call 24; refine (Validate_any _ _ _ xs _ HX.out (by omega)).mono ?_; rintro e w1 ⟨rfl, b1⟩; have B1 := hide b1; clear b1)
    go_ret2
    exact ⟨none, 0, 0, rfl, by rw [HD.out]; exact Own.nil _ _ _ _, B1.out⟩
set_option maxHeartbeats 1000000 in
theorem rDelays_any (A : Option Addr) (n c : Nat) (xs : List Int) (w : World) (h : R E1 w A n c xs) (hn : n ≤ 1000) :
    Calls Try.prog 21 #[.slice A n c] w (RowPost (errC xs) (delV xs) w) := by
  have HX := hide h
  have HL := hide h.length
  clear h
  by_cases he : errC xs = 0
  · have h1 := errC_ok.1 he
    rw [HL.out] at h1
    have HE := hide he
    have HV := hide h1.2.2.1
    have hn6 := h1.2.1
    have HD := hide (delV_ok he)
    clear h1 he
    go_enter Try.func21, Try.ntmps21
    go_wp2_with (first
      | (go_at_call 25; refine (rValidate_any _ _ _ xs _ HX.out (by omega)).mono ?_; rintro e w1 ⟨rfl, b1⟩; rw [HE.out]; have B1 := hide b1; clear b1)
      | (go_at_call 59; refine (rdelays_any _ _ _ xs _ (HX.out.below B1.out (Nat.le_refl _)) (by omega) HV.out).mono ?_; rintro e w2 ⟨A2, n2, c2, rfl, o2, b2⟩))
    go_ret2
    exact ⟨A2, n2, c2, by rw [HE.out]; rfl, by rw [HD.out]; exact o2.more B1.out.size, B1.out.trans (b2.mono B1.out.size)⟩
  · have HE := hide he
    have hne : (errC xs != 0) = true := by simpa using he
    have HD := hide (delV_no he)
    clear he
    go_enter Try.func21, Try.ntmps21
    go_wp2_with (go_at_call 25; refine (rValidate_any _ _ _ xs _ HX.out (by omega)).mono ?_; rintro e w1 ⟨rfl, b1⟩; have B1 := hide b1; clear b1)
    go_ret2
    exact ⟨none, 0, 0, rfl, by rw [HD.out]; exact Own.nil _ _ _ _, B1.out⟩
set_option maxHeartbeats 1000000 in
theorem IsRuler_any (A : Option Addr) (n c : Nat) (xs : List Int) (w : World) (h : R E1 w A n c xs) (hn : n ≤ 1000) :
    Calls Try.prog 22 #[.slice A n c] w fun e w' => e = .returned (.tuple #[.bool (rulV xs), .int .i64 (errC xs)]) ∧ Below w.heap.size w w' := by
  have HX := hide h
  have HL := hide h.length
  clear h
  by_cases he : errC xs = 0
  · have h1 := errC_ok.1 he
    rw [HL.out] at h1
    have HE := hide he
    have HV := hide h1.2.2.1
    have hn6 := h1.2.1
    have HD := hide (rulV_ok he)
    clear h1 he
    go_enter Try.func22, Try.ntmps22
    go_wp2_with (first
      | (go_at_call 24; refine (Validate_any _ _ _ xs _ HX.out (by omega)).mono ?_; rintro e w1 ⟨rfl, b1⟩; rw [HE.out]; have B1 := hide b1; clear b1)
      | (go_at_call 58; refine (differences_any _ _ _ xs _ (HX.out.below B1.out (Nat.le_refl _)) (by omega) HV.out).mono ?_; rintro e w2 ⟨A2, n2, c2, rfl, o2, b2⟩; have HN2 := hide (o2.len); have hn2 : n2 ≤ 1000 := by (have h5 := HN2.out; rw [sortZ_len] at h5; have h6 := dif_len (xs := xs) (by rw [HL.out]; omega); omega))
      | (go_at_call 60; refine (hasTwice_any _ _ _ _ _ o2.row (by omega)).mono ?_; rintro e w3 ⟨rfl, q3, rfl⟩))
    go_ret2
    exact ⟨by rw [HE.out, HD.out]; rfl, below_drewN (B1.out.trans (b2.mono B1.out.size)) _⟩
  · have HE := hide he
    have hne : (errC xs != 0) = true := by simpa using he
    have HD := hide (rulV_no he)
    clear he
    go_enter Try.func22, Try.ntmps22
    go_wp2_with (go_at_call 24; refine (Validate_any _ _ _ xs _ HX.out (by omega)).mono ?_; rintro e w1 ⟨rfl, b1⟩; have B1 := hide b1; clear b1)
    go_ret2
    exact ⟨by rw [HD.out]; rfl, B1.out⟩
set_option maxHeartbeats 2000000 in
theorem ruler_any (A : Option Addr) (n c : Nat) (xs : List Int) (w : World) (h : R E1 w A n c xs) (hn : n ≤ 6) (hv : OkTo xs n) (hl : xs.length ≤ 6) :
    Calls Try.prog 61 #[.slice A n c] w fun e w' => e = .returned (.bool (!twoB (sortZ (dif xs)))) ∧ Below w.heap.size w w' := by
  have HX := hide h
  have HV := hide hv
  have HDL := hide (dif_len hl)
  clear h hv
  go_enter Try.func61, Try.ntmps61
  go_wp2_with (go_at_call 59; refine (rdelays_any _ _ _ xs _ HX.out (by omega) HV.out).mono ?_; rintro e w2 ⟨A2, n2, c2, rfl, o2, b2⟩)
  have HN := hide o2.len
  have hn2 : n2 ≤ 1000 := by
    have h5 := HN.out
    rw [sortZ_len] at h5
    have h6 := HDL.out
    omega
  have HR2 := hide o2.row
  have B2 := hide b2
  clear o2 b2
  generalize hle : sortZ (dif xs) = l at HN HR2
  have HLE := hide hle
  clear hle
  go_loopw [4] (fun i wr => ∃ k q : Nat, 1 ≤ k ∧ (k ≤ n2 ∨ k = 1) ∧ i = .int .i64 k ∧ wr = w2.drewN q ∧ Hid (∀ j, j < k → 0 < j → l.getD (j - 1) 0 ≠ l.getD j 0)) (fun i _ => n2 - (intOf i).toNat)
  case atStart => exact ⟨1, 0, Nat.le_refl _, .inr rfl, by go_num, rfl, fun j hj h0 => absurd h0 (by omega)⟩
  case round =>
    obtain ⟨k, q, hk1, hk, rfl, rfl, HS⟩ := hrel
    by_cases hlt : k < n2
    · obtain ⟨b, off, hr⟩ := HR2.out
      obtain rfl := hr.at_ (by omega)
      have hbl := hr.lt (by omega)
      have hcap := hr.cap
      have hmax := hr.max
      have a1 := c1 hr hlt
      have a0 := c1 hr (k := k - 1) (by omega)
      clear hr
      have i1 : (k : Int) < (n2 : Int) := by omega
      have hkk : ((k : Int) - 1) = ((k - 1 : Nat) : Int) := by omega
      have HT := hide (fun h => twoB_true (xs := l) (k := k) (by rw [HN.out]; exact hlt) hk1 h)
      have HNN := hide (fun (h : l.getD (k - 1) 0 ≠ l.getD k 0) j (hj : j < k + 1) (h0 : 0 < j) => (show l.getD (j - 1) 0 ≠ l.getD j 0 from by
        by_cases e : j = k
        · subst e; exact h
        · exact HS.out j (by omega) h0))
      generalize l.getD k 0 = x at a1 HT HNN
      generalize l.getD (k - 1) 0 = y at a0 HT HNN
      by_cases hxy : x = y
      · subst hxy
        go_wp2_with fail
        go_quiet (fail)
        go_wp2_with fail
        have HT2 := HT.out (by trivial)
        go_ret
        exact ⟨ret_bool (by rw [HLE.out, HT2]; rfl), below_drewN (below_drewN B2.out _) _⟩
      · go_wp2_with fail
        go_quiet (fail)
        go_wp2_with fail
        go_roundw
        case rel => exact ⟨k + 1, q + nq, by omega, by omega, by go_num, by first | rfl | (rw [World.drewN_drewN]), HNN.out (fun e => hxy e.symm)⟩
        case measure => simp [intOf] <;> omega
    · go_wp2_with fail
      go_ret
      exact ⟨ret_bool (by rw [HLE.out, twoB_false (fun i hi => HS.out i (by rw [HN.out] at hi; omega))]; rfl), below_drewN B2.out _⟩
set_option maxHeartbeats 1000000 in
theorem rIsRuler_any (A : Option Addr) (n c : Nat) (xs : List Int) (w : World) (h : R E1 w A n c xs) (hn : n ≤ 1000) :
    Calls Try.prog 23 #[.slice A n c] w fun e w' => e = .returned (.tuple #[.bool (rulV xs), .int .i64 (errC xs)]) ∧ Below w.heap.size w w' := by
  have HX := hide h
  have HL := hide h.length
  clear h
  by_cases he : errC xs = 0
  · have h1 := errC_ok.1 he
    rw [HL.out] at h1
    have HE := hide he
    have HV := hide h1.2.2.1
    have hn6 := h1.2.1
    have HD := hide (rulV_ok he)
    clear h1 he
    go_enter Try.func23, Try.ntmps23
    go_wp2_with (first
      | (go_at_call 25; refine (rValidate_any _ _ _ xs _ HX.out (by omega)).mono ?_; rintro e w1 ⟨rfl, b1⟩; rw [HE.out]; have B1 := hide b1; clear b1)
      | (go_at_call 61; refine (ruler_any _ _ _ xs _ (HX.out.below B1.out (Nat.le_refl _)) (by omega) HV.out (by rw [HL.out]; omega)).mono ?_; rintro e w2 ⟨rfl, b2⟩))
    go_ret2
    exact ⟨by rw [HE.out, HD.out]; rfl, B1.out.trans (b2.mono B1.out.size)⟩
  · have HE := hide he
    have hne : (errC xs != 0) = true := by simpa using he
    have HD := hide (rulV_no he)
    clear he
    go_enter Try.func23, Try.ntmps23
    go_wp2_with (go_at_call 25; refine (rValidate_any _ _ _ xs _ HX.out (by omega)).mono ?_; rintro e w1 ⟨rfl, b1⟩; have B1 := hide b1; clear b1)
    go_ret2
    exact ⟨by rw [HD.out]; rfl, B1.out⟩
end Go.Proofs.Ytllfkhcpdgdmnaa
