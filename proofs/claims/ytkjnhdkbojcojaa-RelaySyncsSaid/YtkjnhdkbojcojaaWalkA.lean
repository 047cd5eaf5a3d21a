/- Walks: which boxes are right, on both sides. -/
import Derived.Test.YtkjnhdkbojcojaaOwn
import Derived.Test.YtkjnhdkbojcojaaMA
namespace Go.Proofs.Ytkjnhdkbojcojaa
open Go.RowKit Go.Shelf
attribute [local go_sem] Oper.semAt_some

abbrev bV (A : Option Addr) (n c : Nat) (A' : Option Addr) (n' c' : Nat) : Value := .agg #[.slice A n c, .slice A' n' c']
theorem inB_true {n : Nat} {x : Int} (h1 : 0 ≤ x) (h2 : x < n) : inB n x = true := inB_iff.2 ⟨h1, h2⟩
theorem inB_false {n : Nat} {x : Int} (h : x < 0 ∨ n ≤ x) : inB n x = false := by
  cases hh : inB n x with
  | false => rfl
  | true => rw [inB_iff] at hh; omega
theorem sigB_true {x : Int} (h1 : 0 ≤ x) (h2 : x ≤ 3) : sigB x = true := sigB_iff.2 ⟨h1, h2⟩
theorem sigB_false {x : Int} (h : x < 0 ∨ 3 < x) : sigB x = false := by
  cases hh : sigB x with
  | false => rfl
  | true => rw [sigB_iff] at hh; omega
def withinB (n lo hi : Int) : Bool := decide (lo ≤ n) && decide (n ≤ hi)
theorem withinB_true {n lo hi : Int} (h1 : lo ≤ n) (h2 : n ≤ hi) : withinB n lo hi = true := by simp [withinB, h1, h2]
theorem withinB_false {n lo hi : Int} (h : n < lo ∨ hi < n) : withinB n lo hi = false := by
  simp [withinB]; omega
theorem sigB_within (x : Int) : withinB x 0 3 = sigB x := rfl
theorem inB_within (n : Nat) (x : Int) : withinB x 0 (n - 1) = inB n x := by
  unfold withinB inB
  congr 1
  rw [decide_eq_decide]
  omega
set_option maxHeartbeats 400000 in
theorem isState_any (A : Option Addr) (n c : Nat) (A' : Option Addr) (n' c' : Nat) (x : Int) (w : World) :
    Calls Try.prog 64 #[bV A n c A' n' c', .int .i64 x] w fun e w' => e = .returned (.bool (inB n' x)) ∧ Below w.heap.size w w' := by
  have hb := hide ((Below.refl w.heap.size w).alloc (Nat.le_refl _) (.cells #[.slice A n c, .slice A' n' c'] 25))
  by_cases h1 : 0 ≤ x
  · by_cases h2 : x < n'
    · go_enter Try.func64, Try.ntmps64
      go_wp2
      go_ret
      exact ⟨ret_bool (inB_true h1 h2).symm, hb.out⟩
    · have h2' : (n' : Int) ≤ x := by omega
      go_enter Try.func64, Try.ntmps64
      go_wp2
      go_ret
      exact ⟨ret_bool (inB_false (.inr h2')).symm, hb.out⟩
  · have h1' : x < 0 := by omega
    go_enter Try.func64, Try.ntmps64
    go_wp2
    go_ret
    exact ⟨ret_bool (inB_false (.inl h1')).symm, hb.out⟩
set_option maxHeartbeats 400000 in
theorem isSignal_any (x : Int) (w : World) : Calls Try.prog 65 #[.int .i64 x] w fun e w' => e = .returned (.bool (sigB x)) ∧ w = w' := by
  by_cases h1 : 0 ≤ x
  · by_cases h2 : x ≤ 3
    · go_enter Try.func65, Try.ntmps65
      go_wp2
      go_ret
      exact ⟨ret_bool (sigB_true h1 h2).symm, rfl⟩
    · have h2' : 3 < x := by omega
      go_enter Try.func65, Try.ntmps65
      go_wp2
      go_ret
      exact ⟨ret_bool (sigB_false (.inr h2')).symm, rfl⟩
  · have h1' : x < 0 := by omega
    go_enter Try.func65, Try.ntmps65
    go_wp2
    go_ret
    exact ⟨ret_bool (sigB_false (.inl h1')).symm, rfl⟩
set_option maxHeartbeats 400000 in
theorem within_any (n lo hi : Int) (w : World) :
    Calls Try.prog 66 #[.int .i64 n, .int .i64 lo, .int .i64 hi] w fun e w' => e = .returned (.bool (withinB n lo hi)) ∧ w = w' := by
  by_cases h1 : lo ≤ n
  · by_cases h2 : n ≤ hi
    · go_enter Try.func66, Try.ntmps66
      go_wp2
      go_ret
      exact ⟨ret_bool (withinB_true h1 h2).symm, rfl⟩
    · have h2' : hi < n := by omega
      go_enter Try.func66, Try.ntmps66
      go_wp2
      go_ret
      exact ⟨ret_bool (withinB_false (.inr h2')).symm, rfl⟩
  · have h1' : n < lo := by omega
    go_enter Try.func66, Try.ntmps66
    go_wp2
    go_ret
    exact ⟨ret_bool (withinB_false (.inl h1')).symm, rfl⟩
/-- The two rows of a box. -/
structure BxR (w : World) (A : Option Addr) (n c : Nat) (A' : Option Addr) (n' c' : Nat) (b : Bx) : Prop where
  nx : R EN w A n c b.1
  ou : R E1 w A' n' c' b.2
theorem BxR.below {w w' : World} {A : Option Addr} {n c : Nat} {A' : Option Addr} {n' c' : Nat} {b : Bx} {B : Nat} (h : BxR w A n c A' n' c' b) (hb : Below B w w') (hB : w.heap.size ≤ B) : BxR w' A n c A' n' c' b := ⟨h.nx.below hb hB, h.ou.below hb hB⟩
theorem bk_two {w : World} {g : Nat} {t : TypeId} {a b : Value} (h : Bk w g t #[a, b]) : w.cell? ⟨g, 0, none⟩ = some a ∧ w.cell? ⟨g, 1, none⟩ = some b := ⟨h.at_ 0, h.at_ 1⟩
set_option maxHeartbeats 2000000 in
theorem Validate_any (A : Option Addr) (n c : Nat) (A' : Option Addr) (n' c' : Nat) (b : Bx) (w : World) (h : BxR w A n c A' n' c' b) :
    Calls Try.prog 25 #[bV A n c A' n' c'] w fun e w' => e = .returned (.int .i64 (errX b)) ∧ Below w.heap.size w w' := by
  have HL := hide h.nx.length
  have HL' := hide h.ou.length
  have hle := h.nx.le
  have hle' := h.ou.le
  have HB := hide ((Below.refl w.heap.size w).alloc (Nat.le_refl _) (.cells #[.slice A n c, .slice A' n' c'] 25))
  have H := hide h
  clear h
  by_cases h1 : n' < 1
  · have h1i : (n' : Int) < 1 := by omega
    have h1d : decide ((n' : Int) < 1) = true := by simpa using h1i
    go_enter Try.func25, Try.ntmps25
    go_wp2_with fail
    go_ret
    exact ⟨ret_i64 (errX_len (by rw [HL'.out]; omega)).symm, HB.out⟩
  by_cases h6 : 6 < n'
  · have h1i : ¬ (n' : Int) < 1 := by omega
    have h6i : (6 : Int) < n' := by omega
    go_enter Try.func25, Try.ntmps25
    go_wp2_with fail
    go_ret
    exact ⟨ret_i64 (errX_len (by rw [HL'.out]; omega)).symm, HB.out⟩
  by_cases hn : n = n'
  · subst hn
    have h1i : ¬ (n : Int) < 1 := by omega
    have h6i : ¬ (6 : Int) < n := by omega
    have hnn : ((n : Int) != n) = false := by simp
    clear h1i h6i
    have h1i : 1 ≤ (n : Int) := by omega
    have h6i : (n : Int) ≤ 6 := by omega
    go_enter Try.func25, Try.ntmps25
    go_wp2_with fail
    have HK := hide (Bk.born w 25 #[.slice A n c, .slice A' n c'])
    have hsz : (w.alloc (.cells #[.slice A n c, .slice A' n c'] 25)).heap.size = w.heap.size + 1 := by simp
    have HR := hide (H.out.below HB.out (Nat.le_refl _))
    generalize w.alloc (.cells #[.slice A n c, .slice A' n c'] 25) = W0 at *
    go_loopw [27] (fun i wr => ∃ k : Nat, k ≤ n ∧ i = .int .i64 k ∧ Below W0.heap.size W0 wr ∧ Hid (OkTo b k)) (fun i _ => n - (intOf i).toNat)
    case atStart => exact ⟨0, Nat.zero_le _, rfl, Below.refl _ _, hide (okTo_zero _)⟩
    case round =>
      obtain ⟨k, hk, rfl, hbl, HS⟩ := hrel
      by_cases hlt : k < n
      · obtain ⟨b1, o1, hr⟩ := (HR.out.below hbl (Nat.le_refl _)).nx
        obtain ⟨b2, o2, hr2⟩ := (HR.out.below hbl (Nat.le_refl _)).ou
        obtain rfl := hr.at_ (by omega)
        obtain rfl := hr2.at_ (by omega)
        have hc1 := cN hr hlt
        have FK := hide (fun x (hx : Below wr.heap.size wr x) => And.intro (bk_two ((HK.out.keep hbl (by omega)).keep hx (Nat.lt_of_lt_of_le (by omega) hbl.size))) (c1 (hr2.below hx (Nat.le_refl _)) hlt))
        have F0 := FK.out wr (Below.refl _ _)
        have FA := hide (fun o => FK.out (wr.alloc o) (le_two (Below.refl _ _) o))
        have HLT := hide (show k < b.2.length from by rw [HL'.out]; exact hlt)
        clear hr hr2
        have HN1 := hide (errX_nx1 HLT.out)
        have HN2 := hide (errX_nx2 HLT.out)
        have HNO := hide (errX_ou HLT.out)
        have HSS := hide (okTo_succ HS.out)
        have HLN := hide (show b.2.length = n from HL'.out)
        have HBW := hide (le_call HB.out hbl)
        rw [HLN.out] at HN1 HN2 HSS
        generalize (b.1.getD k (0, 0)).1 = x at *
        generalize (b.1.getD k (0, 0)).2 = y at *
        generalize b.2.getD k 0 = o at *
        have BN := hide (fun w1 (D : Below (wr.alloc (.cells #[.int .i64 x, .int .i64 y] 59)).heap.size (wr.alloc (.cells #[.int .i64 x, .int .i64 y] 59)) w1) => bk_two ((Bk.born wr 59 #[.int .i64 x, .int .i64 y]).keep D (by simp)))
        have F9 := FA.out (.cells #[.int .i64 x, .int .i64 y] 59)
        have i1 : (k : Int) < (n : Int) := by omega
        cases hx : inB n x with
        | false =>
          have HX := hide hx
          clear hx
          go_wp2_with (first
          | (have hgd := D1; clear hgd; go_at_call 64; refine (isState_any _ _ _ _ _ _ y _).mono ?_; rintro e w2 ⟨rfl, D2⟩; rw [HY.out]; have F2 := FK.out w2 (le_call (le_call (le_two (Below.refl _ _) _) D1) D2))
          | (go_at_call 64; refine (isState_any _ _ _ _ _ _ x _).mono ?_; rintro e w1 ⟨rfl, D1⟩; rw [HX.out]; have F1 := FK.out w1 (le_call (le_two (Below.refl _ _) _) D1); have G1 := BN.out w1 D1)
          | (go_at_call 65; refine (isSignal_any o _).mono ?_; rintro e w3 ⟨rfl, rfl⟩; rw [HO.out]))
          go_ret
          exact ⟨ret_i64 (HN1.out HX.out).symm, le_call (le_two HBW.out _) D1⟩
        | true =>
        have HX := hide hx
        clear hx
        cases hy : inB n y with
        | false =>
          have HY := hide hy
          clear hy
          go_wp2_with (first
          | (have hgd := D1; clear hgd; go_at_call 64; refine (isState_any _ _ _ _ _ _ y _).mono ?_; rintro e w2 ⟨rfl, D2⟩; rw [HY.out]; have F2 := FK.out w2 (le_call (le_call (le_two (Below.refl _ _) _) D1) D2))
          | (go_at_call 64; refine (isState_any _ _ _ _ _ _ x _).mono ?_; rintro e w1 ⟨rfl, D1⟩; rw [HX.out]; have F1 := FK.out w1 (le_call (le_two (Below.refl _ _) _) D1); have G1 := BN.out w1 D1)
          | (go_at_call 65; refine (isSignal_any o _).mono ?_; rintro e w3 ⟨rfl, rfl⟩; rw [HO.out]))
          go_ret
          exact ⟨ret_i64 (HN2.out HY.out).symm, le_call (le_call (le_two HBW.out _) D1) D2⟩
        | true =>
        have HY := hide hy
        clear hy
        cases ho : sigB o with
        | false =>
          have HO := hide ho
          clear ho
          go_wp2_with (first
          | (have hgd := D1; clear hgd; go_at_call 64; refine (isState_any _ _ _ _ _ _ y _).mono ?_; rintro e w2 ⟨rfl, D2⟩; rw [HY.out]; have F2 := FK.out w2 (le_call (le_call (le_two (Below.refl _ _) _) D1) D2))
          | (go_at_call 64; refine (isState_any _ _ _ _ _ _ x _).mono ?_; rintro e w1 ⟨rfl, D1⟩; rw [HX.out]; have F1 := FK.out w1 (le_call (le_two (Below.refl _ _) _) D1); have G1 := BN.out w1 D1)
          | (go_at_call 65; refine (isSignal_any o _).mono ?_; rintro e w3 ⟨rfl, rfl⟩; rw [HO.out]))
          go_ret
          exact ⟨ret_i64 (HNO.out HO.out).symm, le_call (le_call (le_two HBW.out _) D1) D2⟩
        | true =>
          have HO := hide ho
          clear ho
          go_wp2_with (first
          | (have hgd := D1; clear hgd; go_at_call 64; refine (isState_any _ _ _ _ _ _ y _).mono ?_; rintro e w2 ⟨rfl, D2⟩; rw [HY.out]; have F2 := FK.out w2 (le_call (le_call (le_two (Below.refl _ _) _) D1) D2))
          | (go_at_call 64; refine (isState_any _ _ _ _ _ _ x _).mono ?_; rintro e w1 ⟨rfl, D1⟩; rw [HX.out]; have F1 := FK.out w1 (le_call (le_two (Below.refl _ _) _) D1); have G1 := BN.out w1 D1)
          | (go_at_call 65; refine (isSignal_any o _).mono ?_; rintro e w3 ⟨rfl, rfl⟩; rw [HO.out]))
          go_roundw
          case rel => exact ⟨k + 1, by omega, by go_num, le_call (le_call (le_two hbl _) D1) D2, hide (HSS.out HX.out HY.out HO.out)⟩
          case measure => simp [intOf]; omega
      · obtain rfl : k = n := by omega
        go_wp2_with fail
        go_ret
        exact ⟨ret_i64 (okTo_done (by rw [HL'.out]; exact HS.out) (by rw [HL'.out]; omega) (by rw [HL'.out]; omega) (by rw [HL.out, HL'.out])).symm, le_call HB.out hbl⟩
  · have h1i : 1 ≤ (n' : Int) := by omega
    have h6i : (n' : Int) ≤ 6 := by omega
    have hnn : ((n : Int) != n') = true := by simp; omega
    have HNN := hide (show b.1.length ≠ b.2.length from by rw [HL.out, HL'.out]; exact hn)
    clear hn
    go_enter Try.func25, Try.ntmps25
    go_wp2_with fail
    go_ret
    exact ⟨ret_i64 (errX_two HNN.out).symm, HB.out⟩
set_option maxHeartbeats 2000000 in
theorem rValidate_any (A : Option Addr) (n c : Nat) (A' : Option Addr) (n' c' : Nat) (b : Bx) (w : World) (h : BxR w A n c A' n' c' b) :
    Calls Try.prog 26 #[bV A n c A' n' c'] w fun e w' => e = .returned (.int .i64 (errX b)) ∧ Below w.heap.size w w' := by
  have HL := hide h.nx.length
  have HL' := hide h.ou.length
  have hle := h.nx.le
  have hle' := h.ou.le
  have HB := hide ((Below.refl w.heap.size w).alloc (Nat.le_refl _) (.cells #[.slice A n c, .slice A' n' c'] 25))
  have H := hide h
  have HID : Hid True := hide trivial
  clear h
  by_cases h16 : ¬ (1 ≤ n' ∧ n' ≤ 6)
  · have HW := hide (withinB_false (n := (n' : Int)) (lo := 1) (hi := 6) (by omega))
    have HE := hide (errX_len (b := b) (by rw [HL'.out]; exact h16))
    clear h16
    go_enter Try.func26, Try.ntmps26
    go_wp2_with (go_at_call 66; refine (within_any n' 1 6 _).mono ?_; rintro e w1 ⟨rfl, rfl⟩; rw [HW.out])
    go_ret
    exact ⟨ret_i64 HE.out.symm, HB.out⟩
  have h16 : 1 ≤ n' ∧ n' ≤ 6 := Decidable.of_not_not h16
  have HW := hide (withinB_true (n := (n' : Int)) (lo := 1) (hi := 6) (by omega) (by omega))
  by_cases hn : n = n'
  · subst hn
    have hnn : ((n : Int) != n) = false := by simp
    have HK := hide (Bk.born w 25 #[.slice A n c, .slice A' n c'])
    have h1 : 1 ≤ n := h16.1
    have h6 : n ≤ 6 := h16.2
    have h1i : 1 ≤ (n : Int) := by omega
    have h6i : (n : Int) ≤ 6 := by omega
    clear h16
    go_enter Try.func26, Try.ntmps26
    go_wp2_with (go_at_call 66; refine (within_any n 1 6 _).mono ?_; rintro e w1 ⟨rfl, rfl⟩; rw [HW.out])
    have hsz : (w.alloc (.cells #[.slice A n c, .slice A' n c'] 25)).heap.size = w.heap.size + 1 := by simp
    have HR := hide (H.out.below HB.out (Nat.le_refl _))
    generalize w.alloc (.cells #[.slice A n c, .slice A' n c'] 25) = W0 at *
    go_loop [4] (fun i => ∃ k : Nat, k ≤ n ∧ i = .int .i64 k ∧ Hid (OkTo b k)) (fun i => n - (intOf i).toNat)
    case atStart => exact ⟨0, Nat.zero_le _, rfl, hide (okTo_zero _)⟩
    case round =>
      obtain ⟨k, hk, rfl, HS⟩ := hrel
      by_cases hlt : k < n
      · obtain ⟨b1, o1, hr⟩ := HR.out.nx
        obtain ⟨b2, o2, hr2⟩ := HR.out.ou
        obtain rfl := hr.at_ (by omega)
        obtain rfl := hr2.at_ (by omega)
        have hc1 := cN hr hlt
        have hc2 := c1 hr2 hlt
        have hcb := bk_two HK.out
        have HLT := hide (show k < b.2.length from by rw [HL'.out]; exact hlt)
        clear hr hr2
        have HN1 := hide (errX_nx1 HLT.out)
        have HN2 := hide (errX_nx2 HLT.out)
        have HNO := hide (errX_ou HLT.out)
        have HSS := hide (okTo_succ HS.out)
        have HLN := hide (show b.2.length = n from HL'.out)
        rw [HLN.out] at HN1 HN2 HSS
        generalize (b.1.getD k (0, 0)).1 = x at *
        generalize (b.1.getD k (0, 0)).2 = y at *
        generalize b.2.getD k 0 = o at *
        have i1 : (k : Int) < (n : Int) := by omega
        cases ho : sigB o with
        | false =>
          have HO := hide (show withinB o 0 3 = false from ho)
          have HE := hide (HNO.out ho)
          clear ho
          go_wp2_with (first
          | (have hgd := D2; clear hgd; go_at_call 66; refine (within_any y 0 (n - 1) _).mono ?_; rintro e w3 ⟨rfl, rfl⟩; rw [HY.out]; have D3 := HID)
          | (have hgd := D1; clear hgd; go_at_call 66; refine (within_any x 0 (n - 1) _).mono ?_; rintro e w2 ⟨rfl, rfl⟩; rw [HX.out]; have D2 := HID; clear D1)
          | (go_at_call 66; refine (within_any o 0 3 _).mono ?_; rintro e w1 ⟨rfl, rfl⟩; rw [HO.out]; have D1 := HID))
          go_ret
          exact ⟨ret_i64 HE.out.symm, HB.out⟩
        | true =>
        have HO := hide (show withinB o 0 3 = true from ho)
        have HO2 := hide ho
        clear ho
        cases hx : inB n x with
        | false =>
          have HX := hide ((inB_within n x).trans hx)
          have HE := hide (HN1.out hx)
          clear hx
          go_wp2_with (first
          | (have hgd := D2; clear hgd; go_at_call 66; refine (within_any y 0 (n - 1) _).mono ?_; rintro e w3 ⟨rfl, rfl⟩; rw [HY.out]; have D3 := HID)
          | (have hgd := D1; clear hgd; go_at_call 66; refine (within_any x 0 (n - 1) _).mono ?_; rintro e w2 ⟨rfl, rfl⟩; rw [HX.out]; have D2 := HID; clear D1)
          | (go_at_call 66; refine (within_any o 0 3 _).mono ?_; rintro e w1 ⟨rfl, rfl⟩; rw [HO.out]; have D1 := HID))
          go_ret
          exact ⟨ret_i64 HE.out.symm, HB.out⟩
        | true =>
        have HX := hide ((inB_within n x).trans hx)
        have HX2 := hide hx
        clear hx
        cases hy : inB n y with
        | false =>
          have HY := hide ((inB_within n y).trans hy)
          have HE := hide (HN2.out hy)
          clear hy
          go_wp2_with (first
          | (have hgd := D2; clear hgd; go_at_call 66; refine (within_any y 0 (n - 1) _).mono ?_; rintro e w3 ⟨rfl, rfl⟩; rw [HY.out]; have D3 := HID)
          | (have hgd := D1; clear hgd; go_at_call 66; refine (within_any x 0 (n - 1) _).mono ?_; rintro e w2 ⟨rfl, rfl⟩; rw [HX.out]; have D2 := HID; clear D1)
          | (go_at_call 66; refine (within_any o 0 3 _).mono ?_; rintro e w1 ⟨rfl, rfl⟩; rw [HO.out]; have D1 := HID))
          go_ret
          exact ⟨ret_i64 HE.out.symm, HB.out⟩
        | true =>
          have HY := hide ((inB_within n y).trans hy)
          have HY2 := hide hy
          clear hy
          go_wp2_with (first
          | (have hgd := D2; clear hgd; go_at_call 66; refine (within_any y 0 (n - 1) _).mono ?_; rintro e w3 ⟨rfl, rfl⟩; rw [HY.out]; have D3 := HID)
          | (have hgd := D1; clear hgd; go_at_call 66; refine (within_any x 0 (n - 1) _).mono ?_; rintro e w2 ⟨rfl, rfl⟩; rw [HX.out]; have D2 := HID; clear D1)
          | (go_at_call 66; refine (within_any o 0 3 _).mono ?_; rintro e w1 ⟨rfl, rfl⟩; rw [HO.out]; have D1 := HID))
          go_round
          case rel => exact ⟨k + 1, by omega, by go_num, hide (HSS.out HX2.out HY2.out HO2.out)⟩
          case measure => simp [intOf]; omega
      · obtain rfl : k = n := by omega
        go_wp2_with fail
        go_ret
        exact ⟨ret_i64 (okTo_done (by rw [HL'.out]; exact HS.out) (by rw [HL'.out]; omega) (by rw [HL'.out]; omega) (by rw [HL.out, HL'.out])).symm, HB.out⟩
  · have hnn : ((n : Int) != n') = true := by simp; omega
    have HNN := hide (show b.1.length ≠ b.2.length from by rw [HL.out, HL'.out]; exact hn)
    clear hn
    go_enter Try.func26, Try.ntmps26
    go_wp2_with (go_at_call 66; refine (within_any n' 1 6 _).mono ?_; rintro e w1 ⟨rfl, rfl⟩; rw [HW.out])
    go_ret
    exact ⟨ret_i64 (errX_two HNN.out).symm, HB.out⟩
end Go.Proofs.Ytkjnhdkbojcojaa
