/- Walks: the costs, and two logs with costs. -/
import Derived.Test.YtndfdminjegldaaWalkA
namespace Go.Proofs.Ytndfdminjegldaa
open Go.RowKit Go.Shelf
attribute [local go_sem] Oper.semAt_some

/-- The costs as they are handed. -/
abbrev cV (o i k : Int) : Value := .agg #[.int .i64 o, .int .i64 i, .int .i64 k]
def ckTo (o i k : Int) (t : Nat) : Prop := (1 ≤ t → 1 ≤ o ∧ o ≤ 9) ∧ (2 ≤ t → 1 ≤ i ∧ i ≤ 9) ∧ (3 ≤ t → 1 ≤ k ∧ k ≤ 9)
set_option maxRecDepth 100000 in
set_option maxHeartbeats 4000000 in
theorem ValidateCosts_any (o i k : Int) (w : World) :
    Calls Try.prog 24 #[cV o i k] w fun e w' => e = .returned (.int .i64 (errC ⟨o, i, k⟩)) ∧ Below w.heap.size w w' := by
  have B1 := hide ((Below.refl w.heap.size w).alloc (Nat.le_refl _) (.cells #[.int .i64 o, .int .i64 i, .int .i64 k] 24))
  have HNO := hide (errC_no (c := ⟨o, i, k⟩))
  have HOK := hide (errC_ok (c := ⟨o, i, k⟩))
  have i0 : ∀ w, (Instr.index 67 (.agg #[.int .i64 o, .int .i64 i, .int .i64 k]) (.int .i64 0)).run Try.prog w = .ok (.int .i64 o) w := fun _ => by kernel_rfl
  have i1 : ∀ w, (Instr.index 67 (.agg #[.int .i64 o, .int .i64 i, .int .i64 k]) (.int .i64 1)).run Try.prog w = .ok (.int .i64 i) w := fun _ => by kernel_rfl
  have i2 : ∀ w, (Instr.index 67 (.agg #[.int .i64 o, .int .i64 i, .int .i64 k]) (.int .i64 2)).run Try.prog w = .ok (.int .i64 k) w := fun _ => by kernel_rfl
  go_enter Try.func24, Try.ntmps24
  go_wp2_with fail
  go_loop [12] (fun s => ∃ t : Nat, t ≤ 3 ∧ s = .int .i64 t ∧ ckTo o i k t) (fun s => 3 - (intOf s).toNat)
  case atStart => exact ⟨0, by omega, rfl, fun h => by omega, fun h => by omega, fun h => by omega⟩
  case round =>
    obtain ⟨t, ht, rfl, hck⟩ := hrel
    have HCK := hide hck
    clear hck
    obtain rfl | rfl | rfl | rfl : t = 0 ∨ t = 1 ∨ t = 2 ∨ t = 3 := by omega
    · by_cases h1 : 1 ≤ o
      · by_cases h2 : o ≤ 9
        · go_wp2_with fail
          go_round
          case rel => exact ⟨1, by omega, rfl, fun _ => ⟨h1, h2⟩, fun h => by omega, fun h => by omega⟩
          case measure => simp [intOf]
        · have h2' : 9 < o := by omega
          go_wp2_with fail
          go_ret
          exact ⟨ret_i64 (HNO.out (fun h => by have := h.1; simp at this; omega)).symm, B1.out⟩
      · have h1' : o < 1 := by omega
        go_wp2_with fail
        go_ret
        exact ⟨ret_i64 (HNO.out (fun h => by have := h.1; simp at this; omega)).symm, B1.out⟩
    · by_cases h1 : 1 ≤ i
      · by_cases h2 : i ≤ 9
        · go_wp2_with fail
          go_round
          case rel => exact ⟨2, by omega, rfl, fun _ => HCK.out.1 (by omega), fun _ => ⟨h1, h2⟩, fun h => by omega⟩
          case measure => simp [intOf]
        · have h2' : 9 < i := by omega
          go_wp2_with fail
          go_ret
          exact ⟨ret_i64 (HNO.out (fun h => by have := h.2.1; simp at this; omega)).symm, B1.out⟩
      · have h1' : i < 1 := by omega
        go_wp2_with fail
        go_ret
        exact ⟨ret_i64 (HNO.out (fun h => by have := h.2.1; simp at this; omega)).symm, B1.out⟩
    · by_cases h1 : 1 ≤ k
      · by_cases h2 : k ≤ 9
        · go_wp2_with fail
          go_round
          case rel => exact ⟨3, by omega, rfl, fun _ => HCK.out.1 (by omega), fun _ => HCK.out.2.1 (by omega), fun _ => ⟨h1, h2⟩⟩
          case measure => simp [intOf]
        · have h2' : 9 < k := by omega
          go_wp2_with fail
          go_ret
          exact ⟨ret_i64 (HNO.out (fun h => by have := h.2.2; simp at this; omega)).symm, B1.out⟩
      · have h1' : k < 1 := by omega
        go_wp2_with fail
        go_ret
        exact ⟨ret_i64 (HNO.out (fun h => by have := h.2.2; simp at this; omega)).symm, B1.out⟩
    · go_wp2_with fail
      go_ret
      exact ⟨ret_i64 (HOK.out.2 ⟨HCK.out.1 (by omega), HCK.out.2.1 (by omega), HCK.out.2.2 (by omega)⟩).symm, B1.out⟩
set_option maxRecDepth 100000 in
set_option maxHeartbeats 4000000 in
theorem rValidateCosts_any (o i k : Int) (w : World) :
    Calls Try.prog 25 #[cV o i k] w fun e w' => e = .returned (.int .i64 (errC ⟨o, i, k⟩)) ∧ Below w.heap.size w w' := by
  have B1 := hide ((Below.refl w.heap.size w).alloc (Nat.le_refl _) (.cells #[.int .i64 o, .int .i64 i, .int .i64 k] 24))
  have HNO := hide (errC_no (c := ⟨o, i, k⟩))
  have HOK := hide (errC_ok (c := ⟨o, i, k⟩))
  rcases withinB_dec o 1 9 with ⟨h1, h1'⟩ | ⟨h1, h1'⟩ <;> rcases withinB_dec i 1 9 with ⟨h2, h2'⟩ | ⟨h2, h2'⟩ <;> rcases withinB_dec k 1 9 with ⟨h3, h3'⟩ | ⟨h3, h3'⟩
  all_goals
    have H1 := hide h1
    have H2 := hide h2
    have H3 := hide h3
    have H4 := hide h1'
    have H5 := hide h2'
    have H6 := hide h3'
    clear h1 h2 h3 h1' h2' h3'
    go_enter Try.func25, Try.ntmps25
    go_wp2_with (first
      | (go_at_call_of 58 (Value.int .i64 o); refine (within_any o 1 9 _).mono ?_; rintro e w' ⟨rfl, rfl⟩; rw [H1.out])
      | (go_at_call_of 58 (Value.int .i64 i); refine (within_any i 1 9 _).mono ?_; rintro e w' ⟨rfl, rfl⟩; rw [H2.out])
      | (go_at_call_of 58 (Value.int .i64 k); refine (within_any k 1 9 _).mono ?_; rintro e w' ⟨rfl, rfl⟩; rw [H3.out]))
    go_ret
    first
      | exact ⟨ret_i64 (HOK.out.2 ⟨H4.out, H5.out, H6.out⟩).symm, B1.out⟩
      | exact ⟨ret_i64 (HNO.out (fun h => H4.out h.1)).symm, B1.out⟩
      | exact ⟨ret_i64 (HNO.out (fun h => H5.out h.2.1)).symm, B1.out⟩
      | exact ⟨ret_i64 (HNO.out (fun h => H6.out h.2.2)).symm, B1.out⟩
set_option maxHeartbeats 1000000 in
theorem validateBoth_any (A : Option Addr) (n c : Nat) (xs : List Int) (A' : Option Addr) (n' c' : Nat) (ys : List Int) (w : World) (h : R E1 w A n c xs) (h' : R E1 w A' n' c' ys) :
    Calls Try.prog 72 #[.slice A n c, .slice A' n' c'] w fun e w' => e = .returned (.int .i64 (errB xs ys)) ∧ w = w' := by
  have H := hide h
  have H' := hide h'
  clear h h'
  by_cases he : errL xs = 0
  · have HE := hide he
    have HB := hide (errB_yes (m := ys) he)
    clear he
    go_enter Try.func72, Try.ntmps72
    go_wp2_with (first
      | (go_at_call_of 22 (Value.slice A n c); refine (Validate_any A n c xs _ H.out).mono ?_; rintro e w1 ⟨rfl, rfl⟩; rw [HE.out])
      | (go_at_call_of 22 (Value.slice A' n' c'); refine (Validate_any A' n' c' ys _ H'.out).mono ?_; rintro e w1 ⟨rfl, rfl⟩))
    go_ret
    exact ⟨ret_i64 HB.out.symm, rfl⟩
  · have HB := hide (errB_no (m := ys) he)
    have hne : (errL xs != 0) = true := by simpa using he
    clear he
    go_enter Try.func72, Try.ntmps72
    go_wp2_with (go_at_call 22; refine (Validate_any A n c xs _ H.out).mono ?_; rintro e w1 ⟨rfl, rfl⟩)
    go_ret
    exact ⟨ret_i64 HB.out.symm, rfl⟩
set_option maxHeartbeats 1000000 in
theorem rtwo_any (A : Option Addr) (n c : Nat) (xs : List Int) (A' : Option Addr) (n' c' : Nat) (ys : List Int) (w : World) (h : R E1 w A n c xs) (h' : R E1 w A' n' c' ys) :
    Calls Try.prog 74 #[.slice A n c, .slice A' n' c'] w fun e w' => e = .returned (.int .i64 (errB xs ys)) ∧ w = w' := by
  have H := hide h
  have H' := hide h'
  clear h h'
  by_cases he : errL xs = 0
  · have HE := hide he
    have HB := hide (errB_yes (m := ys) he)
    clear he
    go_enter Try.func74, Try.ntmps74
    go_wp2_with (first
      | (go_at_call_of 23 (Value.slice A n c); refine (rValidate_any A n c xs _ H.out).mono ?_; rintro e w1 ⟨rfl, rfl⟩; rw [HE.out])
      | (go_at_call_of 23 (Value.slice A' n' c'); refine (rValidate_any A' n' c' ys _ H'.out).mono ?_; rintro e w1 ⟨rfl, rfl⟩))
    go_ret
    exact ⟨ret_i64 HB.out.symm, rfl⟩
  · have HB := hide (errB_no (m := ys) he)
    have hne : (errL xs != 0) = true := by simpa using he
    clear he
    go_enter Try.func74, Try.ntmps74
    go_wp2_with (go_at_call 23; refine (rValidate_any A n c xs _ H.out).mono ?_; rintro e w1 ⟨rfl, rfl⟩)
    go_ret
    exact ⟨ret_i64 HB.out.symm, rfl⟩
set_option maxHeartbeats 1000000 in
theorem validateAll_any (A : Option Addr) (n c : Nat) (xs : List Int) (A' : Option Addr) (n' c' : Nat) (ys : List Int) (o i k : Int) (w : World) (h : R E1 w A n c xs) (h' : R E1 w A' n' c' ys) :
    Calls Try.prog 55 #[.slice A n c, .slice A' n' c', cV o i k] w fun e w' => e = .returned (.int .i64 (errD xs ys ⟨o, i, k⟩)) ∧ Below w.heap.size w w' := by
  have B1 := hide ((Below.refl w.heap.size w).alloc (Nat.le_refl _) (.cells #[.int .i64 o, .int .i64 i, .int .i64 k] 24))
  have H := hide (h.below B1.out (Nat.le_refl _))
  have H' := hide (h'.below B1.out (Nat.le_refl _))
  clear h h'
  by_cases he : errB xs ys = 0
  · have HE := hide he
    have HB := hide (errD_yes (c := ⟨o, i, k⟩) he)
    clear he
    go_enter Try.func55, Try.ntmps55
    go_wp2_with (first
      | (go_at_call 72; refine (validateBoth_any A n c xs A' n' c' ys _ H.out H'.out).mono ?_; rintro e w1 ⟨rfl, rfl⟩; rw [HE.out])
      | (go_at_call 24; refine (ValidateCosts_any o i k _).mono ?_; rintro e w1 ⟨rfl, b1⟩; have D1 := hide b1; clear b1))
    go_ret
    exact ⟨ret_i64 HB.out.symm, le_call B1.out D1.out⟩
  · have HB := hide (errD_no (c := ⟨o, i, k⟩) he)
    have hne : (errB xs ys != 0) = true := by simpa using he
    clear he
    go_enter Try.func55, Try.ntmps55
    go_wp2_with (go_at_call 72; refine (validateBoth_any A n c xs A' n' c' ys _ H.out H'.out).mono ?_; rintro e w1 ⟨rfl, rfl⟩)
    go_ret
    exact ⟨ret_i64 HB.out.symm, B1.out⟩
set_option maxHeartbeats 1000000 in
theorem rcosted_any (A : Option Addr) (n c : Nat) (xs : List Int) (A' : Option Addr) (n' c' : Nat) (ys : List Int) (o i k : Int) (w : World) (h : R E1 w A n c xs) (h' : R E1 w A' n' c' ys) :
    Calls Try.prog 57 #[.slice A n c, .slice A' n' c', cV o i k] w fun e w' => e = .returned (.int .i64 (errD xs ys ⟨o, i, k⟩)) ∧ Below w.heap.size w w' := by
  have B1 := hide ((Below.refl w.heap.size w).alloc (Nat.le_refl _) (.cells #[.int .i64 o, .int .i64 i, .int .i64 k] 24))
  have H := hide (h.below B1.out (Nat.le_refl _))
  have H' := hide (h'.below B1.out (Nat.le_refl _))
  clear h h'
  by_cases he : errB xs ys = 0
  · have HE := hide he
    have HB := hide (errD_yes (c := ⟨o, i, k⟩) he)
    clear he
    go_enter Try.func57, Try.ntmps57
    go_wp2_with (first
      | (go_at_call 74; refine (rtwo_any A n c xs A' n' c' ys _ H.out H'.out).mono ?_; rintro e w1 ⟨rfl, rfl⟩; rw [HE.out])
      | (go_at_call 25; refine (rValidateCosts_any o i k _).mono ?_; rintro e w1 ⟨rfl, b1⟩; have D1 := hide b1; clear b1))
    go_ret
    exact ⟨ret_i64 HB.out.symm, le_call B1.out D1.out⟩
  · have HB := hide (errD_no (c := ⟨o, i, k⟩) he)
    have hne : (errB xs ys != 0) = true := by simpa using he
    clear he
    go_enter Try.func57, Try.ntmps57
    go_wp2_with (go_at_call 74; refine (rtwo_any A n c xs A' n' c' ys _ H.out H'.out).mono ?_; rintro e w1 ⟨rfl, rfl⟩)
    go_ret
    exact ⟨ret_i64 HB.out.symm, B1.out⟩
end Go.Proofs.Ytndfdminjegldaa
