/- Which of two rows is before the other; isNormal. -/
import Derived.Test.YtllfkhcpdgdmnaaMir
namespace Go.Proofs.Ytllfkhcpdgdmnaa
open Go.RowKit

/-- Whether a row is not behind another one of the same length. -/
def befB : List Int → List Int → Bool
  | x :: xs, y :: ys => if x = y then befB xs ys else decide (x < y)
  | _, _ => true
theorem bef_at : ∀ (k : Nat) (xs ys : List Int), k < xs.length → k < ys.length → (∀ j, j < k → xs.getD j 0 = ys.getD j 0) → xs.getD k 0 ≠ ys.getD k 0 → befB xs ys = decide (xs.getD k 0 < ys.getD k 0)
  | 0, x :: xs, y :: ys, _, _, _, h => by
    simp at h
    simp [befB, h]
  | k + 1, x :: xs, y :: ys, h1, h2, h3, h4 => by
    have e0 : x = y := by simpa using h3 0 (by omega)
    have ih := bef_at k xs ys (by simpa using h1) (by simpa using h2) (fun j hj => by simpa using h3 (j + 1) (by omega)) (by simpa using h4)
    simp [befB, e0]
    simpa using ih
theorem bef_all : ∀ (xs ys : List Int), (∀ j, j < xs.length → xs.getD j 0 = ys.getD j 0) → befB xs ys = true
  | [], _, _ => by simp [befB]
  | x :: xs, [], _ => by simp [befB]
  | x :: xs, y :: ys, h => by
    have e0 : x = y := by simpa using h 0 (by simp)
    have ih := bef_all xs ys (fun j hj => by simpa using h (j + 1) (by simpa using hj))
    simp [befB, e0, ih]
def cmpI (a b : Int) : Int := if a < b then -1 else if b < a then 1 else 0
set_option maxHeartbeats 400000 in
theorem cmpC_any (a b : Int) (w : World) :
    Calls Try.prog 101 #[.int .i64 a, .int .i64 b] w fun e w' => e = .returned (.int .i64 (cmpI a b)) ∧ w = w' := by
  have na : (a != a) = false := by simp
  have nb : (b != b) = false := by simp
  unfold cmpI
  by_cases h1 : a < b
  · rw [if_pos h1]
    go_enter Try.func101, Try.ntmps101
    go_wp2
    go_ret
    exact ⟨rfl, rfl⟩
  · rw [if_neg h1]
    by_cases h2 : b < a
    · rw [if_pos h2]
      go_enter Try.func101, Try.ntmps101
      go_wp2
      go_ret
      exact ⟨rfl, rfl⟩
    · rw [if_neg h2]
      go_enter Try.func101, Try.ntmps101
      go_wp2
      go_ret
      exact ⟨rfl, rfl⟩
theorem cmpI_eq {a b : Int} (h : a = b) : cmpI a b = 0 := by subst h; simp [cmpI]
theorem cmpI_ne {a b : Int} (h : a ≠ b) : cmpI a b ≠ 0 := by
  unfold cmpI
  by_cases h1 : a < b
  · simp [h1]
  · have h2 : b < a := by omega
    simp [h1, h2]
theorem cmpI_le {a b : Int} (h : a ≠ b) : decide (cmpI a b ≤ 0) = decide (a < b) := by
  unfold cmpI
  by_cases h1 : a < b
  · simp [h1]
  · have h2 : b < a := by omega
    simp [h1, h2]
set_option maxRecDepth 100000 in
set_option maxHeartbeats 2000000 in
theorem Compare_any (A : Option Addr) (n c : Nat) (A' : Option Addr) (c' : Nat) (xs ys : List Int) (w : World) (h : R E1 w A n c xs) (h' : R E1 w A' n c' ys) (hn : n ≤ 1000) :
    Calls Try.prog 96 #[.slice A n c, .slice A' n c'] w fun e w' => (∃ v, e = .returned (.int .i64 v) ∧ decide (v ≤ 0) = befB xs ys) ∧ Below w.heap.size w w' := by
  have H1 := hide h.length
  have H2 := hide h'.length
  obtain ⟨b, off, hr⟩ := h
  obtain ⟨b', off', hr'⟩ := h'
  have HR := hide hr
  have HR' := hide hr'
  have hcap := hr.cap
  have hmax := hr.max
  have hcap' := hr'.cap
  have hmax' := hr'.max
  clear hr hr'
  go_enter Try.func96, Try.ntmps96
  go_wp2_with fail
  go_loopw [11] (fun i wr => ∃ k : Nat, k ≤ n ∧ i = .int .i64 k ∧ Hid (Below w.heap.size w wr) ∧ Hid (∀ j, j < k → xs.getD j 0 = ys.getD j 0)) (fun i _ => n - (intOf i).toNat)
  case atStart => exact ⟨0, Nat.zero_le _, rfl, hide (Below.refl _ _), fun j hj => absurd hj (Nat.not_lt_zero j)⟩
  case round =>
    obtain ⟨k, hk, rfl, HD, HS⟩ := hrel
    by_cases hlt : k < n
    · obtain rfl := HR.out.at_ (by omega)
      obtain rfl := HR'.out.at_ (by omega)
      have hbl := HR.out.lt (by omega)
      have hbl' := HR'.out.lt (by omega)
      have a1 := c1 (HR.out.below HD.out (Nat.le_refl _)) hlt
      have d1 := c1 (HR'.out.below HD.out (Nat.le_refl _)) hlt
      have i1 : (k : Int) < (n : Int) := by omega
      have i2 : ¬ (n : Int) ≤ (k : Int) := by omega
      by_cases hxy : xs.getD k 0 = ys.getD k 0
      · have HK := hide (fun j (hj : j < k + 1) => (show xs.getD j 0 = ys.getD j 0 from by
          by_cases e : j = k
          · subst e; exact hxy
          · exact HS.out j (by omega)))
        have hz := cmpI_eq hxy
        have hz2 : (cmpI (xs.getD k 0) (ys.getD k 0) != 0) = false := by rw [hz]; rfl
        clear hz hxy
        generalize xs.getD k 0 = x at a1 hz2
        generalize ys.getD k 0 = y at d1 hz2
        go_wp2_with (go_at_call 101; refine (cmpC_any _ _ _).mono ?_; rintro e w1 ⟨rfl, rfl⟩)
        go_roundw
        case rel => exact ⟨k + 1, by omega, by go_num, HD, HK⟩
        case measure => simp [intOf]; omega
      · have HK := hide (bef_at k xs ys (by rw [H1.out]; exact hlt) (by rw [H2.out]; exact hlt) HS.out hxy)
        have hz2 : (cmpI (xs.getD k 0) (ys.getD k 0) != 0) = true := by simpa using cmpI_ne hxy
        have HL := hide (cmpI_le hxy)
        generalize xs.getD k 0 = x at a1 hz2 HK HL
        generalize ys.getD k 0 = y at d1 hz2 HK HL
        go_wp2_with (go_at_call 101; refine (cmpC_any _ _ _).mono ?_; rintro e w1 ⟨rfl, rfl⟩)
        go_ret
        exact ⟨⟨_, rfl, by rw [HK.out, HL.out]⟩, HD.out⟩
    · obtain rfl : k = n := by omega
      have i3 : ¬ (k : Int) < (k : Int) := by omega
      go_wp2_with fail
      go_ret
      exact ⟨⟨_, rfl, by rw [bef_all xs ys (fun j hj => HS.out j (by rw [H1.out] at hj; exact hj))]; rfl⟩, HD.out⟩
def norB (c : List Int) : Bool := befB c (mir c)
set_option maxHeartbeats 1000000 in
theorem isNormal_any (A : Option Addr) (n c : Nat) (L : List Int) (w : World) (h : R E1 w A n c L) (hn1 : 1 ≤ n) (hn : n ≤ 10) (hb : ∀ k, k < n → -1000 ≤ L.getD k 0 ∧ L.getD k 0 ≤ 1000) :
    Calls Try.prog 76 #[.slice A n c] w fun e w' => e = .returned (.bool (norB L)) ∧ Below w.heap.size w w' := by
  have HX := hide h
  have HL := hide h.length
  have HB := hide hb
  clear h hb
  go_enter Try.func76, Try.ntmps76
  go_wp2_with (first
    | (go_at_call 68; refine (mirror_any _ _ _ L _ HX.out hn1 hn HB.out).mono ?_; rintro e w2 ⟨A2, n2, c2, rfl, o2, b2⟩; obtain rfl : n2 = n := (by rw [← o2.len, mir_len, HL.out]); have HO2 := hide o2; have B2 := hide b2; clear o2 b2)
    | (go_at_call 96; refine (Compare_any _ _ _ _ _ L (mir L) _ (HX.out.below B2.out (Nat.le_refl _)) HO2.out.row (by omega)).mono ?_; rintro e w3 ⟨⟨v, rfl, hv⟩, b3⟩; have HV := hide hv; have B3 := hide b3; clear hv b3))
  go_ret
  exact ⟨ret_bool HV.out, B2.out.trans (B3.out.mono B2.out.size)⟩
end Go.Proofs.Ytllfkhcpdgdmnaa
