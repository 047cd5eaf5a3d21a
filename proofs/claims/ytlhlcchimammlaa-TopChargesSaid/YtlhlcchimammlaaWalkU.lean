/- In how many ways: the document's recursion. -/
import Derived.Test.YtlhlcchimammlaaWalkT
namespace Go.Proofs.Ytlhlcchimammlaa
open Go.RowKit Go.Shelf
attribute [local go_sem] Oper.semAt_some

/-- What is still to come, of a number that may be below 0. -/
def wyZ (xs : List Int) (k : Nat) (l : Int) : Int := if 0 ≤ l then wy xs k l.toNat else 0
theorem wyZ_neg {xs : List Int} {k : Nat} {l : Int} (h : l < 0) : wyZ xs k l = 0 := if_neg (by omega)
theorem wyZ_nat (xs : List Int) (k l : Nat) : wyZ xs k (l : Int) = wy xs k l := by unfold wyZ; rw [if_pos (by omega), Int.toNat_natCast]
theorem wyZ_step {xs : List Int} {k l y : Nat} (hy : (xs.getD k 0).toNat = y) (h1 : 1 ≤ y) : wy xs (k + 1) l = wy xs k l + wyZ xs (k + 1) ((l : Int) - y) := by
  by_cases h : y ≤ l
  · rw [wy_up (by omega) (by omega), hy, show ((l : Int) - (y : Int)) = ((l - y : Nat) : Int) by omega, wyZ_nat]
  · rw [wy_low (by omega), wyZ_neg (by omega)]; omega
set_option maxRecDepth 100000 in
set_option maxHeartbeats 4000000 in
theorem ways_none (xs : List Int) (A : Option Addr) (c m : Nat) (w : World) :
    Calls Try.prog 67 #[.slice A 0 c, .int .i64 (m : Int)] w fun e w' => e = .returned (.int .i64 (wy xs 0 m)) ∧ w = w' := by
  have HZ := hide (wy_zero xs m)
  by_cases h0 : m = 0
  · subst h0
    go_enter Try.func67, Try.ntmps67
    go_wp2_with fail
    go_ret
    exact ⟨ret_i64 (by rw [HZ.out]; rfl), rfl⟩
  · have hne : ((m : Int) == 0) = false := by simpa using h0
    go_enter Try.func67, Try.ntmps67
    go_wp2_with fail
    go_ret
    exact ⟨ret_i64 (by rw [HZ.out, if_neg h0]), rfl⟩
theorem mod_down {l y : Nat} (h : y ≤ l) : (l - y) % y = l % y := (Nat.mod_eq_sub_mod h).symm
set_option maxRecDepth 100000 in
set_option maxHeartbeats 4000000 in
theorem ways_first (xs : List Int) (A : Option Addr) (c m y : Nat) (w : World) (hm : m ≤ 200) (hy1 : 1 ≤ y) (hy30 : y ≤ 30) (hy : (xs.getD 0 0).toNat = y) (ys : List Int) (he : ys.getD 0 0 = (y : Int)) (h : R E1 w A 1 c ys) :
    Calls Try.prog 67 #[.slice A 1 c, .int .i64 (m : Int)] w fun e w' => e = .returned (.int .i64 (wy xs 1 m)) ∧ w = w' := by
  have HONE := hide (wy_one xs (show 1 ≤ (xs.getD 0 0).toNat from by omega) m)
  have HYY := hide hy
  obtain ⟨b, off, hr⟩ := h
  obtain rfl := hr.at_ (by omega)
  have a0 := c1 hr (k := 0) (by omega)
  have hcap := hr.cap
  rw [he, Nat.add_zero] at a0
  clear hr he hy
  have hyz : ((y : Int) == 0) = false := by simp; omega
  go_enter Try.func67, Try.ntmps67
  go_wp2_with fail
  go_loop [6, 7] (fun s v => ∃ (l : Int), s = .int .i64 0 ∧ v = .int .i64 l ∧ l ≤ m ∧ -30 ≤ l ∧ Hid ((l = m ∨ m % y ≠ 0) ∧ (0 ≤ l → l.toNat % y = m % y))) (fun _ v => (intOf v + 31).toNat)
  case atStart => exact ⟨m, rfl, rfl, Int.le_refl _, by omega, hide ⟨.inl rfl, fun _ => by rw [Int.toNat_natCast]⟩⟩
  case round =>
    obtain ⟨l, rfl, rfl, hl1, hl2, HT⟩ := hrel
    by_cases hlt : 0 ≤ l
    · obtain ⟨p, rfl⟩ : ∃ p : Nat, l = (p : Int) := ⟨l.toNat, by omega⟩
      have hp := HT.out.2 hlt
      rw [Int.toNat_natCast] at hp
      have hmod : IntKind.i64.wrap ((p : Int).tmod (y : Int)) = ((p % y : Nat) : Int) := by
        rw [show (p : Int).tmod (y : Int) = ((p % y : Nat) : Int) from rfl]
        have : p % y < y := Nat.mod_lt _ (by omega)
        exact IntWalk.i64_in _ (by omega)
      by_cases hz : p % y = 0
      · have HZ := hide hz
        have HP := hide hp
        have hmz : (p : Int) % (y : Int) = 0 := by rw [← Int.natCast_emod, hz]; rfl
        clear hz hp
        go_wp2_with fail
        go_ret
        exact ⟨ret_i64 (by rw [HONE.out, HYY.out, if_pos (by rw [← HP.out, HZ.out])]; try rfl), rfl⟩
      · have hzn : ((p : Int) % (y : Int) == 0) = false := by rw [← Int.natCast_emod]; simp only [beq_eq_false_iff_ne, ne_eq, Int.natCast_eq_zero]; exact hz
        have HT2 := hide (show ((p : Int) - (y : Int) = m ∨ m % y ≠ 0) ∧ (0 ≤ (p : Int) - (y : Int) → ((p : Int) - (y : Int)).toNat % y = m % y) from ⟨.inr (by rw [← hp]; exact hz), fun h0 => by
          rw [show ((p : Int) - (y : Int)).toNat = p - y by omega, mod_down (by omega), hp]⟩)
        clear hz hp
        go_wp2_with fail
        go_round
        case rel => exact ⟨_, rfl, rfl, by omega, by omega, HT2⟩
        case measure => simp [intOf]; omega
    · have hl0 : l < 0 := by omega
      have HNO := hide (show wy xs 1 m = 0 from by
        rw [HONE.out, HYY.out]
        rcases HT.out.1 with h | h
        · omega
        · exact if_neg h)
      go_wp2_with fail
      go_ret
      exact ⟨ret_i64 (by rw [HNO.out]), rfl⟩
set_option maxRecDepth 100000 in
set_option maxHeartbeats 4000000 in
theorem ways_more (xs : List Int) (k : Nat) (A : Option Addr) (c m : Nat) (w : World) (hk0 : 1 ≤ k) (hk4 : k ≤ 3) (hm : m ≤ 200) (y : Nat) (hy1 : 1 ≤ y) (hy30 : y ≤ 30) (hy : (xs.getD k 0).toNat = y) (ys : List Int) (he : ys.getD k 0 = (y : Int)) (h : R E1 w A (k + 1) c ys)
    (ih : ∀ m : Nat, m ≤ 200 → Calls Try.prog 67 #[.slice A k k, .int .i64 (m : Int)] w fun e w' => e = .returned (.int .i64 (wy xs k m)) ∧ w = w') :
    Calls Try.prog 67 #[.slice A (k + 1) c, .int .i64 (m : Int)] w fun e w' => e = .returned (.int .i64 (wy xs (k + 1) m)) ∧ w = w' := by
  have IH := hide ih
  have HYY := hide hy
  have HMX := hide (fun (i : Nat) (l : Nat) (hi : i ≤ 4) (hl : l ≤ 200) => wy_max (w := xs) (k := i) (n := l) hi hl)
  have HNN := hide (fun (i l : Nat) => wy_nn xs i l)
  have HST := hide (fun l : Nat => wyZ_step (xs := xs) (k := k) (l := l) (y := y) HYY.out (by omega))
  have hle := h.le
  obtain ⟨b, off, hr⟩ := h
  obtain rfl := hr.at_ (by omega)
  have a1 := c1 hr (k := k) (by omega)
  rw [he] at a1
  have hcap := hr.cap
  have hmax := hr.max
  have hkz : ((k : Int) == 0) = false := by simp; omega
  have hkz1 : ((k : Int) + 1 == 0) = false := by simp; omega
  have hkp : (0 : Int) < (k : Int) := by omega
  clear hr he hy ih
  go_enter Try.func67, Try.ntmps67
  go_wp2_with fail
  go_loop [6, 7] (fun s v => ∃ (t l : Int), s = .int .i64 t ∧ v = .int .i64 l ∧ l ≤ m ∧ -30 ≤ l ∧ 0 ≤ t ∧ Hid (t + wyZ xs (k + 1) l = wy xs (k + 1) m)) (fun _ v => (intOf v + 31).toNat)
  case atStart => exact ⟨0, m, rfl, rfl, Int.le_refl _, by omega, by omega, hide (by rw [wyZ_nat]; omega)⟩
  case round =>
    obtain ⟨t, l, rfl, rfl, hl1, hl2, ht0, HT⟩ := hrel
    by_cases hlt : 0 ≤ l
    · obtain ⟨p, rfl⟩ : ∃ p : Nat, l = (p : Int) := ⟨l.toNat, by omega⟩
      have hT := HT.out
      rw [wyZ_nat, HST.out p] at hT
      have hb := HMX.out (k + 1) m (by omega) hm
      have hv := HNN.out k p
      have hz : 0 ≤ wyZ xs (k + 1) ((p : Int) - y) := by
        unfold wyZ
        split
        · exact HNN.out _ _
        · omega
      have HT2 := hide hT
      have htb : t ≤ 1632240801 := by omega
      have hvb : wy xs k p ≤ 1632240801 := by omega
      clear hT hb hz
      go_wp2_with (go_at_call 67; refine (IH.out p (by omega)).mono ?_; rintro e w' ⟨rfl, rfl⟩)
      go_round
      case rel => exact ⟨_, _, rfl, rfl, by omega, by omega, by omega, hide (by have := HT2.out; omega)⟩
      case measure => simp [intOf]; omega
    · have hT := HT.out
      rw [wyZ_neg (by omega)] at hT
      have HT2 := hide hT
      clear hT
      have hl0 : l < 0 := by omega
      go_wp2_with fail
      go_ret
      exact ⟨ret_i64 (by have := HT2.out; omega), rfl⟩
set_option maxRecDepth 100000 in
theorem ways_any (xs : List Int) (hw : Wt xs) (hl4 : xs.length ≤ 4) : ∀ (k : Nat) (A : Option Addr) (c m : Nat) (w : World), k ≤ xs.length → m ≤ 200 → R E1 w A k c (xs.take k) →
    Calls Try.prog 67 #[.slice A k c, .int .i64 (m : Int)] w fun e w' => e = .returned (.int .i64 (wy xs k m)) ∧ w = w'
  | 0, A, c, m, w, _, _, _ => ways_none xs A c m w
  | k + 1, A, c, m, w, hk, hm, h => by
    have hx := hw.at_ (k := k) (by omega)
    have e1 : (xs.take (k + 1)).getD k 0 = xs.getD k 0 := by rw [List.getD_eq_getElem?_getD, List.getD_eq_getElem?_getD, List.getElem?_take, if_pos (by omega)]
    by_cases hk0 : k = 0
    · subst hk0
      exact ways_first xs A c m _ w hm (by omega) (by omega) rfl _ (by rw [e1]; omega) h
    · refine ways_more xs k A c m w (by omega) (by omega) hm _ (by omega) (by omega) rfl _ (by rw [e1]; omega) h (fun m hm => ways_any xs hw hl4 k A k m w (by omega) hm ?_)
      obtain ⟨b, off, hr⟩ := h
      have := hr.pre (i := k) (by omega)
      rwa [List.take_take, Nat.min_eq_left (by omega)] at this
theorem rWays_any (A : Option Addr) (n c : Nat) (xs : List Int) (m : Int) (w : World) (h : R E1 w A n c xs) :
    Calls Try.prog 33 #[.slice A n c, .int .i64 m] w fun e w' => e = .returned (.tuple #[.int .i64 (waysV xs m), .int .i64 (errY xs m)]) ∧ Below w.heap.size w w' := by
  have H := hide h
  by_cases he : errA xs m = 0
  · have HE := hide he
    have hV := (errA_ok.1 he).1
    obtain ⟨N, rfl, hN, hw⟩ := errA_am he
    have hl := h.length
    by_cases hm : N ≤ 200
    · have hY := errY_fine he (by omega)
      have HY := hide hY
      have HWV := hide (waysV_ok hY)
      have HC := hide (fun w' (hb : Below w.heap.size w w') => ways_any xs hw hV.2.1 n A c N w' (by omega) hm (by have := (H.out.below hb (Nat.le_refl _)); rwa [← hl, List.take_length, hl] at *))
      have HL := hide hl
      have hN2 : (N : Int) ≤ 200 := by omega
      clear he hV hw hl h hY
      go_enter Try.func33, Try.ntmps33
      go_wp2_with (first
        | (go_at_call 64; refine (asked_any _ _ _ xs _ _ H.out).mono ?_; rintro e w1 ⟨rfl, q1, hw1⟩; rw [HE.out]; have BX := show Below w.heap.size w w1 from (by rw [hw1]; exact below_drewN (Below.refl _ _) q1); clear hw1)
        | (go_at_call 67; refine (HC.out _ (by first | exact BX | exact Below.refl _ _)).mono ?_; rintro e w2 ⟨rfl, rfl⟩))
      go_ret2
      exact ⟨by rw [HWV.out, HY.out, HL.out]; rfl, BX⟩
    · have hY := errY_big he (by omega)
      have HY := hide hY
      have HWV := hide (waysV_no (xs := xs) (m := (N : Int)) (by rw [hY]; decide))
      have hN2 : (200 : Int) < (N : Int) := by omega
      clear he h hY
      go_enter Try.func33, Try.ntmps33
      go_wp2_with (go_at_call 64; refine (asked_any _ _ _ xs _ _ H.out).mono ?_; rintro e w1 ⟨rfl, q1, hw1⟩; rw [HE.out]; have BX := show Below w.heap.size w w1 from (by rw [hw1]; exact below_drewN (Below.refl _ _) q1); clear hw1)
      go_ret2
      exact ⟨by rw [HWV.out, HY.out]; rfl, BX⟩
  · have HY := hide (errY_no he)
    have HWV := hide (waysV_no (xs := xs) (m := m) (by rw [errY_no he]; exact he))
    have hne : (errA xs m != 0) = true := by simpa using he
    clear he h
    go_enter Try.func33, Try.ntmps33
    go_wp2_with (go_at_call 64; refine (asked_any _ _ _ xs _ _ H.out).mono ?_; rintro e w1 ⟨rfl, q1, hw1⟩; have BX := show Below w.heap.size w w1 from (by rw [hw1]; exact below_drewN (Below.refl _ _) q1); clear hw1)
    go_ret2
    exact ⟨by rw [HWV.out, HY.out]; rfl, BX⟩
end Go.Proofs.Ytlhlcchimammlaa
