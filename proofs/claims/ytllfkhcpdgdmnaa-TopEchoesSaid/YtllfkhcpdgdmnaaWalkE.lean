/- The program's differences: the delays of cliffs. -/
import Derived.Test.YtllfkhcpdgdmnaaWalkD
namespace Go.Proofs.Ytllfkhcpdgdmnaa
open Go.RowKit Go.Shelf

/-- What comes of the place at i and the first k. -/
def rowD (xs : List Int) (i k : Nat) : List Int := (List.range k).map fun j => xs.getD i 0 - xs.getD j 0
/-- What comes of the first i places. -/
def difTo (xs : List Int) (i : Nat) : List Int := (List.range i).flatMap fun i => rowD xs i i
/-- The delays, in the order of the places. -/
def dif (xs : List Int) : List Int := difTo xs xs.length
theorem rowD_zero (xs : List Int) (i : Nat) : rowD xs i 0 = [] := rfl
theorem rowD_succ (xs : List Int) (i k : Nat) : rowD xs i (k + 1) = rowD xs i k ++ [xs.getD i 0 - xs.getD k 0] := by
  unfold rowD; rw [List.range_succ, List.map_append]; rfl
theorem difTo_zero (xs : List Int) : difTo xs 0 = [] := rfl
theorem difTo_succ (xs : List Int) (i : Nat) : difTo xs (i + 1) = difTo xs i ++ rowD xs i i := by
  unfold difTo; rw [List.range_succ, List.flatMap_append]; simp
theorem okTo_bd {xs : List Int} {n : Nat} (h : OkTo xs n) {i : Nat} (hi : i < n) : -60 ≤ xs.getD i 0 ∧ xs.getD i 0 ≤ 60 := by
  have := okB_iff.1 (h i hi)
  omega
set_option maxHeartbeats 4000000 in
theorem differences_any (A : Option Addr) (n c : Nat) (xs : List Int) (w : World) (h : R E1 w A n c xs) (hn : n ≤ 6) (hv : OkTo xs n) :
    Calls Try.prog 58 #[.slice A n c] w (IntsPost (sortZ (dif xs)) w) := by
  have HL := hide h.length
  have HV := hide hv
  clear hv
  obtain ⟨b, off, hr⟩ := h
  have HR := hide hr
  have hcap := hr.cap
  have hmax := hr.max
  clear hr
  go_enter Try.func58, Try.ntmps58
  go_wp2_with fail
  go_loopw [3, 10] (fun v i wr => ∃ (k : Nat) (B : Option Addr) (m q : Nat), k ≤ n ∧ i = .int .i64 k ∧ v = .slice B m q ∧ Hid (Own E1 wr w.heap.size 3 B m q (difTo xs k)) ∧ Hid (m ≤ 6 * k) ∧ Hid (Below w.heap.size w wr)) (fun _ i _ => n - (intOf i).toNat)
  case atStart => exact ⟨0, none, 0, 0, Nat.zero_le _, rfl, rfl, hide (Own.nil E1 _ _ _), hide (Nat.zero_le _), hide (Below.refl _ _)⟩
  case round =>
    obtain ⟨k, B, m, q, hk, rfl, rfl, HO, HM, HB⟩ := hrel
    by_cases hlt : k < n
    · obtain rfl := HR.out.at_ (by omega)
      have hbl := HR.out.lt (by omega)
      have a1 := c1 (HR.out.under HB.out fun _ => hbl) hlt
      have hkc : k ≤ c := by omega
      have hm := HM.out
      have hx := okTo_bd HV.out hlt
      have HS := hide (fun p => rowD_succ xs k p)
      have HZ := hide (rowD_zero xs k)
      have HD := hide (difTo_succ xs k)
      generalize hxe : xs.getD k 0 = x at a1 hx HS
      clear hxe
      go_wp2_with fail
      go_loopw [3, 19] (fun v j wr2 => ∃ (p : Nat) (B2 : Option Addr) (m2 q2 : Nat), p ≤ k ∧ j = .int .i64 p ∧ v = .slice B2 m2 q2 ∧ Hid (Own E1 wr2 w.heap.size 3 B2 m2 q2 (difTo xs k ++ rowD xs k p)) ∧ Hid (m2 ≤ 6 * k + p) ∧ Hid (Below w.heap.size w wr2)) (fun _ j _ => k - (intOf j).toNat)
      case atStart => exact ⟨0, B, m, q, Nat.zero_le _, rfl, rfl, hide (by rw [HZ.out, List.append_nil]; exact HO.out), hide hm, HB⟩
      case round =>
        obtain ⟨p, B2, m2, q2, hp, rfl, rfl, HO2, HM2, HB2⟩ := hrel
        by_cases hlp : p < k
        · have a2 := c1 (HR.out.under HB2.out fun _ => hbl) (k := p) (by omega)
          have hy := okTo_bd HV.out (i := p) (by omega)
          have hm2 := HM2.out
          have HS2 := hide (HS.out p)
          generalize xs.getD p 0 = y at a2 hy HS2
          have hsz := HB2.out.size
          go_wp2_with ((at_builtin; refine wpList_app1 (E := E1) _ (.int .i64 0) 8 rfl (.tmp 23) (.tmp 27) 22 3 rfl Try.underlying22 info_int rfl (by decide) (by omega) _ _ _ _ _ (x - y) _ rfl rfl rfl HO2.out (by omega) hsz ?_; intro A2 c2 w5 o5 b5 g5))
          go_roundw
          case rel => exact ⟨p + 1, A2, m2 + 1, c2, by omega, by go_num, rfl, hide (by rw [HS2.out, ← List.append_assoc]; exact o5), hide (by omega), hide (HB2.out.trans b5)⟩
          case measure => simp [intOf]; omega
        · obtain rfl : p = k := by omega
          have hm2 := HM2.out
          go_wp2_with fail
          go_roundw
          case rel => exact ⟨p + 1, B2, m2, q2, by omega, by go_num, rfl, hide (by rw [HD.out]; exact HO2.out), hide (by omega), HB2⟩
          case measure => simp [intOf]; omega
    · obtain rfl : k = n := by omega
      have hm := HM.out
      have HD := hide (show difTo xs k = dif xs by unfold dif; rw [HL.out])
      go_wp2_with (go_at_call 84; refine (Sort_any _ _ _ _ _ _ HO.out (by omega)).mono ?_; rintro e w1 ⟨rfl, o1, g1⟩)
      go_ret
      exact ⟨B, m, q, rfl, by rw [← HD.out]; exact o1, HB.out.trans (own_grown_below HO.out HB.out.size g1)⟩
end Go.Proofs.Ytllfkhcpdgdmnaa
