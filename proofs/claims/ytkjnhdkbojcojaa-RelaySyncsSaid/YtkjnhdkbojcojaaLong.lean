/- Walks: is a box, or a list, too long for a statement? -/
import Derived.Test.YtkjnhdkbojcojaaSane
namespace Go.Proofs.Ytkjnhdkbojcojaa
open Go.RowKit Go.Shelf
attribute [local go_sem] Oper.semAt_some

def longB (n n' : Nat) (hs : List Hd) : Bool := hs.any (fun h => decide (100 < h.2.1)) || (decide (50 < n) || decide (50 < n'))
set_option maxRecDepth 100000 in
set_option maxHeartbeats 2000000 in
theorem Long_any (A : Option Addr) (n c : Nat) (A' : Option Addr) (n' c' : Nat) (H : Option Addr) (m d : Nat) (hs : List Hd) (w : World) (h : R EH w H m d hs) (hn : n ≤ 9223372036854775807) (hn' : n' ≤ 9223372036854775807) :
    Calls Try.prog 19 #[bV A n c A' n' c', .slice H m d] w fun e w' => e = .returned (.bool (longB n n' hs)) ∧ Below w.heap.size w w' := by
  have HB0 := hide ((Below.refl w.heap.size w).alloc (Nat.le_refl _) (.cells #[.slice A n c, .slice A' n' c'] 25))
  have HR := hide (h.below HB0.out (Nat.le_refl _))
  have HL := hide h.length
  have hle := h.le
  clear h
  go_enter Try.func19, Try.ntmps19
  go_wp2_with fail
  go_loop [5] (fun i => ∃ k : Nat, k ≤ m ∧ i = .int .i64 k ∧ Hid (∀ j, j < k → decide (100 < (hs.getD j EH.d).2.1) = false)) (fun i => m - (intOf i).toNat)
  case atStart => exact ⟨0, Nat.zero_le _, rfl, hide (by omega)⟩
  case round =>
    obtain ⟨k, hk, rfl, HJ⟩ := hrel
    by_cases hlt : k < m
    · obtain ⟨b2, o2, hr2⟩ := HR.out
      obtain rfl := hr2.at_ (by omega)
      have hc := cH hr2 hlt
      have i1 : (k : Int) < (m : Int) := by omega
      have HG := hide (show 100 < (hs.getD k EH.d).2.1 → longB n n' hs = true from fun h1 => by
        rw [longB, List.any_eq_true.2 ⟨hs.getD k EH.d, by rw [List.getD_eq_getElem?_getD, List.getElem?_eq_getElem (by rw [HL.out]; exact hlt)]; exact List.getElem_mem _, by simpa using h1⟩]
        rfl)
      have HS := hide (show ¬ 100 < (hs.getD k EH.d).2.1 → ∀ j, j < k + 1 → decide (100 < (hs.getD j EH.d).2.1) = false from fun h1 j hj => by
        by_cases e : j = k
        · subst e; simpa using h1
        · exact HJ.out j (by omega))
      clear hr2
      generalize hs.getD k EH.d = y at *
      obtain ⟨ya, yn, yc⟩ := y
      simp only at hc
      by_cases h1 : 100 < yn
      · have h2 : (100 : Int) < (yn : Int) := by omega
        have HGG := hide (HG.out h1)
        clear h1
        go_wp2_with fail
        go_ret
        exact ⟨ret_bool HGG.out.symm, HB0.out⟩
      · have h2 : (yn : Int) ≤ 100 := by omega
        have HSS := hide (HS.out h1)
        clear h1
        go_wp2_with fail
        go_round
        case rel => exact ⟨k + 1, by omega, by go_num, HSS⟩
        case measure => simp [intOf]; omega
    · obtain rfl : k = m := by omega
      have HLB := hide (show longB n n' hs = (decide (50 < n) || decide (50 < n')) from by
        rw [longB, List.any_eq_false.2 fun x hx => by
          obtain ⟨j, hj, rfl⟩ := List.mem_iff_getElem.1 hx
          have := HJ.out j (by rw [← HL.out]; exact hj)
          rw [List.getD_eq_getElem?_getD, List.getElem?_eq_getElem hj] at this
          simpa using this]
        rfl)
      have e1 : decide ((50 : Int) < (n : Int)) = decide (50 < n) := by rw [decide_eq_decide]; omega
      have e2 : decide ((50 : Int) < (n' : Int)) = decide (50 < n') := by rw [decide_eq_decide]; omega
      by_cases h1 : 50 < n
      · have h2 : (50 : Int) < (n : Int) := by omega
        have HD := hide (show (decide (50 < n) || decide (50 < n')) = true from by simp [h1])
        clear h1 e1 e2
        go_wp2_with fail
        go_ret
        exact ⟨ret_bool (by rw [HLB.out, HD.out]), HB0.out⟩
      · have h2 : (n : Int) ≤ 50 := by omega
        have HD := hide (show (decide (50 < n) || decide (50 < n')) = decide ((50 : Int) < (n' : Int)) from by rw [e2]; simp [h1])
        clear h1 e1 e2
        go_wp2_with fail
        go_ret
        exact ⟨ret_bool (by rw [HLB.out, HD.out, decide_eq_false (show ¬ (50 : Int) < (n : Int) by omega)]; rfl), HB0.out⟩
end Go.Proofs.Ytkjnhdkbojcojaa
