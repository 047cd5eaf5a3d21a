/- From how Go's data read to the walks' words: slices of integers. How long lists are. -/
import Derived.Test.YtlhlcchimammlaaOwn
import Derived.ProofKit
import Derived.OpenShut
import Derived.ShutString
import Derived.ChangeOld
import Derived.Deep.Slices
namespace Go.Proofs.Ytlhlcchimammlaa
open Go.ChangeShapes Go.WideShapes Go.ChangeAt Go.RowKit

theorem own : ownKnob Try.prog.godebug = none := by kernel_rfl
theorem laidOut : laidOutB Try.prog = true := by kernel_rfl
theorem cellsInt : Try.prog.cellsOf 3 = 1 := by kernel_rfl
theorem add_spot (x : Addr) (i : Nat) (h : x.spot = none) : x.add i = ⟨x.block, x.off + i, none⟩ := by
  cases x with
  | mk b off spot =>
    simp at h
    subst h
    unfold Addr.add
    split
    · rename_i h0; subst h0; rfl
    · rfl
/-- A row whose elements' cells are where they should be. -/
theorem r_of_cells {α : Type} (E : Enc α) {w : World} {x : Addr} {n c : Nat} {zs : List α} (hE : 0 < E.size) (hl : n ≤ c) (hm : c ≤ maxLen) (hz : zs.length = n)
    (hc : ∀ i, i < n → ∀ j, j < E.size → w.cell? (x.add (i * E.size + j)) = (E.enc (zs.getD i E.d))[j]?) : R E w (some x) n c zs := by
  by_cases hn : n = 0
  · subst hn
    exact ⟨0, 0, hz, by omega, hm, fun h => by omega, fun h => by omega, fun k hk => by omega⟩
  · have h0 := hc 0 (by omega) 0 hE
    obtain ⟨v, hv⟩ : ∃ v, (E.enc (zs.getD 0 E.d))[0]? = some v := ⟨_, List.getElem?_eq_getElem (by rw [E.len]; exact hE)⟩
    rw [hv] at h0
    have hs : x.spot = none := by
      have := World.cell?_spot h0
      simpa [Addr.add] using this
    refine ⟨x.block, x.off, hz, hl, hm, fun _ => ?_, fun _ => ?_, fun k hk j hj => ?_⟩
    · cases x with
      | mk b off spot => simp at hs; subst hs; rfl
    · have := World.block_lt_of_cell? w _ h0
      simpa [Addr.add] using this
    · rw [← add_spot x _ hs]
      exact hc k hk j hj
theorem ints_row {w : World} {x : Addr} {n c : Nat} {zs : List Int} (hl : n ≤ c) (hm : c ≤ maxLen) (hz : zs.length = c) (hcell : ∀ i, i < zs.length → w.cell? (x.add i) = some (.int .i64 (zs.getD i 0))) :
    R E1 w (some x) n c (zs.take n) := by
  refine r_of_cells E1 (by decide) hl hm (by rw [List.length_take]; omega) fun i hi j hj => ?_
  have hj0 : j = 0 := by
    have : E1.size = 1 := rfl
    omega
  subst hj0
  have e : i * E1.size + 0 = i := Nat.mul_one i
  rw [e, hcell i (by omega)]
  have e2 : (zs.take n).getD i E1.d = zs.getD i 0 := by
    show (zs.take n).getD i 0 = zs.getD i 0
    simp [List.getD_eq_getElem?_getD, List.getElem?_take, hi]
  rw [e2]
  rfl

set_option maxHeartbeats 1000000 in
theorem Long_any (A : Option Addr) (n c : Nat) (hs : List Hd) (w : World) (h : R EH w A n c hs) (hn : n ≤ 1000) (hm : ∀ k, k < n → (hs.getD k EH.d).2.1 ≤ 9223372036854775807) :
    Calls Try.prog 19 #[.slice A n c] w fun e w' => e = .returned (.bool (hs.any fun h => decide (50 < h.2.1))) ∧ Below w.heap.size w w' := by
  have HL := hide h.length
  obtain ⟨b, off, hr⟩ := h
  have HR := hide hr
  have HM := hide hm
  have hcap := hr.cap
  have hmax := hr.max
  clear hr hm
  go_enter Try.func19, Try.ntmps19
  go_wp2_with fail
  go_loopw [3] (fun i wr => ∃ k : Nat, k ≤ n ∧ i = .int .i64 k ∧ Hid (Below w.heap.size w wr) ∧ Hid (∀ j, j < k → ¬ 50 < (hs.getD j EH.d).2.1)) (fun i _ => n - (intOf i).toNat)
  case atStart => exact ⟨0, Nat.zero_le _, rfl, hide (Below.refl _ _), fun j hj => absurd hj (Nat.not_lt_zero j)⟩
  case round =>
    obtain ⟨k, hk, rfl, HD, HS⟩ := hrel
    by_cases hlt : k < n
    · obtain rfl := HR.out.at_ (by omega)
      have hbl := HR.out.lt (by omega)
      have a1 := cH (HR.out.under HD.out fun _ => hbl) hlt
      have m1 := HM.out k hlt
      have i1 : (k : Int) < (n : Int) := by omega
      have HY := hide (fun (h : 50 < (hs.getD k EH.d).2.1) => (show (hs.any fun h => decide (50 < h.2.1)) = true from by
        rw [List.any_eq_true]
        have hk' : k < hs.length := by rw [HL.out]; exact hlt
        refine ⟨hs[k], List.getElem_mem hk', ?_⟩
        have e : hs.getD k EH.d = hs[k] := by simp [List.getD_eq_getElem?_getD, hk']
        rw [e] at h
        simpa using h))
      have HN := hide (fun (h : ¬ 50 < (hs.getD k EH.d).2.1) j (hj : j < k + 1) => (show ¬ 50 < (hs.getD j EH.d).2.1 from by
        by_cases e : j = k
        · subst e; exact h
        · exact HS.out j (by omega)))
      generalize hs.getD k EH.d = hd at *
      obtain ⟨A1, n1, c1'⟩ := hd
      dsimp only at *
      by_cases hl : 50 < n1
      · have hl' : (50 : Int) < (n1 : Int) := by omega
        go_wp2_with fail
        go_ret
        exact ⟨ret_bool (HY.out hl).symm, HD.out⟩
      · have hl' : ¬ (50 : Int) < (n1 : Int) := by omega
        go_wp2_with fail
        go_roundw
        case rel => exact ⟨k + 1, by omega, by go_num, HD, hide (HN.out hl)⟩
        case measure => simp [intOf]; omega
    · obtain rfl : k = n := by omega
      go_wp2_with fail
      go_ret
      refine ⟨ret_bool ?_, HD.out⟩
      symm
      rw [List.any_eq_false]
      intro x hx
      obtain ⟨j, hj, e⟩ := List.getElem_of_mem hx
      have h1 := HS.out j (by rw [HL.out] at hj; exact hj)
      have e2 : hs.getD j EH.d = x := by rw [List.getD_eq_getElem?_getD, List.getElem?_eq_getElem hj]; exact e
      rw [e2] at h1
      simpa using h1
theorem Long1_any (A : Option Addr) (n c : Nat) (w : World) (hm : n ≤ 9223372036854775807) :
    Calls Try.prog 19 #[.slice (some ⟨w.heap.size, 0, none⟩) 1 1] (w.alloc (.cells #[.slice A n c] 22)) fun e w' => e = .returned (.bool (decide (50 < n))) ∧ Below w.heap.size w w' := by
  have h := Own.lit (E := EH) (B := 0) (e := 22) w [(A, n, c)] (by omega) (by simp [maxLen])
  refine (Long_any _ 1 1 [(A, n, c)] _ h.row (by omega) (fun k hk => by
    have : k = 0 := by omega
    rcases this with rfl
    exact hm)).mono ?_
  rintro e w' ⟨rfl, b⟩
  exact ⟨by simp, le_call ((Below.refl _ w).alloc (Nat.le_refl _) _) b⟩
theorem Long2_any (A : Option Addr) (n c : Nat) (A' : Option Addr) (n' c' : Nat) (w : World) (hm : n ≤ 9223372036854775807) (hm' : n' ≤ 9223372036854775807) :
    Calls Try.prog 19 #[.slice (some ⟨w.heap.size, 0, none⟩) 2 2] (w.alloc (.cells #[.slice A n c, .slice A' n' c'] 22)) fun e w' => e = .returned (.bool (decide (50 < n) || decide (50 < n'))) ∧ Below w.heap.size w w' := by
  have h := Own.lit (E := EH) (B := 0) (e := 22) w [(A, n, c), (A', n', c')] (by omega) (by simp [maxLen])
  refine (Long_any _ 2 2 [(A, n, c), (A', n', c')] _ h.row (by omega) (fun k hk => by
    have : k = 0 ∨ k = 1 := by omega
    rcases this with rfl | rfl
    · exact hm
    · exact hm')).mono ?_
  rintro e w' ⟨rfl, b⟩
  exact ⟨by simp, le_call ((Below.refl _ w).alloc (Nat.le_refl _) _) b⟩
end Go.Proofs.Ytlhlcchimammlaa
