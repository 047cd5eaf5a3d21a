/- Residues of the program; the document's Greatest and Has. -/
import Derived.Test.YtlhlcchimammlaaWalkJ
import Derived.Test.YtlhlcchimammlaaMW
namespace Go.Proofs.Ytlhlcchimammlaa
open Go.RowKit Go.Shelf

set_option maxHeartbeats 1000000 in
theorem rGreatest_any (A : Option Addr) (n c : Nat) (xs : List Int) (w : World) (h : R E1 w A n c xs) :
    Calls Try.prog 40 #[.slice A n c] w fun e w' => e = .returned (.tuple #[.int .i64 (topG xs), .int .i64 (errG xs)]) ∧ Below w.heap.size w w' := by
  have H := hide h
  clear h
  by_cases he : errG xs = 0
  · have HE := hide he
    have HG := hide (topG_ok he)
    have HGL := hide (gapV_len xs)
    have HTA := hide (fun (n : Nat) (h : (gapV xs).length = n) (hn : 1 ≤ n) => topV_at h hn)
    have HV := hide (gapsV_ok he)
    clear he
    by_cases h0 : gapV xs = []
    · have HN := hide h0
      have HT := hide (topV_nil h0)
      clear h0
      go_enter Try.func40, Try.ntmps40
      go_wp2_with (go_at_call 38; refine (rGaps_any _ _ _ xs _ H.out).mono ?_; rw [HE.out, HV.out]; rintro e w1 ⟨A1, n1, c1, rfl, o1, b1⟩; obtain rfl : n1 = 0 := (by rw [← o1.len, HN.out]; rfl); have B1 := hide b1; clear o1 b1)
      go_ret2
      exact ⟨by rw [HE.out, HG.out, HT.out]; rfl, B1.out⟩
    · have HN := hide (List.length_pos_iff.2 h0)
      clear h0
      go_enter Try.func40, Try.ntmps40
      go_wp2_with (go_at_call 38; refine (rGaps_any _ _ _ xs _ H.out).mono ?_; rw [HE.out, HV.out]; rintro e w1 ⟨A1, n1, c1, rfl, o1, b1⟩; have hn1 : 1 ≤ n1 := (by rw [← o1.len]; exact HN.out); have hn2 : n1 ≤ 901 := (by rw [← o1.len]; exact HGL.out); obtain ⟨g1, rfl, hg1, hg2, hg3, hg4⟩ := o1.addr hn1; have hg5 : c1 ≤ 9223372036854775807 := hg4; clear hg4; have r1 := own1 o1 (k := n1 - 1) (by omega); rw [HTA.out n1 o1.len hn1] at r1; have hsub : ((n1 : Int) - 1) = ((n1 - 1 : Nat) : Int) := (by omega); have hne : ((n1 : Int) == 0) = false := (by simp; omega); have hz : ¬ n1 = 0 := (by omega); have B1 := hide b1; clear o1 b1)
      go_ret2
      exact ⟨by rw [HE.out, HG.out]; rfl, B1.out⟩
  · have HG := hide (topG_no he)
    have hne : (errG xs != 0) = true := by simpa using he
    clear he
    go_enter Try.func40, Try.ntmps40
    go_wp2_with (go_at_call 38; refine (rGaps_any _ _ _ xs _ H.out).mono ?_; rintro e w1 ⟨A1, n1, c1, rfl, o1, b1⟩; have hm1 := o1.row.le; have B1 := hide b1; clear o1 b1)
    go_ret2
    exact ⟨by rw [HG.out]; rfl, B1.out⟩
def hasB (xs : List Int) (x : Int) : Bool := xs.contains x
set_option maxHeartbeats 1000000 in
theorem Has_any (A : Option Addr) (n c : Nat) (xs : List Int) (x : Int) (w : World) (h : R E1 w A n c xs) :
    Calls Try.prog 41 #[.slice A n c, .int .i64 x] w fun e w' => e = .returned (.bool (hasB xs x)) ∧ w = w' := by
  have HL := hide h.length
  have hle := h.le
  obtain ⟨b, off, hr⟩ := h
  have HR := hide hr
  clear hr
  go_enter Try.func41, Try.ntmps41
  go_wp2_with fail
  go_loop [5] (fun i => ∃ k : Nat, k ≤ n ∧ i = .int .i64 k ∧ Hid (∀ j, j < k → xs.getD j 0 ≠ x)) (fun i => n - (intOf i).toNat)
  case atStart => exact ⟨0, Nat.zero_le _, rfl, hide (fun j hj => absurd hj (Nat.not_lt_zero j))⟩
  case round =>
    obtain ⟨k, hk, rfl, HS⟩ := hrel
    by_cases hlt : k < n
    · obtain rfl := HR.out.at_ (by omega)
      have a1 := c1 HR.out hlt
      have HT := hide (fun (h : xs.getD k 0 = x) => (show hasB xs x = true from by
        have hk' : k < xs.length := by rw [HL.out]; exact hlt
        rw [List.getD_eq_getElem?_getD, List.getElem?_eq_getElem hk', Option.getD_some] at h
        rw [← h]
        simp [hasB]))
      have HN := hide (fun (h : xs.getD k 0 ≠ x) j (hj : j < k + 1) => (show xs.getD j 0 ≠ x from by
        by_cases e : j = k
        · subst e; exact h
        · exact HS.out j (by omega)))
      generalize xs.getD k 0 = y at *
      by_cases hy : y = x
      · have HC := hide (HT.out hy)
        subst hy
        go_wp2_with fail
        go_ret
        exact ⟨ret_bool HC.out.symm, rfl⟩
      · have HC := hide (HN.out hy)
        go_wp2_with fail
        go_round
        case rel => exact ⟨k + 1, by omega, by go_num, HC⟩
        case measure => simp [intOf]; omega
    · have HC := hide (show hasB xs x = false from by
        unfold hasB
        rw [Bool.eq_false_iff]
        intro h
        obtain ⟨j, hj, e⟩ := List.getElem_of_mem (List.contains_iff_mem.1 h)
        refine HS.out j (by rw [HL.out] at hj; omega) ?_
        rw [List.getD_eq_getElem?_getD, List.getElem?_eq_getElem hj]
        exact e)
      go_wp2_with fail
      go_ret
      exact ⟨ret_bool HC.out.symm, rfl⟩
def rs9 (xs : List Int) (r : Nat) : Int := resV xs 900 r
theorem rs9_hit {w : List Int} {r j s a : Nat} (hs : (w.getD 0 0).toNat = s) (hr : r < s) (ha : a = r + j * s) (hN : a ≤ 900) (hp : mu w a = true) (hq : ∀ i, i < j → mu w (r + i * s) = false) : rs9 w r = (a : Int) := by
  subst ha
  exact res_hit hs hr hN hp hq
theorem rs9_none {w : List Int} {r s : Nat} (hs : (w.getD 0 0).toNat = s) (hq : ∀ i, r + i * s ≤ 900 → mu w (r + i * s) = false) : rs9 w r = -1 := res_none hs hq
theorem rs9_eq {w : List Int} (hw : VW w) (r : Nat) : rs9 w r = resV w 870 r := res_same hw (by omega) r
set_option maxRecDepth 100000 in
set_option maxHeartbeats 1000000 in
theorem first_any (g : Value) (xs : List Int) (r s : Nat) (w : World) (hr : r < s) (hs : (xs.getD 0 0).toNat = s) (h30 : s ≤ 30)
    (hc : ∀ (k : Nat) (wr : World), k ≤ 900 → Below w.heap.size w wr → Calls Try.prog 62 #[g, .int .i64 k] wr fun e w' => e = .returned (.bool (mu xs k)) ∧ Below wr.heap.size wr w') :
    Calls Try.prog 71 #[.int .i64 r, .int .i64 s, .func (.func 62) #[g] #[]] w fun e w' => e = .returned (.int .i64 (rs9 xs r)) ∧ Below w.heap.size w w' := by
  have HC := hide hc
  have HSS := hide hs
  clear hc hs
  go_enter Try.func71, Try.ntmps71
  go_wp2_with fail
  go_loopw [7] (fun i wr => ∃ j a : Nat, Hid (a = r + j * s) ∧ a ≤ 930 ∧ i = .int .i64 a ∧ Hid (∀ i, i < j → mu xs (r + i * s) = false) ∧ Hid (Below w.heap.size w wr)) (fun i _ => 931 - (intOf i).toNat)
  case atStart => exact ⟨0, r, hide (by omega), by omega, rfl, hide (fun i hi => absurd hi (Nat.not_lt_zero i)), hide (Below.refl _ _)⟩
  case round =>
    obtain ⟨j, a, HA, ha, rfl, HS, HB⟩ := hrel
    by_cases hlt : a ≤ 900
    · have HCK := hide (HC.out a wr hlt HB.out)
      cases hp : mu xs a with
      | true =>
        have HP := hide hp
        clear hp
        have HV := hide (rs9_hit (w := xs) (r := r) (j := j) HSS.out hr HA.out hlt HP.out HS.out)
        go_wp2_with (go_at_call 62; refine HCK.out.mono ?_; rw [HP.out]; rintro e w1 ⟨rfl, b1⟩; have B1 := hide (HB.out.trans (b1.mono HB.out.size)); clear b1)
        go_ret
        exact ⟨ret_i64 HV.out.symm, B1.out⟩
      | false =>
        have HP := hide hp
        clear hp
        go_wp2_with (go_at_call 62; refine HCK.out.mono ?_; rw [HP.out]; rintro e w1 ⟨rfl, b1⟩; have B1 := hide (HB.out.trans (b1.mono HB.out.size)); clear b1)
        go_roundw
        case rel => exact ⟨j + 1, a + s, hide (by have := HA.out; rw [Nat.add_mul]; omega), by omega, by go_num, hide (fun i hi => by
          by_cases e : i = j
          · subst e; rw [← HA.out]; exact HP.out
          · exact HS.out i (by omega)), B1⟩
        case measure => simp [intOf]; omega
    · have HV := hide (rs9_none (w := xs) (r := r) HSS.out (fun i hi => HS.out i (by
        rcases Nat.lt_or_ge i j with h | h
        · exact h
        · have h1 := Nat.mul_le_mul_right s h
          have := HA.out
          omega)))
      go_wp2_with fail
      go_ret
      exact ⟨ret_i64 HV.out.symm, HB.out⟩
end Go.Proofs.Ytlhlcchimammlaa
