/- Walks: what is counted twice. -/
import Derived.Test.YtndfdminjegldaaWalkG
import Derived.Test.YtndfdminjegldaaMC
namespace Go.Proofs.Ytndfdminjegldaa
open Go.RowKit Go.Shelf
attribute [local go_sem] Oper.semAt_some

set_option maxRecDepth 100000 in
set_option maxHeartbeats 8000000 in
theorem twice_any (gO gC BB gO2 gC2 BB2 : Nat) (L L2 : List Int) (n n' : Nat) (xs ys : List Int) (o i h : Int) (t s : Nat) (x : Int) (w : World) (hT : Tab w BB gO gC (n + 1) (n' + 1) L) (hD : ∀ r k, r ≤ n → k ≤ n' → L.getD (r * (n' + 1) + k) 0 = dd xs ys ⟨o, i, h⟩ r k)
    (hT2 : Tab w BB2 gO2 gC2 (n + 1) (n' + 1) L2) (hx : 0 < t → 0 < s → L2.getD ((t - 1) * (n' + 1) + (s - 1)) 0 = cq xs ys ⟨o, i, h⟩ (t - 1) (s - 1))
    (hn : n ≤ 10) (hn' : n' ≤ 10) (ho : 1 ≤ o ∧ o ≤ 9) (hi : 1 ≤ i ∧ i ≤ 9) (hh : 1 ≤ h ∧ h ≤ 9) (ht : t ≤ n) (hs : s ≤ n') :
    Calls Try.prog 68 #[.slice (some ⟨gO, 0, none⟩) (n + 1) (n + 1), .slice (some ⟨gO2, 0, none⟩) (n + 1) (n + 1), cV o i h, .int .i64 t, .int .i64 s] w fun e w' => e = .returned (.int .i64 (twi xs ys ⟨o, i, h⟩ (cq xs ys ⟨o, i, h⟩) t s)) ∧ Below w.heap.size w w' := by
  have BX := hide ((Below.refl w.heap.size w).alloc (Nat.le_refl _) (.cells #[.int .i64 o, .int .i64 i, .int .i64 h] 24))
  have HBK := hide (Bk.born w 24 #[.int .i64 o, .int .i64 i, .int .i64 h])
  have HT := hide (hT.below BX.out (Nat.le_refl _))
  have HT2 := hide (hT2.below BX.out (Nat.le_refl _))
  by_cases h0 : t = 0
  · have HV := hide (show twi xs ys ⟨o, i, h⟩ (cq xs ys ⟨o, i, h⟩) t s = 0 from if_pos (.inl h0))
    have hb : ((t : Int) == 0) = true := by simp [h0]
    clear hT hD hT2 hx h0
    go_enter Try.func68, Try.ntmps68
    go_wp2_with fail
    go_quiet (fail)
    go_wp2_with fail
    go_ret
    exact ⟨ret_i64 (by rw [HV.out]), by first | exact BX.out.drew | exact below_drewN BX.out _⟩
  · by_cases h1 : s = 0
    · have HV := hide (show twi xs ys ⟨o, i, h⟩ (cq xs ys ⟨o, i, h⟩) t s = 0 from if_pos (.inr (.inl h1)))
      have hb : ((t : Int) == 0) = false := by simpa using h0
      have hb1 : ((s : Int) == 0) = true := by simp [h1]
      clear hT hD hT2 hx h0 h1
      go_enter Try.func68, Try.ntmps68
      go_wp2_with fail
      go_quiet (fail)
      go_wp2_with fail
      go_ret
      exact ⟨ret_i64 (by rw [HV.out]), by first | exact BX.out.drew | exact below_drewN BX.out _⟩
    · have hb : ((t : Int) == 0) = false := by simpa using h0
      have hb1 : ((s : Int) == 0) = false := by simpa using h1
      have m1 := HT.out.head (r := t) (by omega)
      have m2 := HT.out.cell (r := t) (k := s) (by omega) (by omega)
      have m3 := HT.out.head (r := t - 1) (by omega)
      have m4 := HT.out.cell (r := t - 1) (k := s - 1) (by omega) (by omega)
      have m5 := HT2.out.head (r := t - 1) (by omega)
      have m6 := HT2.out.cell (r := t - 1) (k := s - 1) (by omega) (by omega)
      rw [hD t s ht hs] at m2
      rw [hD (t - 1) (s - 1) (by omega) (by omega)] at m4
      rw [hx (by omega) (by omega)] at m6
      have hc1 := dd_bd (l := xs) (m := ys) (c := ⟨o, i, h⟩) ⟨ho, hi, hh⟩ (t - 1) (s - 1)
      have k0 : World.cell? (w.alloc (.cells #[.int .i64 o, .int .i64 i, .int .i64 h] 24)) ⟨w.heap.size, 0, none⟩ = some (.int .i64 o) := HBK.out.at_ 0
      have k1 : World.cell? (w.alloc (.cells #[.int .i64 o, .int .i64 i, .int .i64 h] 24)) ⟨w.heap.size, 1, none⟩ = some (.int .i64 i) := HBK.out.at_ 1
      have e1 : (t : Int) - 1 = ((t - 1 : Nat) : Int) := by omega
      have e2 : (s : Int) - 1 = ((s - 1 : Nat) : Int) := by omega
      have w1 : IntKind.i64.wrap ((t : Int) - 1) = ((t - 1 : Nat) : Int) := by rw [e1]; exact IntWalk.i64_in _ (by omega)
      have w2 : IntKind.i64.wrap ((s : Int) - 1) = ((s - 1 : Nat) : Int) := by rw [e2]; exact IntWalk.i64_in _ (by omega)
      have HVE := hide (show twi xs ys ⟨o, i, h⟩ (cq xs ys ⟨o, i, h⟩) t s = if dd xs ys ⟨o, i, h⟩ t s ≠ dd xs ys ⟨o, i, h⟩ (t - 1) (s - 1) + o + i then 0 else cq xs ys ⟨o, i, h⟩ (t - 1) (s - 1) from by
        unfold twi
        by_cases hq : dd xs ys ⟨o, i, h⟩ t s ≠ dd xs ys ⟨o, i, h⟩ (t - 1) (s - 1) + o + i
        · rw [if_pos (.inr (.inr hq)), if_pos hq]
        · rw [if_neg (by rintro (h' | h' | h') <;> contradiction), if_neg hq])
      clear e1 e2
      generalize dd xs ys ⟨o, i, h⟩ t s = d1 at *
      generalize dd xs ys ⟨o, i, h⟩ (t - 1) (s - 1) = d2 at *
      generalize cq xs ys ⟨o, i, h⟩ (t - 1) (s - 1) = q at *
      have w3 : IntKind.i64.wrap (d2 + o) = d2 + o := IntWalk.i64_in _ (by omega)
      have w4 : IntKind.i64.wrap (d2 + o + i) = d2 + o + i := IntWalk.i64_in _ (by omega)
      have i1 : (t : Int) < (n : Int) + 1 := by omega
      have i2 : (s : Int) < (n' : Int) + 1 := by omega
      have i3 : ((t - 1 : Nat) : Int) < (n : Int) + 1 := by omega
      have i4 : ((s - 1 : Nat) : Int) < (n' : Int) + 1 := by omega
      have i5 : (0 : Int) ≤ ((t - 1 : Nat) : Int) := by omega
      have i6 : (0 : Int) ≤ ((s - 1 : Nat) : Int) := by omega
      by_cases hq : d1 = d2 + o + i
      · have hqb : (d1 != d2 + o + i) = false := by simpa using hq
        have HV := hide (HVE.out.trans (if_neg (by simpa using hq)))
        clear hT hD hT2 hx h0 h1 hq
        go_enter Try.func68, Try.ntmps68
        go_wp2_with fail
        go_quiet (fail)
        go_wp2_with fail
        trace_state
        go_ret
        exact ⟨ret_i64 (by rw [HV.out]), by first | exact BX.out.drew | exact below_drewN BX.out _⟩
      · have hqb : (d1 != d2 + o + i) = true := by simpa using hq
        have HV := hide (HVE.out.trans (if_pos hq))
        clear hT hD hT2 hx h0 h1 hq
        go_enter Try.func68, Try.ntmps68
        go_wp2_with fail
        go_quiet (fail)
        go_wp2_with fail
        go_ret
        exact ⟨ret_i64 (by rw [HV.out]), by first | exact BX.out.drew | exact below_drewN BX.out _⟩
end Go.Proofs.Ytndfdminjegldaa
