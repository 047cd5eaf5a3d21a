/- ChargeTimes: the walk. -/
import Derived.Test.YtlhlcchimammlaaWalkV
import Derived.Test.YtlhlcchimammlaaSane
namespace Go.Proofs.Ytlhlcchimammlaa
open Go.RowKit Go.Shelf

theorem timV_len (xs : List Int) (k : Int) : (timV xs k).length ≤ 4 := by
  unfold timV
  split
  · rename_i h
    have := errW_vw.1 (timE_ok h).2.2
    exact this.2.1
  · simp
theorem tim_main {xs : List Int} {k m : Int} (h : timE xs k = 0) (hm : 0 ≤ m) (hq : m ≤ 2000 / k) :
    errA xs m = 0 ∧ errA (timV xs k) (k * m) = 0 ∧ canV (timV xs k) (k * m) = canV xs m ∧ fewV (timV xs k) (k * m) = fewV xs m ∧ 0 ≤ k * m ∧ k * m ≤ 2000 := by
  obtain ⟨h1, h2, h3⟩ := timE_ok h
  have hkm : k * m ≤ 2000 := by
    have := Int.mul_le_mul_of_nonneg_left hq (show 0 ≤ k by omega)
    have h5 := Int.mul_ediv_self_le (x := 2000) (k := k) (by omega)
    omega
  have hkm0 : 0 ≤ k * m := Int.mul_nonneg (by omega) hm
  have hmk : m ≤ k * m := by
    have := Int.mul_le_mul_of_nonneg_right h2.1 hm
    omega
  have e1 : errA xs m = 0 := errA_fine h1 (by omega)
  have e2 : errA (timL xs k) (k * m) = 0 := errA_fine h3 (by omega)
  rw [timV_ok h]
  obtain ⟨K, rfl⟩ : ∃ K : Nat, k = K := ⟨k.toNat, by omega⟩
  obtain ⟨M, rfl⟩ : ∃ M : Nat, m = M := ⟨m.toNat, by omega⟩
  have hf := fw_times (errW_vw.1 h1).wt (k := K) (by omega) (errW_vw.1 h3).wt M
  have e3 : ((K : Int) * (M : Int)).toNat = K * M := by rw [← Int.natCast_mul, Int.toNat_natCast]
  have hmu : mu (timL xs K) (K * M) = mu xs M := by
    unfold mu timL
    rw [hf]
  have hc : canV (timL xs K) ((K : Int) * M) = canV xs M := by rw [canV_ok e1, canV_ok e2, e3, hmu, Int.toNat_natCast]
  refine ⟨e1, e2, hc, ?_, hkm0, hkm⟩
  unfold fewV
  rw [hc, e3, Int.toNat_natCast]
  by_cases h9 : canV xs M = true
  · rw [if_pos h9, if_pos h9]; exact hf
  · rw [if_neg h9, if_neg h9]
set_option maxRecDepth 100000 in
set_option maxHeartbeats 4000000 in
theorem ChargeTimes_walk (A : Option Addr) (n c : Nat) (xs : List Int) (v0 : Int) (v1 : Int) (w : World) (h : R E1 w A n c xs) (hw0 : (Lit.int .i64 v0).wf = true) (hw1 : (Lit.int .i64 v1).wf = true) :
    Calls Try.prog 16 #[.slice A n c, .int .i64 v0, .int .i64 v1] w fun e w' => e = .returned (.bool true) ∧ Below w.heap.size w w' := by
  have HX := hide h
  have HL := hide h.length
  have hm9 := h.le
  by_cases hn : 50 < n
  · have HLn := hide (show decide (50 < n) = true from by simpa using hn)
    clear h
    go_enter Try.func16, Try.ntmps16
    go_wp2_with (first
      | (go_at_call 19; refine (Long1_any A n c w hm9).mono ?_; rintro e w1 ⟨rfl, b1⟩; have D1 := hide b1; clear b1; rw [HLn.out])
      | (go_at_call 20; refine (sane_any _).mono ?_; rintro e w2 ⟨rfl, b2⟩; have D2 := hide b2; clear b2))
    go_ret
    exact ⟨rfl, (le_call D1.out D2.out)⟩
  · have HLn := hide (show decide (50 < n) = false from by simpa using hn)
    clear h
    have HTL := hide (timV_len xs v0)
    by_cases he : timE xs v0 = 0
    · have HE := hide he
      have hk := (timE_ok he).2.1
      obtain ⟨hk1, hk2⟩ := hk
      have hk0 : (v0 == 0) = false := by simp; omega
      have hdb : 0 ≤ 2000 / v0 ∧ 2000 / v0 ≤ 2000 := ⟨Int.ediv_nonneg (by decide) (by omega), Int.ediv_le_self v0 (by decide)⟩
      have hdq : IntKind.i64.wrap (2000 / v0) = 2000 / v0 := IntWalk.i64_in _ (by omega)
      have htd : (2000 : Int).tdiv v0 = 2000 / v0 := Int.tdiv_eq_ediv_of_nonneg (by decide)
      have hmain := fun h1 h2 => tim_main (m := v1) he h1 h2
      clear he
      by_cases ha : v1 < 0
      · clear hmain
        go_enter Try.func16, Try.ntmps16
        go_wp2_with (first
          | (go_at_call 19; refine (Long1_any A n c w hm9).mono ?_; rintro e w1 ⟨rfl, b1⟩; have D1 := hide b1; clear b1; rw [HLn.out])
          | (go_at_call 52; refine (Times_any A n c xs v0 _ (HX.out.below D1.out (Nat.le_refl _))).mono ?_; rintro e w2 ⟨A2, n2, c2, rfl, o2, b2⟩; rw [HE.out]; have D2 := hide b2; have O2 := hide o2; have HN2 := hide o2.len; clear o2 b2)
          | (go_at_call 53; refine (rTimes_any A n c xs v0 _ ((HX.out.below D1.out (Nat.le_refl _)).below D2.out (Nat.le_refl _))).mono ?_; rintro e w3 ⟨A3, n3, c3, rfl, o3, b3⟩; rw [HE.out]; have D3 := hide b3; have O3 := hide o3; have HN3 := hide o3.len; clear o3 b3)
          | (go_at_call 36; refine (SameInts_any A2 n2 c2 A3 n3 c3 (timV xs v0) (timV xs v0) _ (O2.out.row.below D3.out (Nat.le_refl _)) O3.out.row (by have h1 := HN2.out; have h2 := HTL.out; omega) (by have h1 := HN3.out; have h2 := HTL.out; omega)).mono ?_; rintro e w4 ⟨rfl, q4, hw4⟩; have D4 := hide (show Below w3.heap.size w3 w4 from by rw [hw4]; exact below_drewN (Below.refl _ _) q4); clear hw4; rw [beq_self_eq_true])
          | (go_at_call 20; refine (sane_any _).mono ?_; rintro e w5 ⟨rfl, b5⟩; have D5 := hide b5; clear b5))
        go_ret
        exact ⟨ret_bool (by simp), (le_call (le_call (le_call (le_call D1.out D2.out) D3.out) D4.out) D5.out)⟩
      · by_cases hq : v1 ≤ 2000 / v0
        · obtain ⟨e1, e2, e3, e4, e5, e6⟩ := hmain (by omega) hq
          have HA1 := hide e1
          have HA2 := hide e2
          have HC := hide e3
          have HF := hide e4
          clear e1 e2 e3 e4 hmain
          have hwm : IntKind.i64.wrap (v0 * v1) = v0 * v1 := IntWalk.i64_in _ (by omega)
          go_enter Try.func16, Try.ntmps16
          go_wp2_with (first
            | (go_at_call 19; refine (Long1_any A n c w hm9).mono ?_; rintro e w1 ⟨rfl, b1⟩; have D1 := hide b1; clear b1; rw [HLn.out])
            | (go_at_call 52; refine (Times_any A n c xs v0 _ (HX.out.below D1.out (Nat.le_refl _))).mono ?_; rintro e w2 ⟨A2, n2, c2, rfl, o2, b2⟩; rw [HE.out]; have D2 := hide b2; have O2 := hide o2; have HN2 := hide o2.len; clear o2 b2)
            | (go_at_call 53; refine (rTimes_any A n c xs v0 _ ((HX.out.below D1.out (Nat.le_refl _)).below D2.out (Nat.le_refl _))).mono ?_; rintro e w3 ⟨A3, n3, c3, rfl, o3, b3⟩; rw [HE.out]; have D3 := hide b3; have O3 := hide o3; have HN3 := hide o3.len; clear o3 b3)
            | (go_at_call 36; refine (SameInts_any A2 n2 c2 A3 n3 c3 (timV xs v0) (timV xs v0) _ (O2.out.row.below D3.out (Nat.le_refl _)) O3.out.row (by have h1 := HN2.out; have h2 := HTL.out; omega) (by have h1 := HN3.out; have h2 := HTL.out; omega)).mono ?_; rintro e w4 ⟨rfl, q4, hw4⟩; have D4 := hide (show Below w3.heap.size w3 w4 from by rw [hw4]; exact below_drewN (Below.refl _ _) q4); clear hw4; rw [beq_self_eq_true])
            | (go_at_call_of 28 (Value.int .i64 v1); refine (Fewest_any A n c xs v1 _ ((((HX.out.below D1.out (Nat.le_refl _)).below D2.out (Nat.le_refl _)).below D3.out (Nat.le_refl _)).below D4.out (Nat.le_refl _))).mono ?_; rw [HA1.out]; rintro e w5 ⟨rfl, b5⟩; have D5 := hide b5; clear b5)
            | (go_at_call_of 28 (Value.int .i64 (v0 * v1)); refine (Fewest_any A2 n2 c2 (timV xs v0) (v0 * v1) _ (((O2.out.row.below D3.out (Nat.le_refl _)).below D4.out (Nat.le_refl _)).below D5.out (Nat.le_refl _))).mono ?_; rw [HF.out, HC.out, HA2.out]; rintro e w6 ⟨rfl, b6⟩; have D6 := hide b6; clear b6)
            | (go_at_call 20; refine (sane_any _).mono ?_; rintro e w7 ⟨rfl, b7⟩; have D7 := hide b7; clear b7))
          go_ret
          exact ⟨ret_bool (by simp), (le_call (le_call (le_call (le_call (le_call (le_call D1.out D2.out) D3.out) D4.out) D5.out) D6.out) D7.out)⟩
        · have hq2 : 2000 / v0 < v1 := by omega
          clear hmain
          go_enter Try.func16, Try.ntmps16
          go_wp2_with (first
            | (go_at_call 19; refine (Long1_any A n c w hm9).mono ?_; rintro e w1 ⟨rfl, b1⟩; have D1 := hide b1; clear b1; rw [HLn.out])
            | (go_at_call 52; refine (Times_any A n c xs v0 _ (HX.out.below D1.out (Nat.le_refl _))).mono ?_; rintro e w2 ⟨A2, n2, c2, rfl, o2, b2⟩; rw [HE.out]; have D2 := hide b2; have O2 := hide o2; have HN2 := hide o2.len; clear o2 b2)
            | (go_at_call 53; refine (rTimes_any A n c xs v0 _ ((HX.out.below D1.out (Nat.le_refl _)).below D2.out (Nat.le_refl _))).mono ?_; rintro e w3 ⟨A3, n3, c3, rfl, o3, b3⟩; rw [HE.out]; have D3 := hide b3; have O3 := hide o3; have HN3 := hide o3.len; clear o3 b3)
            | (go_at_call 36; refine (SameInts_any A2 n2 c2 A3 n3 c3 (timV xs v0) (timV xs v0) _ (O2.out.row.below D3.out (Nat.le_refl _)) O3.out.row (by have h1 := HN2.out; have h2 := HTL.out; omega) (by have h1 := HN3.out; have h2 := HTL.out; omega)).mono ?_; rintro e w4 ⟨rfl, q4, hw4⟩; have D4 := hide (show Below w3.heap.size w3 w4 from by rw [hw4]; exact below_drewN (Below.refl _ _) q4); clear hw4; rw [beq_self_eq_true])
            | (go_at_call 20; refine (sane_any _).mono ?_; rintro e w5 ⟨rfl, b5⟩; have D5 := hide b5; clear b5))
          go_ret
          exact ⟨ret_bool (by simp), (le_call (le_call (le_call (le_call D1.out D2.out) D3.out) D4.out) D5.out)⟩
    · have hne : (timE xs v0 != 0) = true := by simpa using he
      clear he
      go_enter Try.func16, Try.ntmps16
      go_wp2_with (first
        | (go_at_call 19; refine (Long1_any A n c w hm9).mono ?_; rintro e w1 ⟨rfl, b1⟩; have D1 := hide b1; clear b1; rw [HLn.out])
        | (go_at_call 52; refine (Times_any A n c xs v0 _ (HX.out.below D1.out (Nat.le_refl _))).mono ?_; rintro e w2 ⟨A2, n2, c2, rfl, o2, b2⟩; have D2 := hide b2; have O2 := hide o2; have HN2 := hide o2.len; clear o2 b2)
        | (go_at_call 53; refine (rTimes_any A n c xs v0 _ ((HX.out.below D1.out (Nat.le_refl _)).below D2.out (Nat.le_refl _))).mono ?_; rintro e w3 ⟨A3, n3, c3, rfl, o3, b3⟩; have D3 := hide b3; have O3 := hide o3; have HN3 := hide o3.len; clear o3 b3)
        | (go_at_call 36; refine (SameInts_any A2 n2 c2 A3 n3 c3 (timV xs v0) (timV xs v0) _ (O2.out.row.below D3.out (Nat.le_refl _)) O3.out.row (by have h1 := HN2.out; have h2 := HTL.out; omega) (by have h1 := HN3.out; have h2 := HTL.out; omega)).mono ?_; rintro e w4 ⟨rfl, q4, hw4⟩; have D4 := hide (show Below w3.heap.size w3 w4 from by rw [hw4]; exact below_drewN (Below.refl _ _) q4); clear hw4; rw [beq_self_eq_true])
        | (go_at_call 20; refine (sane_any _).mono ?_; rintro e w5 ⟨rfl, b5⟩; have D5 := hide b5; clear b5))
      go_ret
      exact ⟨ret_bool (by simp), (le_call (le_call (le_call (le_call D1.out D2.out) D3.out) D4.out) D5.out)⟩
end Go.Proofs.Ytlhlcchimammlaa
