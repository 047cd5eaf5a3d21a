/- Can and Fewest, on both sides. -/
import Derived.Test.YtlhlcchimammlaaWalkG
namespace Go.Proofs.Ytlhlcchimammlaa
open Go.RowKit Go.Shelf

def canV (xs : List Int) (m : Int) : Bool := decide (errA xs m = 0) && mu xs m.toNat
def fewV (xs : List Int) (m : Int) : Int := if canV xs m = true then fw xs m.toNat else 0
theorem canV_no {xs : List Int} {m : Int} (h : errA xs m ≠ 0) : canV xs m = false := by simp [canV, h]
theorem canV_ok {xs : List Int} {m : Int} (h : errA xs m = 0) : canV xs m = mu xs m.toNat := by simp [canV, h]
theorem fewV_no {xs : List Int} {m : Int} (h : canV xs m = false) : fewV xs m = 0 := by simp [fewV, h]
theorem fewV_ok {xs : List Int} {m : Int} (h : canV xs m = true) : fewV xs m = fw xs m.toNat := by simp [fewV, h]
theorem mu_few {xs : List Int} {n : Nat} : (!((few xs n).getD n (-1) == -1)) = mu xs n := by
  rw [few_at xs n n (Nat.le_refl _)]
  unfold mu
  cases h : (fw xs n == -1) with
  | true => simp at h; simp [h]
  | false => simp at h; simp [h]
theorem gap_few {xs : List Int} {n : Nat} : ((few xs n).getD n (-1) == -1) = !mu xs n := by rw [← mu_few, Bool.not_not]
theorem errA_am {xs : List Int} {m : Int} (h : errA xs m = 0) : ∃ k : Nat, m = (k : Int) ∧ k ≤ 2000 ∧ Wt xs := by
  obtain ⟨h1, h2, h3⟩ := errA_ok.1 h
  exact ⟨m.toNat, by omega, by omega, h1.wt⟩
set_option maxHeartbeats 1000000 in
theorem Can_any (A : Option Addr) (n c : Nat) (xs : List Int) (m : Int) (w : World) (h : R E1 w A n c xs) :
    Calls Try.prog 27 #[.slice A n c, .int .i64 m] w fun e w' => e = .returned (.tuple #[.bool (canV xs m), .int .i64 (errA xs m)]) ∧ Below w.heap.size w w' := by
  have H := hide h
  clear h
  by_cases he : errA xs m = 0
  · have HE := hide he
    obtain ⟨k, rfl, hk, hw⟩ := errA_am he
    have HC := hide (canV_ok he)
    have HW := hide hw
    have HM := hide (mu_few (xs := xs) (n := k))
    clear he hw
    go_enter Try.func27, Try.ntmps27
    go_wp2_with (first
      | (go_at_call 60; refine (validateAmount_any _ _ _ xs _ _ H.out).mono ?_; rintro e w1 ⟨rfl, rfl⟩; rw [HE.out])
      | (go_at_call 61; refine (amountsTo_any _ _ _ xs _ _ H.out HW.out (by omega)).mono ?_; rintro e w1 ⟨Af, cf, rfl, o1, b1⟩; rw [Int.toNat_natCast] at o1; rw [Int.toNat_natCast]; have O1 := hide o1; have B1 := hide b1; clear o1 b1)
      | (go_at_call 62; refine (isMadeUp_any _ _ _ _ _ _ (few xs k) k _ O1.out.row (by omega)).mono ?_; rw [HM.out]; rintro e w2 ⟨rfl, b2⟩; have B2 := hide b2; clear b2))
    go_ret2
    exact ⟨by rw [HC.out, HE.out, Int.toNat_natCast]; rfl, B1.out.trans (B2.out.mono B1.out.size)⟩
  · have HC := hide (canV_no he)
    have hne : (errA xs m != 0) = true := by simpa using he
    clear he
    go_enter Try.func27, Try.ntmps27
    go_wp2_with (go_at_call 60; refine (validateAmount_any _ _ _ xs _ _ H.out).mono ?_; rintro e w1 ⟨rfl, rfl⟩)
    go_ret2
    exact ⟨by rw [HC.out]; rfl, Below.refl _ _⟩
set_option maxHeartbeats 1000000 in
theorem Fewest_any (A : Option Addr) (n c : Nat) (xs : List Int) (m : Int) (w : World) (h : R E1 w A n c xs) :
    Calls Try.prog 28 #[.slice A n c, .int .i64 m] w fun e w' => e = .returned (.tuple #[.int .i64 (fewV xs m), .bool (canV xs m), .int .i64 (errA xs m)]) ∧ Below w.heap.size w w' := by
  have H := hide h
  clear h
  by_cases he : errA xs m = 0
  · have HE := hide he
    obtain ⟨k, rfl, hk, hw⟩ := errA_am he
    have HC := hide (canV_ok he)
    have HW := hide hw
    have HM := hide (gap_few (xs := xs) (n := k))
    have HFA := hide (few_at xs k k (Nat.le_refl _))
    have HFL := hide (few_len xs k)
    clear he hw
    cases hmu : mu xs k with
    | false =>
      have HMU := hide hmu
      have HZ := hide (fewV_no (xs := xs) (m := k) (by rw [HC.out, Int.toNat_natCast]; exact hmu))
      clear hmu
      go_enter Try.func28, Try.ntmps28
      go_wp2_with (first
        | (go_at_call 60; refine (validateAmount_any _ _ _ xs _ _ H.out).mono ?_; rintro e w1 ⟨rfl, rfl⟩; rw [HE.out])
        | (go_at_call 61; refine (amountsTo_any _ _ _ xs _ _ H.out HW.out (by omega)).mono ?_; rintro e w1 ⟨Af, cf, rfl, o1, b1⟩; rw [Int.toNat_natCast] at o1; rw [Int.toNat_natCast]; have O1 := hide o1; have B1 := hide b1; clear o1 b1)
        | (go_at_call 63; refine (isGap_any _ _ _ _ _ _ (few xs k) k _ (O1.out.alloc _).row (by omega)).mono ?_; rw [HM.out, HMU.out]; rintro e w2 ⟨rfl, b2⟩; have B2 := hide b2; clear b2))
      go_ret3
      exact ⟨by rw [HZ.out, HC.out, HE.out, Int.toNat_natCast, HMU.out]; rfl, (B1.out.alloc B1.out.size _).trans (B2.out.mono (by have := B1.out.size; simp; omega))⟩
    | true =>
      have HMU := hide hmu
      have HZ := hide (fewV_ok (xs := xs) (m := k) (by rw [HC.out, Int.toNat_natCast]; exact hmu))
      clear hmu
      go_enter Try.func28, Try.ntmps28
      go_wp2_with (first
        | (go_at_call 60; refine (validateAmount_any _ _ _ xs _ _ H.out).mono ?_; rintro e w1 ⟨rfl, rfl⟩; rw [HE.out])
        | (go_at_call 61; refine (amountsTo_any _ _ _ xs _ _ H.out HW.out (by omega)).mono ?_; rintro e w1 ⟨Af, cf, rfl, o1, b1⟩; rw [Int.toNat_natCast] at o1; rw [Int.toNat_natCast]; obtain ⟨g1, rfl, hg1, hg2, hg3, hg4⟩ := o1.addr (by omega); have hg5 : cf ≤ 9223372036854775807 := hg4; clear hg4; have O1 := hide o1; have B1 := hide b1; clear o1 b1)
        | (go_at_call 63; refine (isGap_any _ _ _ _ _ _ (few xs k) k _ (O1.out.alloc _).row (by omega)).mono ?_; rw [HM.out, HMU.out]; rintro e w2 ⟨rfl, b2⟩; have hk2 := (Bk.born w1 52 (amC A n c (some ⟨g1, 0, none⟩) (k + 1) cf)).keep b2 (by simp); have q0 := hk2.at_ 0; have q1 := hk2.at_ 1; simp at q0 q1; have r1 := own1 ((O1.out.alloc _).below b2 (Nat.le_refl _)) (k := k) (by omega); have HG := hide (getD_any (l := few xs k) (k := k) (by rw [HFL.out]; omega) 0 (-1)); rw [HG.out, HFA.out] at r1; have B2 := hide b2; clear b2 hk2))
      go_ret3
      exact ⟨by rw [HZ.out, HC.out, HE.out, Int.toNat_natCast, HMU.out]; rfl, (B1.out.alloc B1.out.size _).trans (B2.out.mono (by have := B1.out.size; simp; omega))⟩
  · have HC := hide (canV_no he)
    have HZ := hide (fewV_no (canV_no he))
    have hne : (errA xs m != 0) = true := by simpa using he
    clear he
    go_enter Try.func28, Try.ntmps28
    go_wp2_with (go_at_call 60; refine (validateAmount_any _ _ _ xs _ _ H.out).mono ?_; rintro e w1 ⟨rfl, rfl⟩)
    go_ret3
    exact ⟨by rw [HC.out, HZ.out]; rfl, Below.refl _ _⟩
set_option maxHeartbeats 1000000 in
theorem rFewest_any (A : Option Addr) (n c : Nat) (xs : List Int) (m : Int) (w : World) (h : R E1 w A n c xs) :
    Calls Try.prog 29 #[.slice A n c, .int .i64 m] w fun e w' => e = .returned (.tuple #[.int .i64 (fewV xs m), .bool (canV xs m), .int .i64 (errA xs m)]) ∧ Below w.heap.size w w' := by
  have H := hide h
  clear h
  by_cases he : errA xs m = 0
  · have HE := hide he
    obtain ⟨k, rfl, hk, hw⟩ := errA_am he
    have HC := hide (canV_ok he)
    have HW := hide hw
    have HFA := hide (few_at xs k k (Nat.le_refl _))
    have HFL := hide (few_len xs k)
    have hb := fw_ge hw k
    have HMM := hide (show mu xs k = decide (fw xs k ≠ -1) from rfl)
    have HZN := hide (fewV_no (xs := xs) (m := k))
    have HZO := hide (fewV_ok (xs := xs) (m := k))
    clear he hw
    rw [HC.out, Int.toNat_natCast] at HZN HZO
    generalize fw xs k = v at *
    by_cases hv : v < 0
    · have HMU := hide (show mu xs k = false from by rw [HMM.out]; simp; omega)
      go_enter Try.func29, Try.ntmps29
      go_wp2_with (first
        | (go_at_call 64; refine (asked_any _ _ _ xs _ _ H.out).mono ?_; rintro e w1 ⟨rfl, q1, rfl⟩; rw [HE.out])
        | (go_at_call 65; refine (few_any _ _ _ xs k _ (H.out.drewN _) HW.out (by omega)).mono ?_; rintro e w1 ⟨Af, nf, cf, rfl, o1, b1⟩; obtain rfl : nf = k + 1 := (by rw [← o1.len, HFL.out]); obtain ⟨g1, rfl, hg1, hg2, hg3, hg4⟩ := o1.addr (by omega); have hg5 : cf ≤ 9223372036854775807 := hg4; clear hg4; have r1 := own1 o1 (k := k) (by omega); have HG := hide (getD_any (l := few xs k) (k := k) (by rw [HFL.out]; omega) 0 (-1)); rw [HG.out, HFA.out] at r1; have O1 := hide o1; have B1 := hide b1; clear o1 b1))
      go_ret3
      exact ⟨by rw [HZN.out HMU.out, HC.out, HE.out, Int.toNat_natCast, HMU.out]; rfl, (below_drewN (Below.refl _ _) q1).trans B1.out⟩
    · have HMU := hide (show mu xs k = true from by rw [HMM.out]; simp; omega)
      go_enter Try.func29, Try.ntmps29
      go_wp2_with (first
        | (go_at_call 64; refine (asked_any _ _ _ xs _ _ H.out).mono ?_; rintro e w1 ⟨rfl, q1, rfl⟩; rw [HE.out])
        | (go_at_call 65; refine (few_any _ _ _ xs k _ (H.out.drewN _) HW.out (by omega)).mono ?_; rintro e w1 ⟨Af, nf, cf, rfl, o1, b1⟩; obtain rfl : nf = k + 1 := (by rw [← o1.len, HFL.out]); obtain ⟨g1, rfl, hg1, hg2, hg3, hg4⟩ := o1.addr (by omega); have hg5 : cf ≤ 9223372036854775807 := hg4; clear hg4; have r1 := own1 o1 (k := k) (by omega); have HG := hide (getD_any (l := few xs k) (k := k) (by rw [HFL.out]; omega) 0 (-1)); rw [HG.out, HFA.out] at r1; have O1 := hide o1; have B1 := hide b1; clear o1 b1))
      go_ret3
      exact ⟨by rw [HZO.out HMU.out, HC.out, HE.out, Int.toNat_natCast, HMU.out]; rfl, (below_drewN (Below.refl _ _) q1).trans B1.out⟩
  · have HC := hide (canV_no he)
    have HZ := hide (fewV_no (canV_no he))
    have hne : (errA xs m != 0) = true := by simpa using he
    clear he
    go_enter Try.func29, Try.ntmps29
    go_wp2_with (go_at_call 64; refine (asked_any _ _ _ xs _ _ H.out).mono ?_; rintro e w1 ⟨rfl, q1, rfl⟩)
    go_ret3
    exact ⟨by rw [HC.out, HZ.out]; rfl, below_drewN (Below.refl _ _) q1⟩
end Go.Proofs.Ytlhlcchimammlaa
