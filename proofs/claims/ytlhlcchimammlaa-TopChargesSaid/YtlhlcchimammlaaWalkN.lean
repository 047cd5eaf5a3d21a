/- Of amounts and their counterparts just one is made up: on both sides. -/
import Derived.Test.YtlhlcchimammlaaWalkM
namespace Go.Proofs.Ytlhlcchimammlaa
open Go.RowKit Go.Shelf

/-- Of x and T - x just one is made up, for x from 0 to T. -/
def evB (xs : List Int) (T : Int) : Bool := (List.range (T + 1).toNat).all fun x => mu xs x != mu xs (T.toNat - x)
def eveV (xs : List Int) : Bool := if errG xs = 0 then evB xs (topV xs) else false
theorem eveV_ok {xs : List Int} (h : errG xs = 0) : eveV xs = evB xs (topV xs) := if_pos h
theorem eveV_no {xs : List Int} (h : errG xs ≠ 0) : eveV xs = false := if_neg h
theorem evB_neg (xs : List Int) : evB xs (-1) = true := rfl
theorem evB_no {xs : List Int} {t k : Nat} (hk : k ≤ t) (h : mu xs k = mu xs (t - k)) : evB xs (t : Int) = false := by
  unfold evB
  rw [List.all_eq_false]
  exact ⟨k, List.mem_range.2 (by omega), by rw [Int.toNat_natCast, h]; simp⟩
theorem evB_yes {xs : List Int} {t : Nat} (h : ∀ k, k < t + 1 → mu xs k ≠ mu xs (t - k)) : evB xs (t : Int) = true := by
  unfold evB
  rw [List.all_eq_true]
  intro k hk
  have hk := List.mem_range.1 hk
  rw [Int.toNat_natCast]
  simpa using h k (by omega)
theorem topV_rng (xs : List Int) : -1 ≤ topV xs ∧ topV xs ≤ 900 := by
  rcases top_cases xs with ⟨_, h⟩ | h
  · omega
  · have := gap_rng h; omega
set_option maxRecDepth 100000 in
set_option maxHeartbeats 4000000 in
theorem IsEven_any (A : Option Addr) (n c : Nat) (xs : List Int) (w : World) (h : R E1 w A n c xs) :
    Calls Try.prog 44 #[.slice A n c] w fun e w' => e = .returned (.tuple #[.bool (eveV xs), .int .i64 (errG xs)]) ∧ Below w.heap.size w w' := by
  have H := hide h
  clear h
  by_cases he : errG xs = 0
  · have HE := hide he
    have HW := hide (errG_ok.1 he).1.wt
    have hT := topV_rng xs
    have HEV := hide (eveV_ok he)
    have HNEG := hide (evB_neg xs)
    have HNO := hide (fun (t k : Nat) => evB_no (xs := xs) (t := t) (k := k))
    have HYES := hide (fun (t : Nat) => evB_yes (xs := xs) (t := t))
    clear he
    generalize hTe : topV xs = T at *
    have HTE := hide hTe
    clear hTe
    by_cases hn : T = -1
    · subst hn
      go_enter Try.func44, Try.ntmps44
      go_wp2_with (first
        | (go_at_call 68; refine (validateFinite_any _ _ _ xs _ H.out).mono ?_; rintro e w1 ⟨rfl, q1, rfl⟩; rw [HE.out])
        | (go_at_call 70; refine (greatest_any _ _ _ xs _ (H.out.drewN _) HW.out).mono ?_; rw [HTE.out]; rintro e w2 ⟨rfl, b2⟩; have B2 := hide ((below_drewN (Below.refl w.heap.size w) q1).trans b2); clear b2)
        | (go_at_call 61; refine (amountsTo_any _ _ _ xs (-1) _ (H.out.below B2.out (Nat.le_refl _)) HW.out (by omega)).mono ?_; rintro e w3 ⟨Af, cf, rfl, o3, b3⟩; have B3 := hide (B2.out.trans (b3.mono B2.out.size)); clear o3 b3))
      go_loopw [20] (fun i wr => i = .int .i64 0 ∧ Hid (Below w.heap.size w wr)) (fun _ _ => 0)
      case atStart => exact ⟨rfl, hide (B3.out.alloc B3.out.size _)⟩
      case round =>
        obtain ⟨rfl, HB⟩ := hrel
        go_wp2_with fail
        go_ret2
        exact ⟨by rw [HE.out, HEV.out, HNEG.out]; rfl, HB.out⟩
    · obtain ⟨t, rfl⟩ : ∃ t : Nat, T = (t : Int) := ⟨T.toNat, by omega⟩
      have HFA := hide (fun k (hk : k ≤ t) => (show (!((few xs t).getD k (-1) == -1)) = mu xs k from by rw [few_at xs t k hk, ← mu_few, few_at xs k k (Nat.le_refl _)]))
      go_enter Try.func44, Try.ntmps44
      go_wp2_with (first
        | (go_at_call 68; refine (validateFinite_any _ _ _ xs _ H.out).mono ?_; rintro e w1 ⟨rfl, q1, rfl⟩; rw [HE.out])
        | (go_at_call 70; refine (greatest_any _ _ _ xs _ (H.out.drewN _) HW.out).mono ?_; rw [HTE.out]; rintro e w2 ⟨rfl, b2⟩; have B2 := hide ((below_drewN (Below.refl w.heap.size w) q1).trans b2); clear b2)
        | (go_at_call 61; refine (amountsTo_any _ _ _ xs (t : Int) _ (H.out.below B2.out (Nat.le_refl _)) HW.out (by omega)).mono ?_; rintro e w3 ⟨Af, cf, rfl, o3, b3⟩; rw [Int.toNat_natCast] at o3; rw [Int.toNat_natCast]; have O3 := hide o3; have B3 := hide (B2.out.trans (b3.mono B2.out.size)); clear o3 b3))
      have HW3 := hide ((Below.refl w3.heap.size w3).alloc (Nat.le_refl _) (.cells (amC A n c Af (t + 1) cf) 52))
      have HB4 := hide (Bk.born w3 52 (amC A n c Af (t + 1) cf))
      have HSZ := hide (show (w3.alloc (.cells (amC A n c Af (t + 1) cf) 52)).heap.size = w3.heap.size + 1 from by simp)
      generalize (w3.alloc (.cells (amC A n c Af (t + 1) cf) 52)) = W1 at *
      have HROW := hide (fun (wi : World) (hb : Below W1.heap.size W1 wi) => O3.out.row.below (HW3.out.trans (hb.mono (by rw [HSZ.out]; omega))) (Nat.le_refl _))
      have HBK := hide (fun (wi : World) (hb : Below W1.heap.size W1 wi) => HB4.out.keep hb (by rw [HSZ.out]; omega))
      go_loopw [20] (fun i wr => ∃ k : Nat, k ≤ t + 1 ∧ i = .int .i64 k ∧ Hid (∀ j, j < k → mu xs j ≠ mu xs (t - j)) ∧ Hid (Below W1.heap.size W1 wr)) (fun i _ => t + 1 - (intOf i).toNat)
      case atStart => exact ⟨0, Nat.zero_le _, rfl, hide (fun j hj => absurd hj (Nat.not_lt_zero j)), hide (Below.refl _ _)⟩
      case round =>
        obtain ⟨k, hk, rfl, HS, HB⟩ := hrel
        by_cases hlt : k ≤ t
        · have hk1 : k < t + 1 := by omega
          have hk2 : t - k < t + 1 := by omega
          have HM1 := hide (HFA.out k hlt)
          have HM2 := hide (HFA.out (t - k) (by omega))
          have HB0 := hide HB.out.drew
          have b0 := (HBK.out wr.drew HB0.out).at_ 0
          have b1 := (HBK.out wr.drew HB0.out).at_ 1
          simp at b0 b1
          have v1 : IntKind.i64.wrap ((t : Int) - (k : Int)) = ((t - k : Nat) : Int) := by rw [show (t : Int) - (k : Int) = ((t - k : Nat) : Int) by omega]; exact IntWalk.i64_in _ (by omega)
          have hkt : (k : Int) < (t : Int) + 1 := by omega
          have HNK := hide (HNO.out t k hlt)
          have HSK := hide (fun (h : mu xs k ≠ mu xs (t - k)) j (hj : j < k + 1) => (show mu xs j ≠ mu xs (t - j) from by
            by_cases e : j = k
            · subst e; exact h
            · exact HS.out j (by omega)))
          generalize mu xs k = p at *
          generalize mu xs (t - k) = q at *
          go_wp2_with fail
          go_region_with (first
            | (go_at_call_of 62 (Value.int .i64 (k : Nat)); refine (isMadeUp_any A n c _ (t + 1) _ (few xs t) k _ (HROW.out _ (by first | exact HB0.out | exact BX.out)) hk1).mono ?_; rw [HM1.out]; rintro e wx ⟨rfl, bx⟩; have BX := hide (by first | exact HB0.out.trans (bx.mono (by first | exact HB0.out.size | (have := HB0.out.size; simp at this ⊢; omega))) | exact BX.out.trans (bx.mono BX.out.size)); have q0 := (HBK.out wx BX.out).at_ 0; have q1 := (HBK.out wx BX.out).at_ 1; simp at q0 q1; clear bx)
            | (go_at_call_of 62 (Value.int .i64 ((t - k) : Nat)); refine (isMadeUp_any A n c _ (t + 1) _ (few xs t) (t - k) _ (HROW.out _ (by first | exact HB0.out | exact BX.out)) hk2).mono ?_; rw [HM2.out]; rintro e wx ⟨rfl, bx⟩; have BX := hide (by first | exact HB0.out.trans (bx.mono (by first | exact HB0.out.size | (have := HB0.out.size; simp at this ⊢; omega))) | exact BX.out.trans (bx.mono BX.out.size)); have q0 := (HBK.out wx BX.out).at_ 0; have q1 := (HBK.out wx BX.out).at_ 1; simp at q0 q1; clear bx))
          all_goals
            clear v1 b0 b1 q0 q1
            cases p <;> cases q <;> go_wp2_with fail
            all_goals first
              | (go_ret2; exact ⟨by rw [HE.out, HEV.out, HNK.out (by first | rfl | trivial)]; rfl, (B3.out.trans (HW3.out.mono B3.out.size)).trans (BX.out.mono (by have := B3.out.size; rw [HSZ.out]; omega))⟩)
              | (go_roundw
                 case rel => exact ⟨k + 1, by omega, by go_num, hide (HSK.out (by decide)), BX⟩
                 case measure => simp [intOf]; omega)
        · obtain rfl : k = t + 1 := by omega
          have HY := hide (HYES.out t HS.out)
          go_wp2_with fail
          go_ret2
          exact ⟨by rw [HE.out, HEV.out, HY.out]; rfl, (B3.out.trans (HW3.out.mono B3.out.size)).trans (HB.out.mono (by have := B3.out.size; rw [HSZ.out]; omega))⟩
  · have HG := hide (eveV_no he)
    have hne : (errG xs != 0) = true := by simpa using he
    clear he
    go_enter Try.func44, Try.ntmps44
    go_wp2_with (go_at_call 68; refine (validateFinite_any _ _ _ xs _ H.out).mono ?_; rintro e w1 ⟨rfl, q, rfl⟩)
    go_ret2
    exact ⟨by rw [HG.out]; rfl, below_drewN (Below.refl _ _) q⟩
end Go.Proofs.Ytlhlcchimammlaa
