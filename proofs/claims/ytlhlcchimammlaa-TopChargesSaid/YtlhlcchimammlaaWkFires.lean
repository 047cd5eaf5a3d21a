/- ChargeFires: the walk. -/
import Derived.Test.YtlhlcchimammlaaSane
import Derived.Test.YtlhlcchimammlaaWalkS
namespace Go.Proofs.Ytlhlcchimammlaa
open Go.RowKit Go.Shelf

set_option maxHeartbeats 1000000 in
theorem sum_any (A : Option Addr) (n c : Nat) (L : List Int) (w : World) (h : R E1 w A n c L) (hn : n ≤ 50) (hb : ∀ i, i < n → 0 ≤ L.getD i 0 ∧ L.getD i 0 ≤ 2000) :
    Calls Try.prog 31 #[.slice A n c] w fun e w' => e = .returned (.int .i64 (smTo L n)) ∧ w = w' := by
  have HB := hide hb
  obtain ⟨b, off, hr⟩ := h
  have HR := hide hr
  have HU := hide (fun k (hk : k ≤ n) => (show 0 ≤ smTo L k ∧ smTo L k ≤ 2000 * k from by
    induction k with
    | zero => simp [smTo]
    | succ k ih =>
      have h1 := ih (by omega)
      have h2 := hb k (by omega)
      rw [smTo_succ]
      omega))
  clear hr hb
  go_enter Try.func31, Try.ntmps31
  go_wp2_with fail
  go_loop [3, 4] (fun s i => ∃ k : Nat, k ≤ n ∧ i = .int .i64 k ∧ s = .int .i64 (smTo L k)) (fun _ i => n - (intOf i).toNat)
  case atStart => exact ⟨0, Nat.zero_le _, rfl, rfl⟩
  case round =>
    obtain ⟨k, hk, rfl, rfl⟩ := hrel
    have hu := HU.out k hk
    by_cases hlt : k < n
    · obtain rfl := HR.out.at_ (by omega)
      have a1 := c1 HR.out hlt
      have hx := HB.out k hlt
      have HS := hide (smTo_succ L k)
      generalize L.getD k 0 = x at *
      generalize smTo L k = s at *
      go_wp2_with fail
      go_round
      case rel => exact ⟨k + 1, by omega, by go_num, by rw [HS.out]⟩
      case measure => simp [intOf]; omega
    · obtain rfl : k = n := by omega
      go_wp2_with fail
      go_ret
      exact ⟨rfl, rfl⟩
set_option maxRecDepth 100000 in
set_option maxHeartbeats 4000000 in
theorem ChargeFires_walk (A : Option Addr) (n c : Nat) (xs : List Int) (v0 : Int) (w : World) (h : R E1 w A n c xs) (hw0 : (Lit.int .i64 v0).wf = true) :
    Calls Try.prog 5 #[.slice A n c, .int .i64 v0] w fun e w' => e = .returned (.bool true) ∧ Below w.heap.size w w' := by
  have HX := hide h
  have HL := hide h.length
  have hm9 := h.le
  by_cases hn : 50 < n
  · have HLn := hide (show decide (50 < n) = true from by simpa using hn)
    clear h
    go_enter Try.func5, Try.ntmps5
    go_wp2_with (first
      | (go_at_call 19; refine (Long1_any A n c w hm9).mono ?_; rintro e w1 ⟨rfl, b1⟩; have D1 := hide b1; clear b1; rw [HLn.out])
      | (go_at_call 20; refine (sane_any _).mono ?_; rintro e w2 ⟨rfl, b2⟩; have D2 := hide b2; clear b2))
    go_ret
    exact ⟨rfl, (le_call D1.out D2.out)⟩
  · have HLn := hide (show decide (50 < n) = false from by simpa using hn)
    clear h
    by_cases he : errA xs v0 = 0
    · have HER := hide he
      have hV := (errA_ok.1 he).1
      have HEW := hide (errW_vw.2 hV)
      cases hc : canV xs v0 with
      | true =>
        obtain ⟨m, rfl, hm2, hw⟩ := errA_am he
        have HCN := hide hc
        have HFV := hide (show fewV xs (m : Int) = fw xs m from by rw [fewV_ok hc, Int.toNat_natCast])
        have HER : Hid (errA xs (m : Int) = 0) := hide he
        clear hc he hV hw
        go_enter Try.func5, Try.ntmps5
        go_wp2_with (first
          | (go_at_call 19; refine (Long1_any A n c w hm9).mono ?_; rintro e w1 ⟨rfl, b1⟩; have D1 := hide b1; clear b1; rw [HLn.out])
          | (go_at_call 30; refine (Fire_any A n c xs (m : Int) _ (HX.out.below D1.out (Nat.le_refl _))).mono ?_; rintro e w2 ⟨A2, n2, c2, L2, rfl, o2, b2, k2, l2⟩; rw [HCN.out, HER.out]; have D2 := hide b2; have HN2 := hide o2.len; have HK2 := hide k2; have HL2 := hide l2; have HR2 := hide o2.row; clear o2 b2 k2 l2; have HOK := hide (HK2.out HCN.out); obtain rfl : n = n2 := (by rw [← HN2.out, ← HL.out]; exact HOK.out.1.1.symm))
          | (go_at_call 29; refine (rFewest_any A n c xs (m : Int) _ ((HX.out.below D1.out (Nat.le_refl _)).below D2.out (Nat.le_refl _))).mono ?_; rw [HCN.out, HER.out, HFV.out]; rintro e w3 ⟨rfl, b3⟩; have D3 := hide b3; clear b3)
          | (go_at_call 24; refine (rCheckCounts_any A n c xs A2 n c2 L2 _ (((HX.out.below D1.out (Nat.le_refl _)).below D2.out (Nat.le_refl _)).below D3.out (Nat.le_refl _)) (HR2.out.below D3.out (Nat.le_refl _))).mono ?_; rw [cntV_ok HEW.out HOK.out.1, errK_fine HEW.out HOK.out.1, HOK.out.2.1]; rintro e w4 ⟨rfl, q4, hw4⟩; have D4 := hide (show Below w3.heap.size w3 w4 from by rw [hw4]; exact below_drewN (Below.refl _ _) q4); clear hw4)
          | (go_at_call 31; refine (sum_any A2 n c2 L2 _ ((HR2.out.below D3.out (Nat.le_refl _)).below D4.out (Nat.le_refl _)) (by omega) (fun i hi => HOK.out.1.2 i (by rw [HN2.out]; exact hi))).mono ?_; rw [show smTo L2 n = fw xs m from by rw [← HL.out, HOK.out.2.2, Int.toNat_natCast]]; rintro e w' ⟨rfl, rfl⟩)
          | (go_at_call 20; refine (sane_any _).mono ?_; rintro e w5 ⟨rfl, b5⟩; have D5 := hide b5; clear b5))
        go_ret
        exact ⟨ret_bool (by simp), (le_call (le_call (le_call (le_call D1.out D2.out) D3.out) D4.out) D5.out)⟩
      | false =>
        have HCN := hide hc
        clear hc he hV
        go_enter Try.func5, Try.ntmps5
        go_wp2_with (first
          | (go_at_call 19; refine (Long1_any A n c w hm9).mono ?_; rintro e w1 ⟨rfl, b1⟩; have D1 := hide b1; clear b1; rw [HLn.out])
          | (go_at_call 30; refine (Fire_any A n c xs v0 _ (HX.out.below D1.out (Nat.le_refl _))).mono ?_; rintro e w2 ⟨A2, n2, c2, L2, rfl, o2, b2, k2, l2⟩; rw [HCN.out, HER.out]; have D2 := hide b2; have HN2 := hide o2.len; have HK2 := hide k2; have HL2 := hide l2; have HR2 := hide o2.row; clear o2 b2 k2 l2; obtain rfl := HL2.out HCN.out; obtain rfl : n2 = 0 := HN2.out.symm)
          | (go_at_call 29; refine (rFewest_any A n c xs v0 _ ((HX.out.below D1.out (Nat.le_refl _)).below D2.out (Nat.le_refl _))).mono ?_; rw [HCN.out, HER.out]; rintro e w3 ⟨rfl, b3⟩; have D3 := hide b3; clear b3)
          | (go_at_call 20; refine (sane_any _).mono ?_; rintro e w4 ⟨rfl, b4⟩; have D4 := hide b4; clear b4))
        go_ret
        exact ⟨ret_bool (by simp), (le_call (le_call (le_call D1.out D2.out) D3.out) D4.out)⟩
    · have HCN := hide (canV_no he)
      have HZ := hide he
      clear he
      go_enter Try.func5, Try.ntmps5
      go_wp2_with (first
        | (go_at_call 19; refine (Long1_any A n c w hm9).mono ?_; rintro e w1 ⟨rfl, b1⟩; have D1 := hide b1; clear b1; rw [HLn.out])
        | (go_at_call 30; refine (Fire_any A n c xs v0 _ (HX.out.below D1.out (Nat.le_refl _))).mono ?_; rintro e w2 ⟨A2, n2, c2, L2, rfl, o2, b2, k2, l2⟩; rw [HCN.out]; have D2 := hide b2; have HN2 := hide o2.len; have HK2 := hide k2; have HL2 := hide l2; have HR2 := hide o2.row; clear o2 b2 k2 l2; obtain rfl := HL2.out HCN.out; obtain rfl : n2 = 0 := HN2.out.symm)
        | (go_at_call 29; refine (rFewest_any A n c xs v0 _ ((HX.out.below D1.out (Nat.le_refl _)).below D2.out (Nat.le_refl _))).mono ?_; rw [HCN.out]; rintro e w3 ⟨rfl, b3⟩; have D3 := hide b3; clear b3)
        | (go_at_call 20; refine (sane_any _).mono ?_; rintro e w4 ⟨rfl, b4⟩; have D4 := hide b4; clear b4))
      go_ret
      exact ⟨ret_bool (by simp), (le_call (le_call (le_call D1.out D2.out) D3.out) D4.out)⟩
end Go.Proofs.Ytlhlcchimammlaa
