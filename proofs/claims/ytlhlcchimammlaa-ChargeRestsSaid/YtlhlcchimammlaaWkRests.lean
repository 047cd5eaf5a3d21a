/- ChargeRests: the walk. -/
import Derived.Test.YtlhlcchimammlaaSane
namespace Go.Proofs.Ytlhlcchimammlaa
open Go.RowKit Go.Shelf

set_option maxRecDepth 100000 in
set_option maxHeartbeats 4000000 in
theorem ChargeRests_walk (A : Option Addr) (n c : Nat) (xs : List Int) (v0 : Int) (w : World) (h : R E1 w A n c xs) (hw0 : (Lit.int .i64 v0).wf = true) :
    Calls Try.prog 12 #[.slice A n c, .int .i64 v0] w fun e w' => e = .returned (.bool true) ∧ Below w.heap.size w w' := by
  have HX := hide h
  have HL := hide h.length
  have hm9 := h.le
  by_cases hn : 50 < n
  · have HLn := hide (show decide (50 < n) = true from by simpa using hn)
    clear h
    go_enter Try.func12, Try.ntmps12
    go_wp2_with (first
      | (go_at_call 19; refine (Long1_any A n c w hm9).mono ?_; rintro e w1 ⟨rfl, b1⟩; have D1 := hide b1; clear b1; rw [HLn.out])
      | (go_at_call 20; refine (sane_any _).mono ?_; rintro e w2 ⟨rfl, b2⟩; have D2 := hide b2; clear b2))
    go_ret
    exact ⟨rfl, (le_call D1.out D2.out)⟩
  · have HLn := hide (show decide (50 < n) = false from by simpa using hn)
    have HGL := hide (rsdV_len xs)
    by_cases hw : errW xs = 0
    · have HEW := hide hw
      have hV := errW_vw.1 hw
      by_cases ha : errA xs v0 = 0
      · have hCA := canV_ok ha
        have HEA0 := hide ha
        obtain ⟨k, rfl, hk2, hwt⟩ := errA_am ha
        have HEA : Hid (errA xs (k : Int) = 0) := HEA0
        rw [Int.toNat_natCast] at hCA
        obtain ⟨h0m, h01, h02⟩ := hV.fst
        have hn1 : 1 ≤ n := by rw [← h.length]; exact hV.1
        obtain ⟨s, hs⟩ : ∃ s : Nat, xs.getD 0 0 = (s : Int) := ⟨(xs.getD 0 0).toNat, by omega⟩
        have hRV := rsdV_ok hw
        have hsn : (xs.getD 0 0).toNat = s := by omega
        have hri := res_iff hV k
        rw [hsn] at hri
        have hs30 : s ≤ 30 := by omega
        have hs1 : 1 ≤ s := by omega
        have hmod : k % s < s := Nat.mod_lt _ (by omega)
        have HRA := hide (show (rsdV xs).getD (k % s) 0 = resV xs 870 (k % s) from by rw [hRV, hsn, rssV_at xs 870 hmod])
        have HRL := hide (show (rsdV xs).length = s from by rw [hRV, hsn, rssV_len])
        have hrb := resV_bd xs 870 (k % s)
        have HCA := hide (hCA.trans hri)
        obtain ⟨bb, off, hr⟩ := h
        obtain rfl := hr.at_ (by omega)
        have HRR := hide hr
        have HS0 := hide hs
        have hm : (k : Int).tmod (s : Int) = ((k % s : Nat) : Int) := by rw [Int.tmod_eq_emod_of_nonneg (by omega)]; rfl
        have hm2 : (k : Int) % (s : Int) = ((k % s : Nat) : Int) := by rfl
        have hs0 : (s : Int) ≠ 0 := by omega
        generalize k % s = r at *
        generalize resV xs 870 r = v at *
        have HM := hide hm
        have HM2 := hide hm2
        clear ha hRV hV hr h0m h01 h02 hs hw hsn hri hCA hwt hm hm2
        have hnn : (0 : Int) < (n : Int) := by omega
        have hrs : (r : Int) < (s : Int) := by omega
        have hm := HM.out
        have hm2 := HM2.out
        have HCL := hide (fun (wr : World) (hb : Below w.heap.size w wr) => (show wr.cell? ⟨bb, off, none⟩ = some (.int .i64 (s : Int)) from by
          have a0 := c1 (k := 0) (HRR.out.below hb (Nat.le_refl _)) (by omega)
          rw [HS0.out] at a0
          exact a0))
        by_cases hv0 : 0 ≤ v
        · have dv0 : decide (0 ≤ v) = true := by simpa using hv0
          by_cases hvk : v ≤ (k : Int)
          · have dvk : decide (v ≤ (k : Int)) = true := by simpa using hvk
            go_enter Try.func12, Try.ntmps12
            go_wp2_with (first
              | (go_at_call 19; refine (Long1_any _ n c w hm9).mono ?_; rintro e w1 ⟨rfl, b1⟩; have D1 := hide b1; clear b1; rw [HLn.out])
              | (go_at_call 42; refine (Residues_any _ n c xs _ (HX.out.below D1.out (Nat.le_refl _))).mono ?_; rw [HEW.out]; rintro e w2 ⟨A2, n2, c2, rfl, o2, b2⟩; have D2 := hide b2; have O2 := hide o2; have HN2 := hide o2.len; clear o2 b2; obtain rfl : n2 = s := (by have h1 := HN2.out; have h2 := HRL.out; omega))
              | (go_at_call 27; refine (Can_any _ n c xs (k : Int) _ ((HX.out.below D1.out (Nat.le_refl _)).below D2.out (Nat.le_refl _))).mono ?_; rw [HEA.out, HCA.out]; rintro e w3 ⟨rfl, b3⟩; have D3 := hide b3; clear b3; have HT := hide (le_call (le_call D1.out D2.out) D3.out); have HRO := hide (O2.out.below D3.out (Nat.le_refl _)); obtain ⟨g2, rfl, hg2, hg2', hg3, hg4⟩ := HRO.out.addr hs1; have hg5 : c2 ≤ 9223372036854775807 := hg4; clear hg4 hg2; have a0 := HCL.out w3 HT.out; have r1 := own1 HRO.out hmod; rw [HRA.out] at r1)
              | (go_at_call 20; refine (sane_any _).mono ?_; rintro e w4 ⟨rfl, b4⟩; have D4 := hide b4; clear b4))
            go_ret
            exact ⟨ret_bool (by simp), (le_call (le_call (le_call D1.out D2.out) D3.out) D4.out)⟩
          · have dvk : decide (v ≤ (k : Int)) = false := by simpa using hvk
            go_enter Try.func12, Try.ntmps12
            go_wp2_with (first
              | (go_at_call 19; refine (Long1_any _ n c w hm9).mono ?_; rintro e w1 ⟨rfl, b1⟩; have D1 := hide b1; clear b1; rw [HLn.out])
              | (go_at_call 42; refine (Residues_any _ n c xs _ (HX.out.below D1.out (Nat.le_refl _))).mono ?_; rw [HEW.out]; rintro e w2 ⟨A2, n2, c2, rfl, o2, b2⟩; have D2 := hide b2; have O2 := hide o2; have HN2 := hide o2.len; clear o2 b2; obtain rfl : n2 = s := (by have h1 := HN2.out; have h2 := HRL.out; omega))
              | (go_at_call 27; refine (Can_any _ n c xs (k : Int) _ ((HX.out.below D1.out (Nat.le_refl _)).below D2.out (Nat.le_refl _))).mono ?_; rw [HEA.out, HCA.out]; rintro e w3 ⟨rfl, b3⟩; have D3 := hide b3; clear b3; have HT := hide (le_call (le_call D1.out D2.out) D3.out); have HRO := hide (O2.out.below D3.out (Nat.le_refl _)); obtain ⟨g2, rfl, hg2, hg2', hg3, hg4⟩ := HRO.out.addr hs1; have hg5 : c2 ≤ 9223372036854775807 := hg4; clear hg4 hg2; have a0 := HCL.out w3 HT.out; have r1 := own1 HRO.out hmod; rw [HRA.out] at r1)
              | (go_at_call 20; refine (sane_any _).mono ?_; rintro e w4 ⟨rfl, b4⟩; have D4 := hide b4; clear b4))
            go_ret
            exact ⟨ret_bool (by simp), (le_call (le_call (le_call D1.out D2.out) D3.out) D4.out)⟩
        · have dv0 : decide (0 ≤ v) = false := by simpa using hv0
          go_enter Try.func12, Try.ntmps12
          go_wp2_with (first
            | (go_at_call 19; refine (Long1_any _ n c w hm9).mono ?_; rintro e w1 ⟨rfl, b1⟩; have D1 := hide b1; clear b1; rw [HLn.out])
            | (go_at_call 42; refine (Residues_any _ n c xs _ (HX.out.below D1.out (Nat.le_refl _))).mono ?_; rw [HEW.out]; rintro e w2 ⟨A2, n2, c2, rfl, o2, b2⟩; have D2 := hide b2; have O2 := hide o2; have HN2 := hide o2.len; clear o2 b2; obtain rfl : n2 = s := (by have h1 := HN2.out; have h2 := HRL.out; omega))
            | (go_at_call 27; refine (Can_any _ n c xs (k : Int) _ ((HX.out.below D1.out (Nat.le_refl _)).below D2.out (Nat.le_refl _))).mono ?_; rw [HEA.out, HCA.out]; rintro e w3 ⟨rfl, b3⟩; have D3 := hide b3; clear b3; have HT := hide (le_call (le_call D1.out D2.out) D3.out); have HRO := hide (O2.out.below D3.out (Nat.le_refl _)); obtain ⟨g2, rfl, hg2, hg2', hg3, hg4⟩ := HRO.out.addr hs1; have hg5 : c2 ≤ 9223372036854775807 := hg4; clear hg4 hg2; have a0 := HCL.out w3 HT.out; have r1 := own1 HRO.out hmod; rw [HRA.out] at r1)
            | (go_at_call 20; refine (sane_any _).mono ?_; rintro e w4 ⟨rfl, b4⟩; have D4 := hide b4; clear b4))
          go_ret
          exact ⟨ret_bool (by simp), (le_call (le_call (le_call D1.out D2.out) D3.out) D4.out)⟩
      · have hne : (errA xs v0 != 0) = true := by simpa using ha
        clear ha h hw hV
        go_enter Try.func12, Try.ntmps12
        go_wp2_with (first
          | (go_at_call 19; refine (Long1_any A n c w hm9).mono ?_; rintro e w1 ⟨rfl, b1⟩; have D1 := hide b1; clear b1; rw [HLn.out])
          | (go_at_call 42; refine (Residues_any A n c xs _ (HX.out.below D1.out (Nat.le_refl _))).mono ?_; rw [HEW.out]; rintro e w2 ⟨A2, n2, c2, rfl, o2, b2⟩; have D2 := hide b2; have O2 := hide o2; have HN2 := hide o2.len; clear o2 b2)
          | (go_at_call 27; refine (Can_any A n c xs v0 _ ((HX.out.below D1.out (Nat.le_refl _)).below D2.out (Nat.le_refl _))).mono ?_; rintro e w3 ⟨rfl, b3⟩; have D3 := hide b3; clear b3)
          | (go_at_call 20; refine (sane_any _).mono ?_; rintro e w4 ⟨rfl, b4⟩; have D4 := hide b4; clear b4))
        go_ret
        exact ⟨ret_bool (by simp), (le_call (le_call (le_call D1.out D2.out) D3.out) D4.out)⟩
    · have hne : (errW xs != 0) = true := by simpa using hw
      clear hw h
      go_enter Try.func12, Try.ntmps12
      go_wp2_with (first
        | (go_at_call 19; refine (Long1_any A n c w hm9).mono ?_; rintro e w1 ⟨rfl, b1⟩; have D1 := hide b1; clear b1; rw [HLn.out])
        | (go_at_call 42; refine (Residues_any A n c xs _ (HX.out.below D1.out (Nat.le_refl _))).mono ?_; rintro e w2 ⟨A2, n2, c2, rfl, o2, b2⟩; have D2 := hide b2; have O2 := hide o2; have HN2 := hide o2.len; clear o2 b2)
        | (go_at_call 27; refine (Can_any A n c xs v0 _ ((HX.out.below D1.out (Nat.le_refl _)).below D2.out (Nat.le_refl _))).mono ?_; rintro e w3 ⟨rfl, b3⟩; have D3 := hide b3; clear b3)
        | (go_at_call 20; refine (sane_any _).mono ?_; rintro e w4 ⟨rfl, b4⟩; have D4 := hide b4; clear b4))
      go_ret
      exact ⟨ret_bool (by simp), (le_call (le_call (le_call D1.out D2.out) D3.out) D4.out)⟩
end Go.Proofs.Ytlhlcchimammlaa
