/- ChargeResidues: the walk. -/
import Derived.Test.YtlhlcchimammlaaSane
namespace Go.Proofs.Ytlhlcchimammlaa
open Go.RowKit Go.Shelf

theorem far_step (xs : List Int) (k : Nat) : ((List.range (k + 1)).map fun r => resV xs 870 r).foldl max 0 = max (((List.range k).map fun r => resV xs 870 r).foldl max 0) (resV xs 870 k) := by
  rw [List.range_succ, List.map_append, List.foldl_append]; rfl
def farTo (xs : List Int) (k : Nat) : Int := ((List.range k).map fun r => resV xs 870 r).foldl max 0
theorem farTo_succ (xs : List Int) (k : Nat) : farTo xs (k + 1) = max (farTo xs k) (resV xs 870 k) := far_step xs k
theorem farTo_bd (xs : List Int) : ∀ k, 0 ≤ farTo xs k ∧ farTo xs k ≤ 870
  | 0 => by simp [farTo]
  | k + 1 => by
    have h1 := farTo_bd xs k
    have h2 := resV_bd xs 870 k
    rw [farTo_succ]
    omega
set_option maxRecDepth 100000 in
set_option maxHeartbeats 4000000 in
theorem ChargeResidues_walk (A : Option Addr) (n c : Nat) (xs : List Int)  (w : World) (h : R E1 w A n c xs) :
    Calls Try.prog 11 #[.slice A n c] w fun e w' => e = .returned (.bool true) ∧ Below w.heap.size w w' := by
  have HX := hide h
  have HL := hide h.length
  have hm9 := h.le
  by_cases hn : 50 < n
  · have HLn := hide (show decide (50 < n) = true from by simpa using hn)
    clear h
    go_enter Try.func11, Try.ntmps11
    go_wp2_with (first
      | (go_at_call 19; refine (Long1_any A n c w hm9).mono ?_; rintro e w1 ⟨rfl, b1⟩; have D1 := hide b1; clear b1; rw [HLn.out])
      | (go_at_call 20; refine (sane_any _).mono ?_; rintro e w2 ⟨rfl, b2⟩; have D2 := hide b2; clear b2))
    go_ret
    exact ⟨rfl, (le_call D1.out D2.out)⟩
  · have HLn := hide (show decide (50 < n) = false from by simpa using hn)
    have HGL := hide (rsdV_len xs)
    by_cases hw : errW xs = 0
    · have HEW := hide hw
      have hV := errW_vw.1 hw
      by_cases he : errG xs = 0
      · have HEG := hide he
        have hg1 := (errG_ok.1 he).2
        have hT := topG_ok he
        obtain ⟨h0m, h01, h02⟩ := hV.fst
        have hn1 : 1 ≤ n := by rw [← h.length]; exact hV.1
        obtain ⟨s, hs⟩ : ∃ s : Nat, xs.getD 0 0 = (s : Int) := ⟨(xs.getD 0 0).toNat, by omega⟩
        have hRV := rsdV_ok hw
        have hTF := top_far hV hg1
        have hsn : (xs.getD 0 0).toNat = s := by omega
        have HTG := hide (show topG xs = farTo xs s - (s : Int) from by rw [hT, hTF, hs]; unfold farV; rw [hsn]; rfl)
        have HRA := hide (fun k (hk : k < s) => (show (rsdV xs).getD k 0 = resV xs 870 k from by rw [hRV, hsn, rssV_at xs 870 hk]))
        have HRL := hide (show (rsdV xs).length = s from by rw [hRV, hsn, rssV_len])
        have HFB := hide (farTo_bd xs)
        have HFS := hide (farTo_succ xs)
        have HRB := hide (resV_bd xs 870)
        obtain ⟨bb, off, hr⟩ := h
        obtain rfl := hr.at_ (by omega)
        have HRR := hide hr
        have HS0 := hide hs
        have hs30 : s ≤ 30 := by omega
        have hs1 : 1 ≤ s := by omega
        clear he hT hRV hTF hV hg1 hr h0m h01 h02 hs hw hsn
        go_enter Try.func11, Try.ntmps11
        go_wp2_with (first
          | (go_at_call 19; refine (Long1_any _ n c w hm9).mono ?_; rintro e w1 ⟨rfl, b1⟩; have D1 := hide b1; clear b1; rw [HLn.out])
          | (go_at_call 42; refine (Residues_any _ n c xs _ (HX.out.below D1.out (Nat.le_refl _))).mono ?_; rw [HEW.out]; rintro e w2 ⟨A2, n2, c2, rfl, o2, b2⟩; have D2 := hide b2; have O2 := hide o2; have HN2 := hide o2.len; clear o2 b2)
          | (go_at_call 43; refine (rResidues_any _ n c xs _ ((HX.out.below D1.out (Nat.le_refl _)).below D2.out (Nat.le_refl _))).mono ?_; rw [HEW.out]; rintro e w3 ⟨A3, n3, c3, rfl, o3, b3⟩; have D3 := hide b3; have O3 := hide o3; have HN3 := hide o3.len; clear o3 b3)
          | (go_at_call 36; refine (SameInts_any A2 n2 c2 A3 n3 c3 (rsdV xs) (rsdV xs) _ (O2.out.row.below D3.out (Nat.le_refl _)) O3.out.row (by have h1 := HN2.out; have h2 := HGL.out; omega) (by have h1 := HN3.out; have h2 := HGL.out; omega)).mono ?_; rintro e w4 ⟨rfl, q4, hw4⟩; have D4 := hide (show Below w3.heap.size w3 w4 from by rw [hw4]; exact below_drewN (Below.refl _ _) q4); clear hw4; rw [beq_self_eq_true])
          | (go_at_call 39; refine (Greatest_any _ n c xs _ ((((HX.out.below D1.out (Nat.le_refl _)).below D2.out (Nat.le_refl _)).below D3.out (Nat.le_refl _)).below D4.out (Nat.le_refl _))).mono ?_; rw [HEG.out, HTG.out]; rintro e w5 ⟨rfl, b5⟩; have D5 := hide b5; clear b5))
        have HT := hide ((le_call (le_call (le_call (le_call D1.out D2.out) D3.out) D4.out) D5.out))
        obtain rfl : n2 = s := by have h1 := HN2.out; have h2 := HRL.out; omega
        have HRO := hide ((((O2.out.below D3.out (Nat.le_refl _)).below D4.out (Nat.le_refl _)).below D5.out (Nat.le_refl _)))
        obtain ⟨g2, rfl, hg2, hg2', hg3, hg4⟩ := HRO.out.addr hs1
        have hg5 : c2 ≤ 9223372036854775807 := hg4
        clear hg4 hg2
        go_loopw [9, 10] (fun f i wr => ∃ k : Nat, k ≤ n2 ∧ i = .int .i64 k ∧ f = .int .i64 (farTo xs k) ∧ wr = w5) (fun _ i _ => n2 - (intOf i).toNat)
        case atStart => exact ⟨0, Nat.zero_le _, rfl, rfl, rfl⟩
        case round =>
          obtain ⟨k, hk, rfl, rfl, rfl⟩ := hrel
          have fb := HFB.out k
          by_cases hlt : k < n2
          · have r1 := own1 HRO.out hlt
            rw [HRA.out k hlt] at r1
            have HFK := hide (HFS.out k)
            have hrb := HRB.out k
            generalize resV xs 870 k = v at *
            generalize farTo xs k = f at *
            go_wp2_with fail
            go_roundw
            case rel => exact ⟨k + 1, by omega, by go_num, by (rw [HFK.out]; congr 1; split <;> omega), by first | rfl | trivial⟩
            case measure => simp [intOf]; omega
          · obtain rfl : k = n2 := by omega
            have a0 : wr.cell? ⟨bb, off, none⟩ = some (.int .i64 (xs.getD 0 0)) := c1 (k := 0) (HRR.out.below HT.out (Nat.le_refl _)) (by omega)
            rw [HS0.out] at a0
            generalize farTo xs k = f at *
            have hnn : (0 : Int) < (n : Int) := by omega
            go_wp2_with (go_at_call 20; refine (sane_any _).mono ?_; rintro e w7 ⟨rfl, b7⟩; have D7 := hide b7; clear b7)
            go_ret
            exact ⟨ret_bool (by simp), le_call HT.out D7.out⟩
      · have hne : (errG xs != 0) = true := by simpa using he
        clear he h hw hV
        go_enter Try.func11, Try.ntmps11
        go_wp2_with (first
          | (go_at_call 19; refine (Long1_any A n c w hm9).mono ?_; rintro e w1 ⟨rfl, b1⟩; have D1 := hide b1; clear b1; rw [HLn.out])
          | (go_at_call 42; refine (Residues_any A n c xs _ (HX.out.below D1.out (Nat.le_refl _))).mono ?_; rw [HEW.out]; rintro e w2 ⟨A2, n2, c2, rfl, o2, b2⟩; have D2 := hide b2; have O2 := hide o2; have HN2 := hide o2.len; clear o2 b2)
          | (go_at_call 43; refine (rResidues_any A n c xs _ ((HX.out.below D1.out (Nat.le_refl _)).below D2.out (Nat.le_refl _))).mono ?_; rw [HEW.out]; rintro e w3 ⟨A3, n3, c3, rfl, o3, b3⟩; have D3 := hide b3; have O3 := hide o3; have HN3 := hide o3.len; clear o3 b3)
          | (go_at_call 36; refine (SameInts_any A2 n2 c2 A3 n3 c3 (rsdV xs) (rsdV xs) _ (O2.out.row.below D3.out (Nat.le_refl _)) O3.out.row (by have h1 := HN2.out; have h2 := HGL.out; omega) (by have h1 := HN3.out; have h2 := HGL.out; omega)).mono ?_; rintro e w4 ⟨rfl, q4, hw4⟩; have D4 := hide (show Below w3.heap.size w3 w4 from by rw [hw4]; exact below_drewN (Below.refl _ _) q4); clear hw4; rw [beq_self_eq_true])
          | (go_at_call 39; refine (Greatest_any A n c xs _ ((((HX.out.below D1.out (Nat.le_refl _)).below D2.out (Nat.le_refl _)).below D3.out (Nat.le_refl _)).below D4.out (Nat.le_refl _))).mono ?_; rintro e w5 ⟨rfl, b5⟩; have D5 := hide b5; clear b5)
          | (go_at_call 20; refine (sane_any _).mono ?_; rintro e w6 ⟨rfl, b6⟩; have D6 := hide b6; clear b6))
        go_ret
        exact ⟨ret_bool (by simp), (le_call (le_call (le_call (le_call (le_call D1.out D2.out) D3.out) D4.out) D5.out) D6.out)⟩
    · have hne : (errW xs != 0) = true := by simpa using hw
      clear hw h
      go_enter Try.func11, Try.ntmps11
      go_wp2_with (first
        | (go_at_call 19; refine (Long1_any A n c w hm9).mono ?_; rintro e w1 ⟨rfl, b1⟩; have D1 := hide b1; clear b1; rw [HLn.out])
        | (go_at_call 42; refine (Residues_any A n c xs _ (HX.out.below D1.out (Nat.le_refl _))).mono ?_; rintro e w2 ⟨A2, n2, c2, rfl, o2, b2⟩; have D2 := hide b2; have O2 := hide o2; have HN2 := hide o2.len; clear o2 b2)
        | (go_at_call 43; refine (rResidues_any A n c xs _ ((HX.out.below D1.out (Nat.le_refl _)).below D2.out (Nat.le_refl _))).mono ?_; rintro e w3 ⟨A3, n3, c3, rfl, o3, b3⟩; have D3 := hide b3; have O3 := hide o3; have HN3 := hide o3.len; clear o3 b3)
        | (go_at_call 36; refine (SameInts_any A2 n2 c2 A3 n3 c3 (rsdV xs) (rsdV xs) _ (O2.out.row.below D3.out (Nat.le_refl _)) O3.out.row (by have h1 := HN2.out; have h2 := HGL.out; omega) (by have h1 := HN3.out; have h2 := HGL.out; omega)).mono ?_; rintro e w4 ⟨rfl, q4, hw4⟩; have D4 := hide (show Below w3.heap.size w3 w4 from by rw [hw4]; exact below_drewN (Below.refl _ _) q4); clear hw4; rw [beq_self_eq_true])
        | (go_at_call 39; refine (Greatest_any A n c xs _ ((((HX.out.below D1.out (Nat.le_refl _)).below D2.out (Nat.le_refl _)).below D3.out (Nat.le_refl _)).below D4.out (Nat.le_refl _))).mono ?_; rintro e w5 ⟨rfl, b5⟩; have D5 := hide b5; clear b5)
        | (go_at_call 20; refine (sane_any _).mono ?_; rintro e w6 ⟨rfl, b6⟩; have D6 := hide b6; clear b6))
      go_ret
      exact ⟨ret_bool (by simp), (le_call (le_call (le_call (le_call (le_call D1.out D2.out) D3.out) D4.out) D5.out) D6.out)⟩
end Go.Proofs.Ytlhlcchimammlaa
