/- ChargeGreedy: the walk. -/
import Derived.Test.YtlhlcchimammlaaWkFires
namespace Go.Proofs.Ytlhlcchimammlaa
open Go.RowKit Go.Shelf

set_option maxRecDepth 100000 in
set_option maxHeartbeats 4000000 in
theorem ChargeGreedy_walk (A : Option Addr) (n c : Nat) (xs : List Int) (v0 : Int) (w : World) (h : R E1 w A n c xs) (hw0 : (Lit.int .i64 v0).wf = true) :
    Calls Try.prog 7 #[.slice A n c, .int .i64 v0] w fun e w' => e = .returned (.bool true) ∧ Below w.heap.size w w' := by
  have HX := hide h
  have HL := hide h.length
  have hm9 := h.le
  by_cases hn : 50 < n
  · have HLn := hide (show decide (50 < n) = true from by simpa using hn)
    clear h
    go_enter Try.func7, Try.ntmps7
    go_wp2_with (first
      | (go_at_call 19; refine (Long1_any A n c w hm9).mono ?_; rintro e w1 ⟨rfl, b1⟩; have D1 := hide b1; clear b1; rw [HLn.out])
      | (go_at_call 20; refine (sane_any _).mono ?_; rintro e w2 ⟨rfl, b2⟩; have D2 := hide b2; clear b2))
    go_ret
    exact ⟨rfl, (le_call D1.out D2.out)⟩
  · have HLn := hide (show decide (50 < n) = false from by simpa using hn)
    clear h
    cases hg : grB xs v0 with
    | true =>
      have he : errA xs v0 = 0 := by
        by_cases h : errA xs v0 = 0
        · exact h
        · rw [grB_no h] at hg; cases hg
      have hgo := grB_ok he
      rw [hg] at hgo
      have hg0 : glS xs v0 xs.length = 0 := by simpa using hgo.symm
      obtain ⟨m, rfl, hm2, hw⟩ := errA_am he
      have HGB := hide hg
      have HGL := hide (grL_len xs (m : Int))
      have hGL := grL_ok hg
      have HGN := hide (show (grL xs (m : Int)).length = xs.length from by rw [hGL, gdL_len])
      have HGC := hide (show ∀ i, i < xs.length → 0 ≤ (grL xs (m : Int)).getD i 0 ∧ (grL xs (m : Int)).getD i 0 ≤ 2000 from by rw [hGL]; exact gdL_cnt hw (by omega))
      obtain ⟨cc, hmk, hcc⟩ := gd_mk hw hm2 hg0
      have HSM := hide (show smTo (grL xs (m : Int)) xs.length = (cc : Int) from by rw [hGL]; exact hcc.symm)
      have hmu : mu xs m = true := (mu_iff hw).2 ⟨cc, hmk⟩
      obtain ⟨f, hf1, hf2, hf3⟩ := fw_pos hw hmu
      have HER := hide he
      have hcn : canV xs (m : Int) = true := by rw [canV_ok he, Int.toNat_natCast]; exact hmu
      have HCN := hide hcn
      have HFV := hide (show fewV xs (m : Int) = (f : Int) from by rw [fewV_ok hcn, Int.toNat_natCast]; exact hf1)
      have hfc : f ≤ cc := hf3 cc hmk
      have hfc2 : (f : Int) ≤ (cc : Int) := by omega
      clear hg he hgo hg0 hGL hmk hcc hmu hf1 hf2 hf3 hcn hw
      go_enter Try.func7, Try.ntmps7
      go_wp2_with (first
        | (go_at_call 19; refine (Long1_any A n c w hm9).mono ?_; rintro e w1 ⟨rfl, b1⟩; have D1 := hide b1; clear b1; rw [HLn.out])
        | (go_at_call 34; refine (Greedy_any A n c xs (m : Int) _ (HX.out.below D1.out (Nat.le_refl _))).mono ?_; rintro e w2 ⟨A2, n2, c2, rfl, o2, b2⟩; rw [HGB.out, HER.out];  have D2 := hide b2; have O2 := hide o2; have HN2 := hide o2.len; clear o2 b2)
        | (go_at_call 35; refine (rGreedy_any A n c xs (m : Int) _ ((HX.out.below D1.out (Nat.le_refl _)).below D2.out (Nat.le_refl _))).mono ?_; rintro e w3 ⟨A3, n3, c3, rfl, o3, b3⟩; rw [HGB.out, HER.out];  have D3 := hide b3; have O3 := hide o3; have HN3 := hide o3.len; clear o3 b3)
        | (go_at_call 36; refine (SameInts_any A2 n2 c2 A3 n3 c3 (grL xs (m : Int)) (grL xs (m : Int)) _ (O2.out.row.below D3.out (Nat.le_refl _)) O3.out.row (by have h1 := HN2.out; have h2 := HGL.out; have h3 := HL.out; omega) (by have h1 := HN3.out; have h2 := HGL.out; have h3 := HL.out; omega)).mono ?_; rintro e w4 ⟨rfl, q4, hw4⟩; have D4 := hide (show Below w3.heap.size w3 w4 from by rw [hw4]; exact below_drewN (Below.refl _ _) q4); clear hw4; rw [beq_self_eq_true])
        | (go_at_call 28; refine (Fewest_any A n c xs (m : Int) _ ((((HX.out.below D1.out (Nat.le_refl _)).below D2.out (Nat.le_refl _)).below D3.out (Nat.le_refl _)).below D4.out (Nat.le_refl _))).mono ?_; rw [HFV.out, HCN.out, HER.out]; rintro e w5 ⟨rfl, b5⟩; have D5 := hide b5; clear b5)
        | (go_at_call 31; refine (sum_any A2 n2 c2 (grL xs (m : Int)) _ (((O2.out.row.below D3.out (Nat.le_refl _)).below D4.out (Nat.le_refl _)).below D5.out (Nat.le_refl _)) (by have h1 := HN2.out; have h2 := HGL.out; have h3 := HL.out; omega) (fun i hi => HGC.out i (by have h1 := HN2.out; have h2 := HGN.out; omega))).mono ?_; rw [show smTo (grL xs (m : Int)) n2 = (cc : Int) from by rw [← HSM.out, ← HN2.out, HGN.out]]; rintro e w' ⟨rfl, rfl⟩)
        | (go_at_call 20; refine (sane_any _).mono ?_; rintro e w6 ⟨rfl, b6⟩; have D6 := hide b6; clear b6))
      go_ret
      exact ⟨ret_bool (by simp), (le_call (le_call (le_call (le_call (le_call D1.out D2.out) D3.out) D4.out) D5.out) D6.out)⟩
    | false =>
      have HGB := hide hg
      have HGL := hide (grL_len xs v0)
      clear hg
      go_enter Try.func7, Try.ntmps7
      go_wp2_with (first
        | (go_at_call 19; refine (Long1_any A n c w hm9).mono ?_; rintro e w1 ⟨rfl, b1⟩; have D1 := hide b1; clear b1; rw [HLn.out])
        | (go_at_call 34; refine (Greedy_any A n c xs v0 _ (HX.out.below D1.out (Nat.le_refl _))).mono ?_; rintro e w2 ⟨A2, n2, c2, rfl, o2, b2⟩; rw [HGB.out];  have D2 := hide b2; have O2 := hide o2; have HN2 := hide o2.len; clear o2 b2)
        | (go_at_call 35; refine (rGreedy_any A n c xs v0 _ ((HX.out.below D1.out (Nat.le_refl _)).below D2.out (Nat.le_refl _))).mono ?_; rintro e w3 ⟨A3, n3, c3, rfl, o3, b3⟩; rw [HGB.out];  have D3 := hide b3; have O3 := hide o3; have HN3 := hide o3.len; clear o3 b3)
        | (go_at_call 36; refine (SameInts_any A2 n2 c2 A3 n3 c3 (grL xs v0) (grL xs v0) _ (O2.out.row.below D3.out (Nat.le_refl _)) O3.out.row (by have h1 := HN2.out; have h2 := HGL.out; have h3 := HL.out; omega) (by have h1 := HN3.out; have h2 := HGL.out; have h3 := HL.out; omega)).mono ?_; rintro e w4 ⟨rfl, q4, hw4⟩; have D4 := hide (show Below w3.heap.size w3 w4 from by rw [hw4]; exact below_drewN (Below.refl _ _) q4); clear hw4; rw [beq_self_eq_true])
        | (go_at_call 28; refine (Fewest_any A n c xs v0 _ ((((HX.out.below D1.out (Nat.le_refl _)).below D2.out (Nat.le_refl _)).below D3.out (Nat.le_refl _)).below D4.out (Nat.le_refl _))).mono ?_; rintro e w5 ⟨rfl, b5⟩; have D5 := hide b5; clear b5)
        | (go_at_call 20; refine (sane_any _).mono ?_; rintro e w6 ⟨rfl, b6⟩; have D6 := hide b6; clear b6))
      go_ret
      exact ⟨ret_bool (by simp), (le_call (le_call (le_call (le_call (le_call D1.out D2.out) D3.out) D4.out) D5.out) D6.out)⟩
end Go.Proofs.Ytlhlcchimammlaa
