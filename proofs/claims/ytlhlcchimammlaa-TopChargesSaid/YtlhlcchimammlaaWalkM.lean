/- The document's residues. -/
import Derived.Test.YtlhlcchimammlaaWalkL
namespace Go.Proofs.Ytlhlcchimammlaa
open Go.RowKit Go.Shelf

def rs93 (xs : List Int) (r : Nat) : Int := resV xs 930 r
theorem rs93_hit {w : List Int} {r j s a : Nat} (hs : (w.getD 0 0).toNat = s) (hr : r < s) (ha : a = r + j * s) (hN : a ≤ 930) (hp : mu w a = true) (hq : ∀ i, i < j → mu w (r + i * s) = false) : rs93 w r = (a : Int) := by
  subst ha
  exact res_hit hs hr hN hp hq
theorem rs93_none {w : List Int} {r s : Nat} (hs : (w.getD 0 0).toNat = s) (hq : ∀ i, r + i * s ≤ 930 → mu w (r + i * s) = false) : rs93 w r = -1 := res_none hs hq
def rssN (xs : List Int) (k : Nat) : List Int := (List.range k).map (rs93 xs)
theorem rssN_succ (xs : List Int) (k : Nat) : rssN xs (k + 1) = rssN xs k ++ [rs93 xs k] := by
  unfold rssN; rw [List.range_succ, List.map_append]; rfl
theorem rssN_eq {xs : List Int} (hV : VW xs) (k : Nat) : rssN xs k = rssV xs 870 k := rssV_same hV (by omega) k
set_option maxRecDepth 100000 in
set_option maxHeartbeats 4000000 in
theorem rResidues_any (A : Option Addr) (n c : Nat) (xs : List Int) (w : World) (h : R E1 w A n c xs) :
    Calls Try.prog 43 #[.slice A n c] w (RowPost (errW xs) (rsdV xs) w) := by
  have H := hide h
  by_cases he : errW xs = 0
  · have HE := hide he
    have hV := errW_vw.1 he
    have HV := hide hV
    have HR := hide (rsdV_ok he)
    have hn1 : 1 ≤ n := by rw [← h.length]; exact hV.1
    have hle := h.le
    obtain ⟨h0m, h01, h02⟩ := hV.fst
    obtain ⟨b, off, hr⟩ := h
    obtain rfl := hr.at_ (by omega)
    have hbl := hr.lt (by omega)
    have HC0 := hide (fun (wr : World) (hb : Below w.heap.size w wr) => (show wr.cell? ⟨b, off, none⟩ = some (.int .i64 (xs.getD 0 0)) from c1 (k := 0) (hr.under hb fun _ => hbl) (by omega)))
    obtain ⟨s, hs⟩ : ∃ s : Nat, xs.getD 0 0 = (s : Int) := ⟨(xs.getD 0 0).toNat, by omega⟩
    have HSS := hide (show (xs.getD 0 0).toNat = s from by omega)
    rw [hs] at h01 h02
    rw [hs] at HC0
    have hnn : (0 : Int) < (n : Int) := by omega
    have hs1 : 1 ≤ s := by omega
    have hs30 : s ≤ 30 := by omega
    clear he hV hr hs h0m
    go_enter Try.func43, Try.ntmps43
    go_wp2_with (first
      | (go_at_call 26; refine (rValidate_any _ _ _ xs _ H.out).mono ?_; rintro e w1 ⟨rfl, q1, rfl⟩; rw [HE.out])
      | (go_at_call 65; refine (few_any _ _ _ xs 930 _ (H.out.drewN _) HV.out.wt (by omega)).mono ?_; rintro e w1 ⟨Af, nf, cf, rfl, o1, b1⟩; obtain rfl : nf = 931 := (by rw [← o1.len, few_len]); obtain ⟨g1, rfl, hg1, hg2, hg3, hg4⟩ := o1.addr (by omega); have hg5 : cf ≤ 9223372036854775807 := hg4; clear hg4 hg1; have O1 := hide o1; have B1 := hide ((below_drewN (Below.refl w.heap.size w) q1).trans b1); clear o1 b1))
    have HD1 := hide (fun k (hk : k ≤ 930) => (show (few xs 930).getD k 0 = fw xs k from by rw [getD_any (by rw [few_len]; omega) 0 (-1), few_at xs 930 k hk]))
    have HMU := hide (fun k => (show mu xs k = decide (fw xs k ≠ -1) from rfl))
    have HFG := hide (fun k => fw_ge HV.out.wt k)
    go_loopw [6, 7] (fun v i wr => ∃ (k : Nat) (B : Option Addr) (q : Nat), k ≤ s ∧ i = .int .i64 k ∧ v = .slice B k q ∧ Hid (Own E1 wr w1.heap.size 3 B k q (rssN xs k)) ∧ Hid (Below w1.heap.size w1 wr)) (fun _ i _ => s - (intOf i).toNat)
    case atStart => exact ⟨0, none, 0, Nat.zero_le _, rfl, rfl, hide (Own.nil E1 _ _ _), hide (Below.refl _ _)⟩
    case round =>
      obtain ⟨k, B, q, hk, rfl, rfl, HO, HB⟩ := hrel
      have a0 := HC0.out wr (B1.out.trans (HB.out.mono B1.out.size))
      have HS := hide (rssN_succ xs k)
      have hsz := HB.out.size
      by_cases hlt : k < s
      · have hcs : (k : Int) < (s : Int) := by omega
        go_wp2_with fail
        go_loop [8] (fun i => ∃ j a : Nat, Hid (a = k + j * s) ∧ a ≤ 960 ∧ i = .int .i64 a ∧ Hid (∀ i, i < j → mu xs (k + i * s) = false)) (fun i => 961 - (intOf i).toNat)
        case atStart => exact ⟨0, k, hide (by omega), by omega, rfl, hide (fun i hi => absurd hi (Nat.not_lt_zero i))⟩
        case round =>
          obtain ⟨j, a, HA, ha, rfl, HS2⟩ := hrel
          by_cases hla : a ≤ 930
          · have r1 := own1 (O1.out.below HB.out (Nat.le_refl _)) (k := a) (by omega)
            rw [HD1.out a hla] at r1
            have hv := HFG.out a
            have HMK := hide (HMU.out a)
            have hla2 : decide (a < 931) = true := by simpa using (by omega : a < 931)
            have hla3 : (a : Int) < 931 := by omega
            generalize fw xs a = v at *
            by_cases hvn : v < 0
            · have HP := hide (show mu xs a = false from by rw [HMK.out]; simp; omega)
              go_wp2_with fail
              go_round
              case rel => exact ⟨j + 1, a + s, hide (by have := HA.out; rw [Nat.add_mul]; omega), by omega, by go_num, hide (fun i hi => by
                by_cases e : i = j
                · subst e; rw [← HA.out]; exact HP.out
                · exact HS2.out i (by omega))⟩
              case measure => simp [intOf]; omega
            · have HP := hide (show mu xs a = true from by rw [HMK.out]; simp; omega)
              have HVV := hide (rs93_hit (w := xs) (r := k) (j := j) HSS.out hlt HA.out hla HP.out HS2.out)
              go_wp2_with (at_builtin; refine wpList_app1 (E := E1) wr (.int .i64 0) 8 rfl (.tmp 44) (.tmp 46) 22 3 rfl Try.underlying22 info_int rfl (by decide) (by omega) w1.heap.size k q B _ (a : Int) _ rfl rfl rfl HO.out (by omega) hsz ?_; intro A5 c5 w5 o5 b5 g5; have HO5 := hide o5; have B5 := hide (HB.out.trans b5); clear o5 b5 g5)
              go_roundw
              case rel => exact ⟨k + 1, A5, c5, by omega, by go_num, rfl, hide (by rw [HS.out, HVV.out]; exact HO5.out), B5⟩
              case measure => simp [intOf]; omega
          · have hla2 : decide (a < 931) = false := by simpa using (by omega : 931 ≤ a)
            have hla3 : ¬ (a : Int) < 931 := by omega
            have hla4 : (931 : Int) ≤ (a : Int) := by omega
            have HVV := hide (rs93_none (w := xs) (r := k) HSS.out (fun i hi => HS2.out i (by
              rcases Nat.lt_or_ge i j with h | h
              · exact h
              · have h1 := Nat.mul_le_mul_right s h
                have := HA.out
                omega)))
            go_wp2_with (at_builtin; refine wpList_app1 (E := E1) wr (.int .i64 0) 8 rfl (.tmp 44) (.tmp 46) 22 3 rfl Try.underlying22 info_int rfl (by decide) (by omega) w1.heap.size k q B _ (-1) _ rfl rfl rfl HO.out (by omega) hsz ?_; intro A5 c5 w5 o5 b5 g5; have HO5 := hide o5; have B5 := hide (HB.out.trans b5); clear o5 b5 g5)
            go_roundw
            case rel => exact ⟨k + 1, A5, c5, by omega, by go_num, rfl, hide (by rw [HS.out, HVV.out]; exact HO5.out), B5⟩
            case measure => simp [intOf]; omega
      · obtain rfl : k = s := by omega
        have HE2 := hide (show rssN xs k = rsdV xs from by rw [HR.out, HSS.out]; exact rssN_eq HV.out k)
        go_wp2_with fail
        go_ret2
        exact ⟨_, _, _, by rw [HE.out]; rfl, by rw [← HE2.out]; exact HO.out.more B1.out.size, B1.out.trans (HB.out.mono B1.out.size)⟩
  · have HR := hide (rsdV_no he)
    have hne : (errW xs != 0) = true := by simpa using he
    clear he h
    go_enter Try.func43, Try.ntmps43
    go_wp2_with (go_at_call 26; refine (rValidate_any _ _ _ xs _ H.out).mono ?_; rintro e w1 ⟨rfl, q1, rfl⟩)
    go_ret2
    exact ⟨none, 0, 0, rfl, by rw [HR.out]; exact Own.nil _ _ _ _, below_drewN (Below.refl _ _) _⟩
end Go.Proofs.Ytlhlcchimammlaa
