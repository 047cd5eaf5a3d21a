/- The amounts for which the answer is yes; gaps, on both sides. -/
import Derived.Test.YtlhlcchimammlaaWalkH
namespace Go.Proofs.Ytlhlcchimammlaa
open Go.RowKit Go.Shelf

/-- The numbers below k for which p says yes. -/
def thV (p : Nat → Bool) (k : Nat) : List Int := ((List.range k).filter p).map fun n : Nat => (n : Int)
theorem thV_succ (p : Nat → Bool) (k : Nat) : thV p (k + 1) = thV p k ++ (if p k = true then [(k : Int)] else []) := by
  unfold thV
  rw [List.range_succ, List.filter_append, List.map_append]
  cases h : p k <;> simp [h]
theorem thV_len (p : Nat → Bool) (k : Nat) : (thV p k).length ≤ k := by
  unfold thV
  rw [List.length_map]
  exact Nat.le_trans (List.length_filter_le _ _) (by simp)
theorem thV_congr {p q : Nat → Bool} {k : Nat} (h : ∀ i, i < k → p i = q i) : thV p k = thV q k := by
  unfold thV
  rw [List.filter_congr fun i hi => h i (List.mem_range.1 hi)]
set_option maxHeartbeats 1000000 in
theorem thoseIsGap_any (g : Value) (p : Nat → Bool) (N : Nat) (w : World) (hN : N ≤ 4000)
    (hc : ∀ (k : Nat) (wr : World), k ≤ N → Below w.heap.size w wr → Calls Try.prog 63 #[g, .int .i64 k] wr fun e w' => e = .returned (.bool (p k)) ∧ Below wr.heap.size wr w') :
    Calls Try.prog 72 #[.int .i64 N, .func (.func 63) #[g] #[]] w (IntsPost (thV p (N + 1)) w) := by
  have HC := hide hc
  clear hc
  go_enter Try.func72, Try.ntmps72
  go_wp2_with fail
  go_loopw [5, 9] (fun v i wr => ∃ (k : Nat) (B : Option Addr) (m q : Nat), k ≤ N + 1 ∧ i = .int .i64 k ∧ v = .slice B m q ∧ Hid (Own E1 wr w.heap.size 3 B m q (thV p k)) ∧ Hid (m ≤ k) ∧ Hid (Below w.heap.size w wr)) (fun _ i _ => N + 1 - (intOf i).toNat)
  case atStart => exact ⟨0, none, 0, 0, Nat.zero_le _, rfl, rfl, hide (Own.nil E1 _ _ _), hide (Nat.zero_le _), hide (Below.refl _ _)⟩
  case round =>
    obtain ⟨k, B, m, q, hk, rfl, rfl, HO, HM, HB⟩ := hrel
    by_cases hlt : k ≤ N
    · have HCK := hide (HC.out k wr hlt HB.out)
      have HS := hide (thV_succ p k)
      have hm := HM.out
      cases hp : p k with
      | true =>
        have HP := hide hp
        clear hp
        go_wp2_with (first
          | (go_at_call 63; refine HCK.out.mono ?_; rw [HP.out]; rintro e w1 ⟨rfl, b1⟩; have hs1 : w.heap.size ≤ w1.heap.size := Nat.le_trans HB.out.size b1.size; have HO1 := hide (HO.out.below b1 (Nat.le_refl _)); have B1 := hide (HB.out.trans (b1.mono HB.out.size)); clear b1)
          | (at_builtin; refine wpList_app1 (E := E1) w1 (.int .i64 0) 8 rfl (.tmp 15) (.tmp 17) 22 3 rfl Try.underlying22 info_int rfl (by decide) (by omega) w.heap.size m q B (thV p k) (k : Int) _ rfl rfl rfl HO1.out (by omega) hs1 ?_; intro A5 c5 w5 o5 b5 g5; have HO5 := hide o5; have B5 := hide (B1.out.trans b5); clear o5 b5 g5))
        go_roundw
        case rel => exact ⟨k + 1, A5, m + 1, c5, by omega, by go_num, rfl, hide (by rw [HS.out, HP.out]; exact HO5.out), hide (by omega), B5⟩
        case measure => simp [intOf]; omega
      | false =>
        have HP := hide hp
        clear hp
        go_wp2_with (go_at_call 63; refine HCK.out.mono ?_; rw [HP.out]; rintro e w1 ⟨rfl, b1⟩; have HO1 := hide (HO.out.below b1 (Nat.le_refl _)); have B1 := hide (HB.out.trans (b1.mono HB.out.size)); clear b1)
        go_roundw
        case rel => exact ⟨k + 1, B, m, q, by omega, by go_num, rfl, hide (by rw [HS.out, HP.out]; simpa using HO1.out), hide (by omega), B1⟩
        case measure => simp [intOf]; omega
    · obtain rfl : k = N + 1 := by omega
      go_wp2_with fail
      go_ret
      exact ⟨_, _, _, rfl, HO.out, HB.out⟩
set_option maxHeartbeats 1000000 in
theorem thoseIsNeedless_any (g : Value) (p : Nat → Bool) (N : Nat) (w : World) (hN : N ≤ 4000)
    (hc : ∀ (k : Nat) (wr : World), k ≤ N → Below w.heap.size w wr → Calls Try.prog 73 #[g, .int .i64 k] wr fun e w' => e = .returned (.bool (p k)) ∧ Below wr.heap.size wr w') :
    Calls Try.prog 72 #[.int .i64 N, .func (.func 73) #[g] #[]] w (IntsPost (thV p (N + 1)) w) := by
  have HC := hide hc
  clear hc
  go_enter Try.func72, Try.ntmps72
  go_wp2_with fail
  go_loopw [5, 9] (fun v i wr => ∃ (k : Nat) (B : Option Addr) (m q : Nat), k ≤ N + 1 ∧ i = .int .i64 k ∧ v = .slice B m q ∧ Hid (Own E1 wr w.heap.size 3 B m q (thV p k)) ∧ Hid (m ≤ k) ∧ Hid (Below w.heap.size w wr)) (fun _ i _ => N + 1 - (intOf i).toNat)
  case atStart => exact ⟨0, none, 0, 0, Nat.zero_le _, rfl, rfl, hide (Own.nil E1 _ _ _), hide (Nat.zero_le _), hide (Below.refl _ _)⟩
  case round =>
    obtain ⟨k, B, m, q, hk, rfl, rfl, HO, HM, HB⟩ := hrel
    by_cases hlt : k ≤ N
    · have HCK := hide (HC.out k wr hlt HB.out)
      have HS := hide (thV_succ p k)
      have hm := HM.out
      cases hp : p k with
      | true =>
        have HP := hide hp
        clear hp
        go_wp2_with (first
          | (go_at_call 73; refine HCK.out.mono ?_; rw [HP.out]; rintro e w1 ⟨rfl, b1⟩; have hs1 : w.heap.size ≤ w1.heap.size := Nat.le_trans HB.out.size b1.size; have HO1 := hide (HO.out.below b1 (Nat.le_refl _)); have B1 := hide (HB.out.trans (b1.mono HB.out.size)); clear b1)
          | (at_builtin; refine wpList_app1 (E := E1) w1 (.int .i64 0) 8 rfl (.tmp 15) (.tmp 17) 22 3 rfl Try.underlying22 info_int rfl (by decide) (by omega) w.heap.size m q B (thV p k) (k : Int) _ rfl rfl rfl HO1.out (by omega) hs1 ?_; intro A5 c5 w5 o5 b5 g5; have HO5 := hide o5; have B5 := hide (B1.out.trans b5); clear o5 b5 g5))
        go_roundw
        case rel => exact ⟨k + 1, A5, m + 1, c5, by omega, by go_num, rfl, hide (by rw [HS.out, HP.out]; exact HO5.out), hide (by omega), B5⟩
        case measure => simp [intOf]; omega
      | false =>
        have HP := hide hp
        clear hp
        go_wp2_with (go_at_call 73; refine HCK.out.mono ?_; rw [HP.out]; rintro e w1 ⟨rfl, b1⟩; have HO1 := hide (HO.out.below b1 (Nat.le_refl _)); have B1 := hide (HB.out.trans (b1.mono HB.out.size)); clear b1)
        go_roundw
        case rel => exact ⟨k + 1, B, m, q, by omega, by go_num, rfl, hide (by rw [HS.out, HP.out]; simpa using HO1.out), hide (by omega), B1⟩
        case measure => simp [intOf]; omega
    · obtain rfl : k = N + 1 := by omega
      go_wp2_with fail
      go_ret
      exact ⟨_, _, _, rfl, HO.out, HB.out⟩
set_option maxHeartbeats 1000000 in
theorem thoseIsNeeded_any (g : Value) (p : Nat → Bool) (N : Nat) (w : World) (hN : N ≤ 4000)
    (hc : ∀ (k : Nat) (wr : World), k ≤ N → Below w.heap.size w wr → Calls Try.prog 74 #[g, .int .i64 k] wr fun e w' => e = .returned (.bool (p k)) ∧ Below wr.heap.size wr w') :
    Calls Try.prog 72 #[.int .i64 N, .func (.func 74) #[g] #[]] w (IntsPost (thV p (N + 1)) w) := by
  have HC := hide hc
  clear hc
  go_enter Try.func72, Try.ntmps72
  go_wp2_with fail
  go_loopw [5, 9] (fun v i wr => ∃ (k : Nat) (B : Option Addr) (m q : Nat), k ≤ N + 1 ∧ i = .int .i64 k ∧ v = .slice B m q ∧ Hid (Own E1 wr w.heap.size 3 B m q (thV p k)) ∧ Hid (m ≤ k) ∧ Hid (Below w.heap.size w wr)) (fun _ i _ => N + 1 - (intOf i).toNat)
  case atStart => exact ⟨0, none, 0, 0, Nat.zero_le _, rfl, rfl, hide (Own.nil E1 _ _ _), hide (Nat.zero_le _), hide (Below.refl _ _)⟩
  case round =>
    obtain ⟨k, B, m, q, hk, rfl, rfl, HO, HM, HB⟩ := hrel
    by_cases hlt : k ≤ N
    · have HCK := hide (HC.out k wr hlt HB.out)
      have HS := hide (thV_succ p k)
      have hm := HM.out
      cases hp : p k with
      | true =>
        have HP := hide hp
        clear hp
        go_wp2_with (first
          | (go_at_call 74; refine HCK.out.mono ?_; rw [HP.out]; rintro e w1 ⟨rfl, b1⟩; have hs1 : w.heap.size ≤ w1.heap.size := Nat.le_trans HB.out.size b1.size; have HO1 := hide (HO.out.below b1 (Nat.le_refl _)); have B1 := hide (HB.out.trans (b1.mono HB.out.size)); clear b1)
          | (at_builtin; refine wpList_app1 (E := E1) w1 (.int .i64 0) 8 rfl (.tmp 15) (.tmp 17) 22 3 rfl Try.underlying22 info_int rfl (by decide) (by omega) w.heap.size m q B (thV p k) (k : Int) _ rfl rfl rfl HO1.out (by omega) hs1 ?_; intro A5 c5 w5 o5 b5 g5; have HO5 := hide o5; have B5 := hide (B1.out.trans b5); clear o5 b5 g5))
        go_roundw
        case rel => exact ⟨k + 1, A5, m + 1, c5, by omega, by go_num, rfl, hide (by rw [HS.out, HP.out]; exact HO5.out), hide (by omega), B5⟩
        case measure => simp [intOf]; omega
      | false =>
        have HP := hide hp
        clear hp
        go_wp2_with (go_at_call 74; refine HCK.out.mono ?_; rw [HP.out]; rintro e w1 ⟨rfl, b1⟩; have HO1 := hide (HO.out.below b1 (Nat.le_refl _)); have B1 := hide (HB.out.trans (b1.mono HB.out.size)); clear b1)
        go_roundw
        case rel => exact ⟨k + 1, B, m, q, by omega, by go_num, rfl, hide (by rw [HS.out, HP.out]; simpa using HO1.out), hide (by omega), B1⟩
        case measure => simp [intOf]; omega
    · obtain rfl : k = N + 1 := by omega
      go_wp2_with fail
      go_ret
      exact ⟨_, _, _, rfl, HO.out, HB.out⟩
theorem gapV_th (xs : List Int) : gapV xs = thV (fun n => !mu xs n) 901 := rfl
theorem gapV_len (xs : List Int) : (gapV xs).length ≤ 901 := thV_len _ _
set_option maxHeartbeats 1000000 in
theorem gaps_any (A : Option Addr) (n c : Nat) (xs : List Int) (w : World) (h : R E1 w A n c xs) (hw : Wt xs) :
    Calls Try.prog 69 #[.slice A n c] w (IntsPost (gapV xs) w) := by
  have H := hide h
  have HW := hide hw
  have HFA := hide (few_at xs 900)
  have HMU := hide (fun n => gap_few (xs := xs) (n := n))
  clear h hw
  go_enter Try.func69, Try.ntmps69
  go_wp2_with (first
    | (go_at_call 61; refine (amountsTo_any _ _ _ xs 900 _ H.out HW.out (by omega)).mono ?_; rintro e w1 ⟨Af, cf, rfl, o1, b1⟩; have O1 := hide o1; have B1 := hide b1; clear o1 b1)
    | (go_at_call 72; refine (thoseIsGap_any (amV A n c Af (900 + 1) cf) (fun n => !mu xs n) 900 _ (by omega) (fun k wr hk hb => (isGap_any A n c Af (900 + 1) cf (few xs 900) k wr (O1.out.row.below hb (Nat.le_refl _)) (by omega)).mono (fun e w' h => ⟨by rw [h.1, HFA.out k hk, ← HMU.out k, few_at xs k k (Nat.le_refl _)], h.2⟩))).mono ?_; rintro e w2 ⟨A2, n2, c2, rfl, o2, b2⟩; have O2 := hide o2; have B2 := hide b2; clear o2 b2))
  go_ret
  exact ⟨A2, n2, c2, rfl, O2.out.more B1.out.size, B1.out.trans (B2.out.mono B1.out.size)⟩
theorem topV_nil {xs : List Int} (h : gapV xs = []) : topV xs = -1 := by unfold topV; rw [h]; rfl
theorem topV_at {xs : List Int} {n : Nat} (h : (gapV xs).length = n) (hn : 1 ≤ n) : (gapV xs).getD (n - 1) 0 = topV xs := by
  unfold topV
  rw [List.getLast?_eq_getElem?, h, List.getD_eq_getElem?_getD, List.getElem?_eq_getElem (by omega)]
  rfl
set_option maxHeartbeats 1000000 in
theorem greatest_any (A : Option Addr) (n c : Nat) (xs : List Int) (w : World) (h : R E1 w A n c xs) (hw : Wt xs) :
    Calls Try.prog 70 #[.slice A n c] w fun e w' => e = .returned (.int .i64 (topV xs)) ∧ Below w.heap.size w w' := by
  have H := hide h
  have HW := hide hw
  have HGL := hide (gapV_len xs)
  have HTA := hide (fun (n : Nat) (h : (gapV xs).length = n) (hn : 1 ≤ n) => topV_at h hn)
  clear h hw
  by_cases h0 : gapV xs = []
  · have HN := hide h0
    have HT := hide (topV_nil h0)
    clear h0
    go_enter Try.func70, Try.ntmps70
    go_wp2_with (go_at_call 69; refine (gaps_any _ _ _ xs _ H.out HW.out).mono ?_; rintro e w1 ⟨A1, n1, c1, rfl, o1, b1⟩; obtain rfl : n1 = 0 := (by rw [← o1.len, HN.out]; rfl); have B1 := hide b1; clear o1 b1)
    go_ret
    exact ⟨ret_i64 HT.out.symm, B1.out⟩
  · have HN := hide (List.length_pos_iff.2 h0)
    clear h0
    go_enter Try.func70, Try.ntmps70
    go_wp2_with (go_at_call 69; refine (gaps_any _ _ _ xs _ H.out HW.out).mono ?_; rintro e w1 ⟨A1, n1, c1, rfl, o1, b1⟩; have hn1 : 1 ≤ n1 := (by rw [← o1.len]; exact HN.out); have hn2 : n1 ≤ 901 := (by rw [← o1.len]; exact HGL.out); obtain ⟨g1, rfl, hg1, hg2, hg3, hg4⟩ := o1.addr hn1; have hg5 : c1 ≤ 9223372036854775807 := hg4; clear hg4; have r1 := own1 o1 (k := n1 - 1) (by omega); rw [HTA.out n1 o1.len hn1] at r1; have hsub : ((n1 : Int) - 1) = ((n1 - 1 : Nat) : Int) := (by omega); have hne : ((n1 : Int) == 0) = false := (by simp; omega); have hz : ¬ n1 = 0 := (by omega); have B1 := hide b1; clear o1 b1)
    go_ret
    exact ⟨rfl, B1.out⟩
end Go.Proofs.Ytlhlcchimammlaa
