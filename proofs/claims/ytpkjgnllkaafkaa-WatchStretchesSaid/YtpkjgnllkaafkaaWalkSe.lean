/- The walk of WatchSets. -/
import Derived.Test.YtpkjgnllkaafkaaWalkPl
import Derived.Test.YtpkjgnllkaafkaaWalkRt
namespace Go.Proofs.Ytpkjgnllkaafkaa
open Go.RowKit

theorem sto_asc {I : List Int} {n : Nat} (hs : STo I ((n : Int) - 1) I.length) : Asc n I := by
  have hup : ∀ i j, i < j → j < I.length → gi I i < gi I j := by
    intro i j hij
    induction j with
    | zero => omega
    | succ j ih =>
      intro hj
      have h1 := (hs (j + 1) hj).2 (by omega)
      rw [show j + 1 - 1 = j from rfl] at h1
      by_cases e : i = j
      · subst e; exact h1
      · have := ih (by omega) (by omega); omega
  have e : ∀ i (h : i < I.length), gi I i = I[i] := fun i h => by simp [gi, List.getD_eq_getElem?_getD, h]
  refine ⟨List.pairwise_iff_getElem.2 fun i j hi hj hij => ?_, fun x hx => ?_⟩
  · rw [← e i hi, ← e j hj]; exact hup i j hij hj
  · obtain ⟨i, hi, rfl⟩ := List.getElem_of_mem hx
    have := (hs i hi).1
    rw [e i hi] at this
    omega
theorem shAt_ones {xs : Ls} {i : Int} (h0 : 0 ≤ i) (h : i < xs.length) : shAt (ones xs) i = al1 (shAt xs i) := by
  unfold shAt ones
  have hl : i.toNat < xs.length := by omega
  rw [List.getD_eq_getElem?_getD, List.getD_eq_getElem?_getD, List.getElem?_map, List.getElem?_eq_getElem hl]
  rfl
theorem pick_ones {xs : Ls} {I : List Int} (h : ∀ x ∈ I, 0 ≤ x ∧ x < xs.length) : pick (ones xs) I = (pick xs I).map al1 := by
  unfold pick
  rw [List.map_map]
  exact List.map_congr_left fun i hi => shAt_ones (h i hi).1 (h i hi).2
theorem alone_ones {xs : Ls} {I : List Int} (h : ∀ x ∈ I, 0 ≤ x ∧ x < xs.length) : Alone (pick (ones xs) I) ↔ Alone (pick xs I) := by
  rw [pick_ones h]
  unfold Alone
  rw [List.pairwise_map]
  exact Iff.rfl
theorem pay_ones {xs : Ls} : ∀ {I : List Int}, (∀ x ∈ I, 0 ≤ x ∧ x < xs.length) → payI (ones xs) I = I.length
  | [], _ => by simp [payI, paySum, pick]
  | i :: I, h => by
    have h1 := pay_ones (xs := xs) (I := I) fun x hx => h x (by simp [hx])
    have h2 := h i (by simp)
    have h3 := shAt_ones h2.1 h2.2
    simp only [payI, paySum, pick, List.map_cons, List.sum_cons, List.length_cons] at h1 ⊢
    rw [h3]
    simp only [al1]
    omega
theorem pay_best {xs : Ls} (ok : ∀ s ∈ xs, okS s = true) {L : Ns} (h : Ord kt xs L) {J I : List Int} (c : Chosen xs L J) (ha : Asc xs.length I) (hal : Alone (pick xs I)) : payI xs I ≤ payI xs J := by
  rw [← earns_best ok h c]
  exact (best_spec (payI xs) _ (setsTo xs xs.length) rfl).1 I (mem_setsTo.2 ⟨ha, hal⟩)
theorem errS_zero {xs : Ls} {I : List Int} (h : errS xs I = 0) : errV xs = 0 ∧ isB I ((xs.length : Int) - 1) = true ∧ alB xs I = true := by
  by_cases h1 : errV xs = 0
  · by_cases h2 : isB I ((xs.length : Int) - 1) = true
    · by_cases h3 : alB xs I = true
      · exact ⟨h1, h2, h3⟩
      · rw [errS_no h1 h2 h3] at h; cases h
    · rw [errS_set h1 h2] at h; cases h
  · rw [errS_v h1] at h; exact absurd h h1
theorem sets_best {xs : Ls} {I J K : List Int} {L L' : Ns} (h : errS xs I = 0) (hL : Ord kt (ones xs) L) (hJ : Chosen (ones xs) L J) (hL' : Ord kt xs L') (hK : Chosen xs L' K) : lenS xs I ≤ J.length ∧ payI xs I ≤ payI xs K := by
  obtain ⟨h1, h2, h3⟩ := errS_zero h
  have ha := sto_asc (isB_iff.1 h2)
  have hal := alB_alone.1 h3
  refine ⟨?_, pay_best (errV_ok.1 h1).2 hL' hK ha hal⟩
  rw [lenS_ok h, ← pay_ones ha.rng, ← pay_ones (xs := xs) (I := J) (fun x hx => by have := hJ.asc.rng x hx; rw [ones_len] at this; exact this)]
  refine pay_best (errV_ok.1 (errV_ones h1)).2 hL hJ ?_ ((alone_ones ha.rng).2 hal)
  rw [ones_len]; exact ha

set_option maxHeartbeats 2000000 in
theorem WatchSets_walk (A : Option Addr) (n c : Nat) (xs : Ls) (A' : Option Addr) (n' c' : Nat) (r : List Int) (w : World) (h : R E3 w A n c xs) (h' : R E1 w A' n' c' r) :
    Calls Try.prog 7 #[.slice A n c, .slice A' n' c'] w fun e w' => e = .returned (.bool true) ∧ Below w.heap.size w w' := by
  have HLX := hide h.length
  have HX := hide h
  have HR := hide h'
  clear h h'
  have HC := hide (Boxed.new w 30 (.slice A' n' c')).cell
  have B0 := hide ((Below.refl w.heap.size w).alloc (Nat.le_refl _) (.cells #[.slice A' n' c'] 30))
  by_cases hn : 100 < n' ∨ 50 < n
  · have hb : (decide (100 < n') || decide (50 < n)) = true := by simpa using hn
    have HB := hide hb
    clear hb
    go_enter Try.func7, Try.ntmps7
    go_wp2_with fail
    refine (Long1_any _ _ _ _ _ _ _ _ HC.out (by simp) _ HB.out).mono ?_
    rintro e w' ⟨rfl, rfl⟩
    go_wp2_with fail
    refine (sane_any _).mono ?_
    rintro e w1 ⟨rfl, b1⟩
    have B1 := hide (B0.out.trans (b1.mono B0.out.size))
    clear b1
    go_wp2_with fail
    go_ret
    exact ⟨rfl, B1.out⟩
  · have hb : (decide (100 < n') || decide (50 < n)) = false := by simpa using hn
    have HB := hide hb
    have hn2 : n ≤ 1000 := by omega
    have hn3 : n' ≤ 1000 := by omega
    clear hb hn
    go_enter Try.func7, Try.ntmps7
    go_wp2_with fail
    refine (Long1_any _ _ _ _ _ _ _ _ HC.out (by simp) _ HB.out).mono ?_
    rintro e w' ⟨rfl, rfl⟩
    go_wp2_with fail
    refine (CheckAlone_any _ _ _ xs _ _ _ r _ (HX.out.below B0.out (Nat.le_refl _)) hn2 (HR.out.below B0.out (Nat.le_refl _)) hn3).mono ?_
    rintro e w1 ⟨rfl, b1⟩
    have B1 := hide (B0.out.trans (b1.mono B0.out.size))
    clear b1
    go_wp2_with fail
    refine (rCheckAlone_any _ _ _ xs _ _ _ r _ (HX.out.below B1.out (Nat.le_refl _)) hn2 (HR.out.below B1.out (Nat.le_refl _)) hn3).mono ?_
    rintro e w2 ⟨rfl, b2⟩
    have B2 := hide (B1.out.trans (b2.mono B1.out.size))
    clear b2
    by_cases he : errS xs r = 0
    · obtain ⟨hv, hi, _⟩ := errS_zero he
      have HIN := hide (isB_in HLX.out (by rw [← HLX.out]; exact hi))
      have HOK := hide (errV_ok.1 hv).2
      have HSB := hide (fun (J K : List Int) (L L' : Ns) => @sets_best xs r J K L L' he)
      have HV := hide hv
      rw [he]
      clear he hv hi
      generalize lenS xs r = ls at *
      go_wp2_with fail
      refine (Alone_any _ _ _ xs _ (HX.out.below B2.out (Nat.le_refl _)) hn2).mono ?_
      rintro e w3 ⟨A3, n3, k3, J, rfl, hJ, _, o3, b3⟩
      obtain ⟨L, hL, hJ⟩ := hJ HV.out
      have HJ := hide (And.intro hL hJ)
      have HL3 := hide o3.len
      have B3 := hide (B2.out.trans (b3.mono B2.out.size))
      rw [HV.out]
      clear b3 o3 hL hJ
      go_wp2_with fail
      refine (Earn_any _ _ _ xs _ (HX.out.below B3.out (Nat.le_refl _)) hn2).mono ?_
      rintro e w4 ⟨A4, n4, k4, K, rfl, hK, _, _, b4⟩
      obtain ⟨L', hL', hK⟩ := hK HV.out
      have hfin := HSB.out J K L L' HJ.out.1 HJ.out.2 hL' hK
      rw [HL3.out] at hfin
      obtain ⟨hf1, hf2⟩ := hfin
      have B4 := hide (B3.out.trans (b4.mono B3.out.size))
      rw [HV.out]
      clear b4 hL' hK HSB HJ
      have HPY := hide (rPay_any A n c xs A' n' c' r w4 (HX.out.below B4.out (Nat.le_refl _)) HOK.out (HR.out.below B4.out (Nat.le_refl _)) hn3 HIN.out)
      generalize payI xs r = pr at *
      generalize payI xs K = pk at *
      go_wp2_with (first
        | (go_at_call 37; refine HPY.out.mono ?_; rintro e w5 ⟨rfl, rfl⟩)
        | (go_at_call 20; refine (sane_any _).mono ?_; rintro e w6 ⟨rfl, b6⟩; have HB6 := hide (B4.out.trans (b6.mono B4.out.size)); clear b6))
      go_ret
      exact ⟨rfl, HB6.out⟩
    · have hne : (errS xs r != 0) = true := by simpa using he
      clear he
      generalize errS xs r = re at *
      generalize lenS xs r = rv at *
      go_wp2_with fail
      refine (sane_any _).mono ?_
      rintro e w6 ⟨rfl, b6⟩
      have HB6 := hide (B2.out.trans (b6.mono B2.out.size))
      clear b6
      go_wp2_with fail
      go_ret
      exact ⟨rfl, HB6.out⟩
end Go.Proofs.Ytpkjgnllkaafkaa
