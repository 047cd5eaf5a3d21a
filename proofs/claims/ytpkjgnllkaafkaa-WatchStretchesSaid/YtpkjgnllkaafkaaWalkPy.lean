/- The walk of WatchPays. -/
import Derived.Test.YtpkjgnllkaafkaaWalkPs
namespace Go.Proofs.Ytpkjgnllkaafkaa
open Go.RowKit

/-- What is chosen exists. -/
theorem chosen_exists {xs : Ls} (he : errV xs = 0) {L : Ns} (hL : Ord kt xs L) : ∃ J, Chosen xs L J := by
  refine ⟨(chn L).mergeSort (fun a b => decide (a ≤ b)), chosen_ok (errV_ok.1 he).2 hL (List.mergeSort_perm _ _) ?_⟩
  have := List.pairwise_mergeSort (le := fun a b : Int => decide (a ≤ b)) (fun a b c h1 h2 => by simp at *; omega) (fun a b => by simp; omega) (chn L)
  exact this.imp fun h => by simpa using h
theorem pays_right {xs : Ls} (he : errV xs = 0) {l : List Pst} (h : PstsOf xs l) : errP xs l = 0 ∧ posV xs l = best (payI xs) (setsTo xs xs.length) := by
  obtain ⟨L, hL, rfl⟩ := h
  have ok := (errV_ok.1 he).2
  have hr := hL.rsts ok
  have h1 := psts_len he ⟨L, hL, rfl⟩
  have h0 : errP xs ((rsts L).map pstOf) = 0 := by
    refine errP_ok he (by have := errV_le he; omega) (List.all_eq_true.2 h1.2) (List.all_eq_true.2 fun s hs => decide_eq_true ?_)
    obtain ⟨i, hi, rfl⟩ := List.getElem_of_mem hs
    have hm : gt (num xs) i ∈ num xs := by
      unfold gt
      rw [List.getD_eq_getElem?_getD, List.getElem?_eq_getElem (by rw [num_len]; omega)]
      exact List.getElem_mem _
    have h2 := hr.pays _ (hL.perm.mem_iff.2 hm)
    rw [gt_num hi] at h2
    have e : xs.getD i sh0 = xs[i] := by simp [List.getD_eq_getElem?_getD, hi]
    rw [e] at h2
    exact h2
  obtain ⟨J, hJ⟩ := chosen_exists he hL
  refine ⟨h0, ?_⟩
  rw [posV_ok h0, earns_best ok hL hJ, hJ.pay]
set_option maxHeartbeats 2000000 in
theorem WatchPays_walk (A : Option Addr) (n c : Nat) (xs : Ls) (w : World) (h : R E3 w A n c xs) :
    Calls Try.prog 13 #[.slice A n c] w fun e w' => e = .returned (.bool true) ∧ Below w.heap.size w w' := by
  have HLX := hide h.length
  have HX := hide h
  clear h
  by_cases hn : 50 < n
  · have hb : decide (50 < n) = true := by simpa using hn
    have HB := hide hb
    clear hb
    go_enter Try.func13, Try.ntmps13
    go_wp2_with fail
    refine (Long0_any _ _ _ _ _ HB.out).mono ?_
    rintro e w' ⟨rfl, rfl⟩
    go_wp2_with fail
    refine (sane_any _).mono ?_
    rintro e w1 ⟨rfl, b1⟩
    go_wp2_with fail
    go_ret
    exact ⟨rfl, b1⟩
  · have hb : decide (50 < n) = false := by simpa using hn
    have HB := hide hb
    have hn2 : n ≤ 1000 := by omega
    clear hb hn
    by_cases he : errV xs = 0
    · have HE := hide he
      clear he
      go_enter Try.func13, Try.ntmps13
      go_wp2_with (first
        | (go_at_call 19; refine (Long0_any _ _ _ _ _ HB.out).mono ?_; rintro e w' ⟨rfl, rfl⟩)
        | (go_at_call 44; refine (Posts_any _ _ _ xs _ HX.out hn2).mono ?_; rintro e w1 ⟨A1, n1, k1, l, rfl, hI, _, o1, b1⟩; have HSR := hide (pays_right HE.out (hI HE.out)); have hn1 : n1 ≤ 1000 := by { have h1 := (psts_len HE.out (hI HE.out)).1; have h2 := o1.len; have h3 := HLX.out; omega }; have HI := hide o1; have B1 := hide b1; rw [HE.out]; clear hI o1 b1)
        | (go_at_call 24; refine (rValidate_any _ _ _ xs _ (HX.out.below B1.out (Nat.le_refl _)) hn2).mono ?_; rintro e w2 ⟨rfl, b2⟩; rw [HE.out]; have HI2 := hide (HI.out.below b2 (Nat.le_refl _)); have B2 := hide (B1.out.trans (b2.mono B1.out.size)); clear b2)
        | (go_at_call 43; refine (rCheckPosts_any _ _ _ xs _ _ _ l _ (HX.out.below B2.out (Nat.le_refl _)) hn2 HI2.out.row hn1).mono ?_; rintro e w3 ⟨rfl, b3⟩; rw [HSR.out.1, HSR.out.2]; have B3 := hide (B2.out.trans (b3.mono B2.out.size)); clear b3)
        | (go_at_call 38; refine (rMost_any _ _ _ xs _ (HX.out.below B3.out (Nat.le_refl _)) HE.out).mono ?_; rintro e w4 ⟨rfl, b4⟩; have B4 := hide (B3.out.trans (b4.mono B3.out.size)); clear b4)
        | (go_at_call 20; refine (sane_any _).mono ?_; rintro e w6 ⟨rfl, b6⟩; have B6 := hide (B4.out.trans (b6.mono B4.out.size)); clear b6))
      go_ret
      exact ⟨rfl, B6.out⟩
    · have HE := hide he
      have hne : (errV xs != 0) = true := by simpa using he
      clear he
      go_enter Try.func13, Try.ntmps13
      go_wp2_with (first
        | (go_at_call 19; refine (Long0_any _ _ _ _ _ HB.out).mono ?_; rintro e w' ⟨rfl, rfl⟩)
        | (go_at_call 44; refine (Posts_any _ _ _ xs _ HX.out hn2).mono ?_; rintro e w1 ⟨A1, n1, k1, l, rfl, _, hI, o1, b1⟩; obtain rfl := hI HE.out; have hl := o1.len; simp only [List.length_nil] at hl; subst hl; have B1 := hide b1; clear hI o1 b1)
        | (go_at_call 24; refine (rValidate_any _ _ _ xs _ (HX.out.below B1.out (Nat.le_refl _)) hn2).mono ?_; rintro e w2 ⟨rfl, b2⟩; generalize errV xs = ev at *; have B2 := hide (B1.out.trans (b2.mono B1.out.size)); clear b2)
        | (go_at_call 20; refine (sane_any _).mono ?_; rintro e w6 ⟨rfl, b6⟩; have B6 := hide (B2.out.trans (b6.mono B2.out.size)); clear b6))
      go_ret
      exact ⟨rfl, B6.out⟩
end Go.Proofs.Ytpkjgnllkaafkaa
