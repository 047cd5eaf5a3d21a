/- The walk of WatchMoments. -/
import Derived.Test.YtpkjgnllkaafkaaWalkPy
namespace Go.Proofs.Ytpkjgnllkaafkaa
open Go.RowKit

theorem overSum_none {R : List Rs} {s : Nm} (hp : ∀ b ∈ R, 0 < b.2) (h : overSum R s = 0) : ∀ b ∈ R, ovB (shOf b.1) (shOf s) = false := by
  induction R with
  | nil => intro b hb; cases hb
  | cons c R ih =>
    have h0 : 0 ≤ overSum R s := by
      have : ∀ (R : List Rs), (∀ b ∈ R, 0 < b.2) → 0 ≤ overSum R s := by
        intro R
        induction R with
        | nil => intro _; simp [overSum]
        | cons d R ih =>
          intro hd
          have h1 := ih fun b hb => hd b (by simp [hb])
          have h2 := hd d (by simp)
          simp only [overSum, List.map_cons, List.sum_cons] at h1 ⊢
          split <;> omega
      exact this R fun b hb => hp b (by simp [hb])
    have hc := hp c (by simp)
    simp only [overSum, List.map_cons, List.sum_cons] at h h0
    intro b hb
    by_cases ho : ovB (shOf c.1) (shOf s) = true
    · rw [if_pos ho] at h; omega
    · rw [if_neg ho] at h
      rcases List.mem_cons.1 hb with rfl | hb
      · simpa using ho
      · exact ih (fun b hb => hp b (by simp [hb])) (by simp only [overSum]; omega) b hb
theorem rst_ends : ∀ {R : List Rs}, Rst R → (∀ b ∈ R, b.1.2.2.1 = 1) → R.Pairwise fun c b => b.1.2.1 < c.1.2.1
  | [], _, _ => List.Pairwise.nil
  | c :: R, h, h1 => by
    have hone := rst_one h h1
    have hall := Rst.all h
    obtain ⟨e1, e2, e3, e4, e5⟩ := h
    have hc1 := h1 c (by simp)
    have hc2 := hone c (by simp)
    have hno := overSum_none (R := R) (s := c.1) (fun b hb => (hall b (by simp [hb])).1) (by omega)
    refine List.pairwise_cons.2 ⟨fun b hb => ?_, rst_ends e5 fun b hb => h1 b (by simp [hb])⟩
    have h2 := hno b hb
    have h3 := e3 b hb
    have h4 := (hall b (by simp [hb])).2
    rw [Bool.eq_false_iff] at h2
    have h5 : ¬ (b.1.1 < c.1.2.1 ∧ c.1.1 < b.1.2.1) := fun hh => h2 (ovB_iff.2 hh)
    unfold okN at h4 e4
    omega
theorem ones_pay {xs : Ls} {L : Ns} (hL : Ord kt (ones xs) L) {x : Nm} (hx : x ∈ L) : x.2.2.1 = 1 := by
  obtain ⟨h1, h2, h3⟩ := mem_num (hL.perm.mem_iff.1 hx)
  rw [ones_len] at h2
  rw [shAt_ones h1 h2] at h3
  have : (shOf x).2.2 = 1 := by rw [h3]; rfl
  exact this
theorem paid_none {P : List Pst} {s : Sh} (h : ∀ p ∈ P, runB s p.1 = false) : paidBy P s = 0 := by
  induction P with
  | nil => rfl
  | cons p P ih =>
    have h1 := ih fun q hq => h q (by simp [hq])
    have h2 := h p (by simp)
    simp only [paidBy, List.map_cons, List.sum_cons, h2] at h1 ⊢
    simpa using h1
theorem sto_of {I : List Int} {g : Int} (hu : I.Pairwise (· < ·)) (hr : ∀ x ∈ I, 0 ≤ x ∧ x ≤ g) : isB I g = true := by
  refine isB_iff.2 fun i hi => ⟨hr _ (gi_mem hi), fun h0 => ?_⟩
  have e : ∀ i (h : i < I.length), gi I i = I[i] := fun i h => by simp [gi, List.getD_eq_getElem?_getD, h]
  rw [e i hi, e (i - 1) (by omega)]
  exact List.pairwise_iff_getElem.1 hu (i - 1) i (by omega) hi (by omega)
theorem total_one : ∀ {R : List Rs}, (∀ b ∈ R, b.2 = 1) → total (R.map pstOf) = R.length
  | [], _ => rfl
  | c :: R, h => by
    have h1 := total_one (R := R) fun b hb => h b (by simp [hb])
    have h2 := h c (by simp)
    simp only [total, List.map_cons, List.sum_cons, List.length_cons] at h1 ⊢
    rw [h1]
    simp only [pstOf, h2]
    omega
theorem moments_right {xs : Ls} (he : errV xs = 0) {l : List Pst} (h : PstsOf (ones xs) l) : errM xs (l.map (·.1)) = 0 ∧ lenM xs (l.map (·.1)) = best lenI (setsTo xs xs.length) := by
  obtain ⟨L, hL, rfl⟩ := h
  have he1 := errV_ones he
  have ok1 := (errV_ok.1 he1).2
  have hr := hL.rsts ok1
  have h1 := psts_len he1 ⟨L, hL, rfl⟩
  have hone : ∀ b ∈ (rsts L).reverse, b.1.2.2.1 = 1 := by
    intro b hb
    exact ones_pay hL (hr.sub.subset (List.mem_map.2 ⟨b, by simpa using hb, rfl⟩))
  have hone2 := rst_one hr.rst hone
  have hup : ((rsts L).map pstOf |>.map (·.1)).Pairwise (· < ·) := by
    rw [List.map_map, List.pairwise_map]
    have := rst_ends hr.rst hone
    rw [List.pairwise_reverse] at this
    refine this.imp fun {a b} hab => ?_
    simp only [Function.comp, pstOf]
    omega
  have h0 : errM xs (((rsts L).map pstOf).map (·.1)) = 0 := by
    refine errM_ok he (sto_of hup fun x hx => ?_) (List.all_eq_true.2 fun s hs => ?_)
    · obtain ⟨p, hp, rfl⟩ := List.mem_map.1 hx
      have := pOk_iff.1 (h1.2 p hp)
      omega
    · obtain ⟨i, hi, rfl⟩ := List.getElem_of_mem hs
      have hi1 : i < (ones xs).length := by rw [ones_len]; exact hi
      have hm : gt (num (ones xs)) i ∈ num (ones xs) := by
        unfold gt
        rw [List.getD_eq_getElem?_getD, List.getElem?_eq_getElem (by rw [num_len]; omega)]
        exact List.getElem_mem _
      have h2 := hr.pays _ (hL.perm.mem_iff.2 hm)
      rw [gt_num hi1] at h2
      have e : (ones xs).getD i sh0 = al1 xs[i] := by simp [ones, List.getD_eq_getElem?_getD, hi]
      rw [e] at h2
      refine Classical.byContradiction fun hno => ?_
      rw [Bool.not_eq_true] at hno
      have hz : paidBy ((rsts L).map pstOf) (al1 xs[i]) = 0 := paid_none fun p hp => by
        rw [Bool.eq_false_iff]
        intro hh
        have hs : seenB xs[i] (((rsts L).map pstOf).map (·.1)) = true := List.any_eq_true.2 ⟨p.1, List.mem_map.2 ⟨p, hp, rfl⟩, hh⟩
        rw [hno] at hs
        cases hs
      have h3 : (1 : Int) ≤ paidBy ((rsts L).map pstOf) (al1 xs[i]) := h2
      omega
  obtain ⟨J, hJ⟩ := chosen_exists he1 hL
  have hb := best_len he hL hJ
  refine ⟨h0, ?_⟩
  rw [lenM_ok h0, hb.1, ← pay_ones hb.2.1.rng, hJ.pay, total_one fun b hb => hone2 b (by simpa using hb)]
  simp
set_option maxHeartbeats 2000000 in
theorem WatchMoments_walk (A : Option Addr) (n c : Nat) (xs : Ls) (w : World) (h : R E3 w A n c xs) :
    Calls Try.prog 10 #[.slice A n c] w fun e w' => e = .returned (.bool true) ∧ Below w.heap.size w w' := by
  have HLX := hide h.length
  have HX := hide h
  clear h
  by_cases hn : 50 < n
  · have hb : decide (50 < n) = true := by simpa using hn
    have HB := hide hb
    clear hb
    go_enter Try.func10, Try.ntmps10
    go_wp2_with fail
    refine (Long0_any _ _ _ _ _ HB.out).mono ?_
    rintro e w' ⟨rfl, rfl⟩
    go_wp2_with fail
    refine (sane_any _).mono ?_
    rintro e w1 ⟨rfl, b1⟩
    go_wp2_with fail
    go_ret
    exact ⟨rfl, b1⟩
  · have hb : decide (50 < n) = false := by simpa using hn
    have HB := hide hb
    have hn2 : n ≤ 1000 := by omega
    clear hb hn
    by_cases he : errV xs = 0
    · have HE := hide he
      clear he
      go_enter Try.func10, Try.ntmps10
      go_wp2_with (first
        | (go_at_call 19; refine (Long0_any _ _ _ _ _ HB.out).mono ?_; rintro e w' ⟨rfl, rfl⟩)
        | (go_at_call 41; refine (Moments_any _ _ _ xs _ HX.out hn2).mono ?_; rintro e w1 ⟨A1, n1, k1, I, rfl, hI, _, o1, b1⟩; obtain ⟨l, hl, hI⟩ := hI HE.out; have HSR := hide (moments_right HE.out hl); rw [← hI] at HSR; have hn1 : n1 ≤ 1000 := by { have h1 := (psts_len (errV_ones HE.out) hl).1; have h2 := o1.len; have h3 := HLX.out; rw [ones_len] at h1; rw [hI, List.length_map] at h2; omega }; have HI := hide o1; have B1 := hide b1; rw [HE.out]; clear hI o1 b1 hl)
        | (go_at_call 24; refine (rValidate_any _ _ _ xs _ (HX.out.below B1.out (Nat.le_refl _)) hn2).mono ?_; rintro e w2 ⟨rfl, b2⟩; rw [HE.out]; have HI2 := hide (HI.out.below b2 (Nat.le_refl _)); have B2 := hide (B1.out.trans (b2.mono B1.out.size)); clear b2)
        | (go_at_call 40; refine (rCheckMoments_any _ _ _ xs _ _ _ I _ (HX.out.below B2.out (Nat.le_refl _)) hn2 HI2.out.row hn1).mono ?_; rintro e w3 ⟨rfl, b3⟩; rw [HSR.out.1, HSR.out.2]; have B3 := hide (B2.out.trans (b3.mono B2.out.size)); clear b3)
        | (go_at_call 38; refine (rMost_any _ _ _ xs _ (HX.out.below B3.out (Nat.le_refl _)) HE.out).mono ?_; rintro e w4 ⟨rfl, b4⟩; have B4 := hide (B3.out.trans (b4.mono B3.out.size)); clear b4)
        | (go_at_call 20; refine (sane_any _).mono ?_; rintro e w6 ⟨rfl, b6⟩; have B6 := hide (B4.out.trans (b6.mono B4.out.size)); clear b6))
      go_ret
      exact ⟨rfl, B6.out⟩
    · have HE := hide he
      have hne : (errV xs != 0) = true := by simpa using he
      clear he
      go_enter Try.func10, Try.ntmps10
      go_wp2_with (first
        | (go_at_call 19; refine (Long0_any _ _ _ _ _ HB.out).mono ?_; rintro e w' ⟨rfl, rfl⟩)
        | (go_at_call 41; refine (Moments_any _ _ _ xs _ HX.out hn2).mono ?_; rintro e w1 ⟨A1, n1, k1, I, rfl, _, hI, o1, b1⟩; obtain rfl := hI HE.out; have hl := o1.len; simp only [List.length_nil] at hl; subst hl; have B1 := hide b1; clear hI o1 b1)
        | (go_at_call 24; refine (rValidate_any _ _ _ xs _ (HX.out.below B1.out (Nat.le_refl _)) hn2).mono ?_; rintro e w2 ⟨rfl, b2⟩; generalize errV xs = ev at *; have B2 := hide (B1.out.trans (b2.mono B1.out.size)); clear b2)
        | (go_at_call 20; refine (sane_any _).mono ?_; rintro e w6 ⟨rfl, b6⟩; have B6 := hide (B2.out.trans (b6.mono B2.out.size)); clear b6))
      go_ret
      exact ⟨rfl, B6.out⟩
end Go.Proofs.Ytpkjgnllkaafkaa
