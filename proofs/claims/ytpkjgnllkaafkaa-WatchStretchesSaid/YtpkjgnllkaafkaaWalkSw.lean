/- The walk of WatchSpells. -/
import Derived.Test.YtpkjgnllkaafkaaWalkCw
namespace Go.Proofs.Ytpkjgnllkaafkaa
open Go.RowKit

theorem alone_all {xs P : Ls} (hP : SpellsOf xs P) (he : errV xs = 0) {L : Ns} {J : List Int} (hL : Ord kt (ones P) L) (hJ : Chosen (ones P) L J) : (J.length : Int) = P.length := by
  have he2 := hP.ok he
  have hb := best_len he2 hL hJ
  have hu : Asc P.length (moms P.length) := ⟨moms_nodup _, fun x hx => by have := mem_moms.1 hx; omega⟩
  have hpk : pick P (moms P.length) = P := by
    apply List.ext_getElem
    · simp [pick, moms]
    · intro i h1 h2
      simp [pick, moms, shAt, List.getD_eq_getElem?_getD, h2]
  have h1 := (best_spec lenI _ (setsTo P P.length) rfl).1 _ (mem_setsTo.2 ⟨hu, by rw [hpk]; exact hP.alone⟩)
  rw [hb.1] at h1
  have h2 := asc_len hb.2.1
  unfold lenI at h1
  rw [moms_len] at h1
  omega
theorem cov_spells {xs P : Ls} (hP : SpellsOf xs P) (he : errV xs = 0) : covV P = covV xs := by
  rw [covV_ok he, covV_ok (hP.ok he), covN_congr fun m _ => hP.cov m]
set_option maxHeartbeats 2000000 in
theorem WatchSpells_walk (A : Option Addr) (n c : Nat) (xs : Ls) (w : World) (h : R E3 w A n c xs) :
    Calls Try.prog 14 #[.slice A n c] w fun e w' => e = .returned (.bool true) ∧ Below w.heap.size w w' := by
  have HLX := hide h.length
  have HX := hide h
  clear h
  by_cases hn : 50 < n
  · have hb : decide (50 < n) = true := by simpa using hn
    have HB := hide hb
    clear hb
    go_enter Try.func14, Try.ntmps14
    go_wp2_with fail
    refine (Long0_any _ _ _ _ _ HB.out).mono ?_
    rintro e w' ⟨rfl, rfl⟩
    go_wp2_with fail
    refine (sane_any _).mono ?_
    rintro e w1 ⟨rfl, b1⟩
    go_wp2_with fail
    go_ret
    exact ⟨rfl, b1⟩
  · have hb : decide (50 < n) = false := by simpa using hn
    have HB := hide hb
    have hn2 : n ≤ 1000 := by omega
    clear hb hn
    by_cases he : errV xs = 0
    · have HE := hide he
      clear he
      go_enter Try.func14, Try.ntmps14
      go_wp2_with fail
      refine (Long0_any _ _ _ _ _ HB.out).mono ?_
      rintro e w' ⟨rfl, rfl⟩
      go_wp2_with fail
      refine (Covered_any _ _ _ xs _ HX.out hn2).mono ?_
      rintro e w1 ⟨rfl, b1⟩
      rw [HE.out]
      have B1 := hide b1
      clear b1
      go_wp2_with fail
      refine (rCovered_any _ _ _ xs _ (HX.out.below B1.out (Nat.le_refl _)) hn2).mono ?_
      rintro e w2 ⟨rfl, b2⟩
      rw [HE.out]
      have B2 := hide (B1.out.trans (b2.mono B1.out.size)); clear b2
      go_wp2_with fail
      refine (Spells_any _ _ _ xs _ (HX.out.below B2.out (Nat.le_refl _)) hn2).mono ?_
      rintro e w3 ⟨A3, n3, c3, P, rfl, hP, _, o3, b3⟩
      rw [HE.out]
      have HP := hide (hP HE.out)
      have O3 := hide o3
      have B3 := hide (B2.out.trans (b3.mono B2.out.size)); clear b3
      clear hP o3
      have hn3 : n3 ≤ 1000 := by have h1 := HP.out.len; have h2 := O3.out.len; have h3 := HLX.out; omega
      go_wp2_with fail
      refine (rSpells_any _ _ _ xs _ (HX.out.below B3.out (Nat.le_refl _)) hn2).mono ?_
      rintro e w4 ⟨A4, n4, c4, Q, rfl, hQ, _, o4, b4⟩
      rw [HE.out]
      obtain rfl := hQ HE.out P HP.out
      have O4 := hide o4
      have O34 := hide (O3.out.below b4 (Nat.le_refl _))
      have B4 := hide (B3.out.trans (b4.mono B3.out.size)); clear b4
      clear hQ o4
      have HCV := hide (cov_spells HP.out HE.out)
      have HEP := hide (HP.out.ok HE.out)
      have HAL := hide (fun (L : Ns) (J : List Int) => @alone_all xs Q HP.out HE.out L J)
      have HLQ := hide O3.out.len
      generalize covV xs = cv at *
      go_wp2_with (first
        | (go_at_call 49; refine (SameShifts_self _ _ _ _ _ _ Q _ O34.out.row O4.out.row (by omega)).mono ?_; rintro e w5 ⟨rfl, b5⟩; have O5 := hide (O34.out.below b5 (Nat.le_refl _)); have B5 := hide (B4.out.trans (b5.mono B4.out.size)); clear b5)
        | (go_at_call 45; refine (Covered_any _ _ _ Q _ O5.out.row hn3).mono ?_; rintro e w6 ⟨rfl, b6⟩; rw [HEP.out, HCV.out]; have O6 := hide (O5.out.below b6 (Nat.le_refl _)); have B6 := hide (B5.out.trans (b6.mono B5.out.size)); clear b6))
      refine (Alone_any _ _ _ Q _ O6.out.row hn3).mono ?_
      rintro e w7 ⟨A7, n7, k7, J, rfl, hJ, _, o7, b7⟩
      obtain ⟨L, hL, hC⟩ := hJ HEP.out
      have hlen := HAL.out L J hL hC
      rw [o7.len, HLQ.out] at hlen
      have hn7 : n7 = n3 := by omega
      rw [HEP.out]
      subst hn7
      clear hJ hL hC hlen o7
      have B7 := hide (B6.out.trans (b7.mono B6.out.size)); clear b7
      go_wp2_with (first
        | (go_at_call 20; refine (sane_any _).mono ?_; rintro e w8 ⟨rfl, b8⟩; have B8 := hide (B7.out.trans (b8.mono B7.out.size)); clear b8))
      go_ret
      exact ⟨rfl, B8.out⟩
    · have HE := hide he
      have hne : (errV xs != 0) = true := by simpa using he
      clear he
      go_enter Try.func14, Try.ntmps14
      go_wp2_with fail
      refine (Long0_any _ _ _ _ _ HB.out).mono ?_
      rintro e w' ⟨rfl, rfl⟩
      go_wp2_with fail
      refine (Covered_any _ _ _ xs _ HX.out hn2).mono ?_
      rintro e w1 ⟨rfl, b1⟩
      have B1 := hide b1
      clear b1
      go_wp2_with fail
      refine (rCovered_any _ _ _ xs _ (HX.out.below B1.out (Nat.le_refl _)) hn2).mono ?_
      rintro e w2 ⟨rfl, b2⟩
      have B2 := hide (B1.out.trans (b2.mono B1.out.size)); clear b2
      go_wp2_with fail
      refine (Spells_any _ _ _ xs _ (HX.out.below B2.out (Nat.le_refl _)) hn2).mono ?_
      rintro e w3 ⟨A3, n3, c3, P, rfl, _, hP, o3, b3⟩
      obtain rfl := hP HE.out
      have O3 := hide o3
      have B3 := hide (B2.out.trans (b3.mono B2.out.size)); clear b3
      clear hP o3
      go_wp2_with fail
      refine (rSpells_any _ _ _ xs _ (HX.out.below B3.out (Nat.le_refl _)) hn2).mono ?_
      rintro e w4 ⟨A4, n4, c4, Q, rfl, _, hQ, o4, b4⟩
      obtain rfl := hQ HE.out
      have O4 := hide o4
      have O34 := hide (O3.out.below b4 (Nat.le_refl _))
      have B4 := hide (B3.out.trans (b4.mono B3.out.size)); clear b4
      clear hQ o4
      have hn3 : n3 ≤ 1000 := by have h2 := O3.out.len; simp at h2; omega
      generalize covV xs = cv at *
      generalize errV xs = ev at *
      go_wp2_with (first
        | (go_at_call 49; refine (SameShifts_self _ _ _ _ _ _ [] _ O34.out.row O4.out.row (by omega)).mono ?_; rintro e w5 ⟨rfl, b5⟩; have B5 := hide (B4.out.trans (b5.mono B4.out.size)); clear b5)
        | (go_at_call 20; refine (sane_any _).mono ?_; rintro e w8 ⟨rfl, b8⟩; have B8 := hide (B5.out.trans (b8.mono B5.out.size)); clear b8))
      go_ret
      exact ⟨rfl, B8.out⟩
end Go.Proofs.Ytpkjgnllkaafkaa
