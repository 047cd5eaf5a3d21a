/- The walk of HazeProves. -/
import Derived.Test.YtlmmkaadoicogaaWalkG
import Derived.Test.YtlmmkaadoicogaaMathL
namespace Go.Proofs.Ytlmmkaadoicogaa
open Go.RowKit

theorem best_get (xs : Rd) {i : Nat} (hi : i < xs.length) : (best xs).getD i (0, 0) = (nu (rr xs i), de (rr xs i)) := by
  have h1 : i < (bestR xs).length := by rw [bestR_len]; exact hi
  simp [best, rq, rr, List.getD_eq_getElem?_getD, h1]
theorem small_rr {xs : Rd} (o : okH xs = true) (hl : xs.length ≤ 12) {i : Nat} (hi : i < xs.length) : Small (rr xs i) := by
  rw [rr_mm xs hi]
  exact small_mm o hl hi
set_option maxHeartbeats 1000000 in
theorem fair_any (A : Option Addr) (n c : Nat) (l : Rd) (w : World) (h : Row w A n c l) (hn : n ≤ 1000) (hf : ∀ k, k < n → 0 ≤ (l.getD k (0, 0)).1 ∧ (l.getD k (0, 0)).1 ≤ 1000000 ∧ 1 ≤ (l.getD k (0, 0)).2 ∧ (l.getD k (0, 0)).2 ≤ 1000) :
    Calls Try.prog 35 #[.slice A n c] w fun e w' => e = .returned (.bool true) ∧ w = w' := by
  obtain ⟨b, off, h1, hcap, hmax, h2, h3, h4⟩ := h
  have H2 := hide h2
  have H4 := hide h4
  have HF := hide hf
  clear h1 h2 h3 h4 hf
  go_enter Try.func35, Try.ntmps35
  go_wp2
  go_loop [3] (fun i => ∃ k : Nat, k ≤ n ∧ i = .int .i64 k) (fun i => n - (intOf i).toNat)
  case atStart => exact ⟨0, Nat.zero_le _, rfl⟩
  case round =>
    obtain ⟨k, hk, rfl⟩ := hrel
    by_cases hlt : k < n
    · obtain rfl := H2.out (by omega)
      obtain ⟨c1, c2⟩ := H4.out k hlt
      obtain ⟨f1, f2, f3, f4⟩ := HF.out k hlt
      generalize (l.getD k (0, 0)).1 = x at *
      generalize (l.getD k (0, 0)).2 = y at *
      go_wp2
      go_round
      case rel => exact ⟨k + 1, by omega, by go_num⟩
      case measure => simp [intOf]; omega
    · go_wp2
      go_ret
      exact ⟨rfl, rfl⟩
theorem lf_succ (xs : Rd) (i : Nat) : lf xs (i + 1) = lf xs i + wI xs i * (vI xs i * de (rr xs i) - nu (rr xs i)) := rfl
theorem lf_bd {xs : Rd} (o : okH xs = true) (hl : xs.length ≤ 12) : ∀ {k : Nat}, k ≤ xs.length → -200000 * (k : Int) ≤ lf xs k ∧ lf xs k ≤ 200000 * (k : Int) := by
  intro k hk
  have := isum_le (f := fun j => wI xs j * (vI xs j * ((rr xs j).den : Int) - (rr xs j).num)) (a := -200000) (b := 200000) (k := k) (fun i hi => by
    obtain ⟨a1, a2, a3, a4⟩ := okH_get o (show i < xs.length by omega)
    have s : Small (rr xs i) := small_rr o hl (by omega)
    obtain ⟨s1, s2, s3, s4⟩ := s
    unfold nu at s1 s2
    unfold de at s3 s4
    have m1 : vI xs i * ((rr xs i).den : Int) ≤ 100 * 108 := Int.mul_le_mul (by omega) (by omega) (by omega) (by omega)
    have m0 : 0 ≤ vI xs i * ((rr xs i).den : Int) := Int.mul_nonneg (by omega) (by omega)
    generalize hz : vI xs i * ((rr xs i).den : Int) - (rr xs i).num = z at *
    have hz1 : -10800 ≤ z := by omega
    have hz2 : z ≤ 10800 := by omega
    have c : wI xs i = 1 ∨ wI xs i = 2 ∨ wI xs i = 3 ∨ wI xs i = 4 ∨ wI xs i = 5 ∨ wI xs i = 6 ∨ wI xs i = 7 ∨ wI xs i = 8 ∨ wI xs i = 9 := by omega
    rcases c with e | e | e | e | e | e | e | e | e <;> rw [e] <;> omega)
  exact this
def lessNum (p q : Rat) : Bool := lessB p q
set_option maxRecDepth 100000 in
set_option maxHeartbeats 4000000 in
theorem HazeProves_walk (A : Option Addr) (n c : Nat) (xs : Rd) (w : World) (h : Row w A n c xs) :
    Calls Try.prog 7 #[.slice A n c] w fun e w' => e = .returned (.bool true) ∧ Below w.heap.size w w' := by
  have HR := hide h
  have hl := h.length
  by_cases hn : 100 < n
  · clear h hl
    go_enter Try.func7, Try.ntmps7
    go_wp2_with (first | (go_at_call 18; refine (Long_yes _ _ _ _ hn).mono ?_; rintro e w' ⟨rfl, rfl⟩) | (go_at_call 19; refine (known_any _).mono ?_; rintro e w1 ⟨rfl, hb⟩))
    go_ret
    exact ⟨rfl, hb⟩
  · have hn' : n ≤ 100 := by omega
    by_cases he : errH xs = 0
    · obtain ⟨e1, e2, e3⟩ := errH_zero he
      obtain ⟨bl, off, hr⟩ := h
      obtain rfl := hr.at_ (by omega)
      have hcap := hr.cap
      have hmax := hr.max
      have HRA := hide hr
      have HE := hide he
      have HL := hide hl
      have hn1 : 1 ≤ n := by omega
      have hn12 : n ≤ 12 := by omega
      clear he hr e1 e2 hl hn
      go_enter Try.func7, Try.ntmps7
      go_wp2_with fail
      refine (Long_no _ _ _ _ hn').mono ?_
      rintro e w' ⟨rfl, rfl⟩
      go_wp2_with fail
      refine (Best_any _ _ _ xs _ HR.out (by omega)).mono ?_
      rintro e w1 ⟨A', n', c', rfl, hown, hb1⟩
      rw [HE.out] at *
      rw [if_pos rfl] at hown
      have hn2 : n' = n := by have := hown.len; rw [best_len, HL.out] at this; exact this.symm
      subst hn2
      have hrow := hown.row
      have HRW := hide hrow
      have hfair := hide fun k hk => by
        have s := small_rr e3 (by rw [HL.out]; exact hn12) (i := k) (by rw [HL.out]; exact hk)
        have e := best_get xs (i := k) (by rw [HL.out]; exact hk)
        show 0 ≤ ((best xs).getD k (0, 0)).1 ∧ ((best xs).getD k (0, 0)).1 ≤ 1000000 ∧ 1 ≤ ((best xs).getD k (0, 0)).2 ∧ ((best xs).getD k (0, 0)).2 ≤ 1000
        rw [e]
        obtain ⟨s1, s2, s3, s4⟩ := s
        exact ⟨s1, by simp only; omega, s3, by simp only; omega⟩
      have HR1 := hide (HRA.out.below hb1 (Nat.le_refl _))
      clear hown hrow
      go_wp2_with (go_at_call 35; refine (fair_any _ _ _ (best xs) _ HRW.out (by omega) hfair.out).mono ?_; rintro e w2 ⟨rfl, rfl⟩)
      obtain ⟨b2, off2, hr2⟩ := HRW.out
      obtain rfl := hr2.at_ (by omega)
      have hcap2 := hr2.cap
      have hmax2 := hr2.max
      have HR2 := hide hr2
      have O := hide e3
      clear HRW hr2 hfair HRA e3
      go_loopw [5, 6] (fun s t wr => ∃ i : Nat, i ≤ n' ∧ s = .int .i64 (lf xs i) ∧ t = .int .i64 i ∧ RowAt wr (some ⟨bl, off, none⟩) n' c xs bl off ∧ RowAt wr (some ⟨b2, off2, none⟩) n' c' (best xs) b2 off2 ∧ Below w.heap.size w wr) (fun _ t _ => n' - (intOf t).toNat)
      case atStart => exact ⟨0, Nat.zero_le _, rfl, rfl, HR1.out, HR2.out, hb1⟩
      case round =>
        obtain ⟨i, hi, rfl, rfl, hra, hrb, hbel⟩ := hrel
        have HA := hide hra
        have HB := hide hrb
        by_cases hlt : i < n'
        · have hix : i < xs.length := by rw [HL.out]; exact hlt
          obtain ⟨c1, c2⟩ := hra.cell i hlt
          obtain ⟨d1, d2⟩ := hrb.cell i hlt
          rw [best_get xs hix] at d1 d2
          simp only at d1 d2
          rw [show (xs.getD i (0, 0)).1 = vI xs i from rfl] at c1
          rw [show (xs.getD i (0, 0)).2 = wI xs i from rfl] at c2
          clear hra hrb
          have hle := lf_le O.out hix
          have hz := hide (lf_zero O.out hix)
          have hbd := lf_bd O.out (by rw [HL.out]; exact hn12) (k := i) (by omega)
          have hbd2 := lf_bd O.out (by rw [HL.out]; exact hn12) (k := i + 1) (by omega)
          have hsu := lf_succ xs i
          rw [hsu] at hle hbd2
          have HSU := hide hsu
          clear hsu
          obtain ⟨a1, a2, a3, a4⟩ := okH_get O.out hix
          obtain ⟨s1, s2, s3, s4⟩ := small_rr O.out (by rw [HL.out]; exact hn12) hix
          have m1 : vI xs i * de (rr xs i) ≤ 100 * 108 := Int.mul_le_mul (by omega) (by omega) (by omega) (by omega)
          have m0 : 0 ≤ vI xs i * de (rr xs i) := Int.mul_nonneg (by omega) (by omega)
          have HN1 := hide fun h : i + 1 < n' => best_get xs (i := i + 1) (by rw [HL.out]; exact h)
          have HSM := hide fun h : i + 1 < n' => small_rr O.out (by rw [HL.out]; exact hn12) (i := i + 1) (by rw [HL.out]; exact h)
          have HFALL := hide fun h : i + 1 < n' => rr_fall O.out (i := i) (by rw [HL.out]; exact h)
          generalize hq : rr xs i = q at *
          generalize hq' : rr xs (i + 1) = q' at *
          generalize vI xs i = v at *
          generalize wI xs i = u at *
          generalize lf xs i = L at *
          have HQ := hide hq
          have HQ' := hide hq'
          clear hq hq'
          have hw1 : IntKind.i64.wrap (v * de q) = v * de q := IntWalk.i64_in _ (by omega)
          have hw2 : IntKind.i64.wrap (v * de q - nu q) = v * de q - nu q := IntWalk.i64_in _ (by omega)
          have hw3 : IntKind.i64.wrap (u * (v * de q - nu q)) = u * (v * de q - nu q) := IntWalk.i64_in _ (by omega)
          have hw4 : IntKind.i64.wrap (L + u * (v * de q - nu q)) = L + u * (v * de q - nu q) := IntWalk.i64_in _ (by omega)
          have l0 : (0 : Int) ≤ i := by omega
          have l1 : (i : Int) < n' := by omega
          go_wp2_with fail
          go_quiet (fail)
          clear hw1 hw2 hw3 hw4
          go_wp2_with fail
          generalize hL2 : L + u * (v * de q - nu q) = L2 at *
          have HL2 := hide hL2
          clear hL2 c1 c2 m0 m1 d1 d2
          have HA3 := hide (HA.out.below (below_drewN (Below.refl wr.heap.size wr) nq) (Nat.le_refl _))
          have HB3 := hide (HB.out.below (below_drewN (Below.refl wr.heap.size wr) nq) (Nat.le_refl _))
          have hbel3 := below_drewN hbel nq
          generalize wr.drewN nq = w3 at *
          clear HA HB hbel
          have hw5 : IntKind.i64.wrap ((i : Int) + 1) = (i : Int) + 1 := IntWalk.i64_in _ (by omega)
          have l2 : (0 : Int) ≤ (i : Int) + 1 := by omega
          have l3 : ((i : Int) + 1).toNat = i + 1 := by omega
          obtain ⟨d1, d2⟩ := HB3.out.cell i hlt
          rw [best_get xs hix] at d1 d2
          simp only [HQ.out] at d1 d2
          by_cases hlast : i + 1 = n'
          · have hL0 : L2 = 0 := by rw [← HSU.out]; exact hz.out (.inl (by rw [HL.out]; exact hlast))
            subst hL0
            have b1 : ((i : Int) + 1 == (n' : Int)) = true := by simp; omega
            have b2 : decide ((i : Int) + 1 < (n' : Int)) = false := by simp; omega
            have HLAST := hide hlast
            clear hlast
            go_quiet (fail)
            go_wp2_with fail
            go_quiet (fail)
            clear hw5
            go_wp2_with fail
            go_roundw
            case rel => exact ⟨i + 1, by omega, by rw [HSU.out], by go_num, HA3.out.below (below_drewN (Below.refl w3.heap.size w3) _) (Nat.le_refl _), HB3.out.below (below_drewN (Below.refl w3.heap.size w3) _) (Nat.le_refl _), below_drewN hbel3 _⟩
            case measure => simp [intOf]; omega
          · have hnx : i + 1 < n' := by omega
            have b1 : ((i : Int) + 1 == (n' : Int)) = false := by simp; omega
            have l4 : (i : Int) + 1 < n' := by omega
            obtain ⟨x1, x2⟩ := HB3.out.cell (i + 1) hnx
            rw [HN1.out hnx] at x1 x2
            simp only at x1 x2
            by_cases hqq : q' = q
            · subst hqq
              go_quiet (fail)
              clear hw5
              go_wp2_with fail
              go_roundw
              case rel => exact ⟨i + 1, by omega, by rw [HSU.out], by go_num, HA3.out.below (below_drewN (Below.refl w3.heap.size w3) _) (Nat.le_refl _), HB3.out.below (below_drewN (Below.refl w3.heap.size w3) _) (Nat.le_refl _), below_drewN hbel3 _⟩
              case measure => simp [intOf]; omega
            · have hL0 : L2 = 0 := by rw [← HSU.out]; exact hz.out (.inr hqq)
              subst hL0
              have hls : lessB q' q = true := by simpa [lessB] using HFALL.out hnx hqq
              obtain ⟨t1, t2, t3, t4⟩ := HSM.out hnx
              have HBQ : Hid ((nu q' == nu q) = false ∨ nu q' = nu q ∧ (de q' == de q) = false) := by
                by_cases e1 : nu q' = nu q
                · by_cases e2 : de q' = de q
                  · exfalso
                    apply hqq
                    rw [← rt_self q', ← rt_self q]
                    unfold nu at e1
                    unfold de at e2
                    rw [e1, e2]
                  · exact hide (.inr ⟨e1, by simp [e2]⟩)
                · exact hide (.inl (by simp [e1]))
              have HLESS := fun W => Less_any q' q W t1 (by omega) (by omega) s1 (by omega) (by omega)
              rw [hls] at HLESS
              have HLS := hide HLESS
              clear hqq HLESS hls
              generalize hnq : nu q = Nq at *
              generalize hdq : de q = Dq at *
              generalize hnp : nu q' = Np at *
              generalize hdp : de q' = Dp at *
              have H1 := hide hnq
              have H2 := hide hdq
              have H3 := hide hnp
              have H4 := hide hdp
              clear hnq hdq hnp hdp
              have bb2 : decide ((i : Int) + 1 < (n' : Int)) = true := by simp; omega
              have hcases : Hid (∃ bv : Bool, bv = false ∧ ((Np == Nq) = bv ∨ Np = Nq ∧ (Dp == Dq) = bv)) := hide ⟨false, rfl, HBQ.out⟩
              rcases HBQ.out with hbq | ⟨hbe, hbq⟩
              · have hbq' : (Np != Nq) = true := by simpa using hbq
                go_quiet (fail)
                go_wp2_with fail
                have HA4 := hide (HA3.out.below (below_drewN (Below.refl w3.heap.size w3) nq) (Nat.le_refl _))
                have HB4 := hide (HB3.out.below (below_drewN (Below.refl w3.heap.size w3) nq) (Nat.le_refl _))
                have hbel4 := below_drewN hbel3 nq
                have f1 : (w3.drewN nq).cell? ⟨b2, off2 + i * 2, none⟩ = some (.int .i64 Nq) := d1
                have f2 : (w3.drewN nq).cell? ⟨b2, off2 + i * 2 + 1, none⟩ = some (.int .i64 Dq) := d2
                have f3 : (w3.drewN nq).cell? ⟨b2, off2 + (i + 1) * 2, none⟩ = some (.int .i64 Np) := x1
                have f4 : (w3.drewN nq).cell? ⟨b2, off2 + (i + 1) * 2 + 1, none⟩ = some (.int .i64 Dp) := x2
                clear d1 d2 x1 x2
                generalize w3.drewN nq = w4 at *
                have d1 : World.cell? { heap := w4.heap, tape := w4.tape, drawn := w4.drawn + 1, os := w4.os, output := w4.output } ⟨b2, off2 + i * 2, none⟩ = some (.int .i64 Nq) := f1
                have d2 : World.cell? { heap := w4.heap, tape := w4.tape, drawn := w4.drawn + 1, os := w4.os, output := w4.output } ⟨b2, off2 + i * 2 + 1, none⟩ = some (.int .i64 Dq) := f2
                have x1 : World.cell? { heap := w4.heap, tape := w4.tape, drawn := w4.drawn + 1, os := w4.os, output := w4.output } ⟨b2, off2 + (i + 1) * 2, none⟩ = some (.int .i64 Np) := f3
                have x2 : World.cell? { heap := w4.heap, tape := w4.tape, drawn := w4.drawn + 1, os := w4.os, output := w4.output } ⟨b2, off2 + (i + 1) * 2 + 1, none⟩ = some (.int .i64 Dp) := f4
                go_still_tail 18, (by kernel_rfl)
                clear d1 d2 x1 x2 f1 f2 f3 f4 hw5
                change wpList _ _ _ _ _ w4.drew
                have HA5 := hide (HA4.out.below ((Below.refl w4.heap.size w4).drew) (Nat.le_refl _))
                have HB5 := hide (HB4.out.below ((Below.refl w4.heap.size w4).drew) (Nat.le_refl _))
                have hbel5 := hbel4.drew
                generalize w4.drew = w5 at *
                clear HA4 HB4 hbel4
                go_wp2_with fail
                refine (HLS.out _).mono ?_
                rintro e w6 ⟨rfl, hb6⟩
                go_wp2_with fail
                go_roundw
                case rel => exact ⟨i + 1, by omega, by rw [HSU.out], by go_num, HA5.out.below hb6 (Nat.le_refl _), HB5.out.below hb6 (Nat.le_refl _), hbel5.trans (hb6.mono hbel5.size)⟩
                case measure => simp [intOf]; omega
              · subst hbe
                have hbq' : (Dp != Dq) = true := by simpa using hbq
                go_quiet (fail)
                go_wp2_with fail
                have HA4 := hide (HA3.out.below (below_drewN (Below.refl w3.heap.size w3) nq) (Nat.le_refl _))
                have HB4 := hide (HB3.out.below (below_drewN (Below.refl w3.heap.size w3) nq) (Nat.le_refl _))
                have hbel4 := below_drewN hbel3 nq
                have f1 : (w3.drewN nq).cell? ⟨b2, off2 + i * 2, none⟩ = some (.int .i64 Np) := d1
                have f2 : (w3.drewN nq).cell? ⟨b2, off2 + i * 2 + 1, none⟩ = some (.int .i64 Dq) := d2
                have f3 : (w3.drewN nq).cell? ⟨b2, off2 + (i + 1) * 2, none⟩ = some (.int .i64 Np) := x1
                have f4 : (w3.drewN nq).cell? ⟨b2, off2 + (i + 1) * 2 + 1, none⟩ = some (.int .i64 Dp) := x2
                clear d1 d2 x1 x2
                generalize w3.drewN nq = w4 at *
                have d1 : World.cell? { heap := w4.heap, tape := w4.tape, drawn := w4.drawn + 1, os := w4.os, output := w4.output } ⟨b2, off2 + i * 2, none⟩ = some (.int .i64 Np) := f1
                have d2 : World.cell? { heap := w4.heap, tape := w4.tape, drawn := w4.drawn + 1, os := w4.os, output := w4.output } ⟨b2, off2 + i * 2 + 1, none⟩ = some (.int .i64 Dq) := f2
                have x1 : World.cell? { heap := w4.heap, tape := w4.tape, drawn := w4.drawn + 1, os := w4.os, output := w4.output } ⟨b2, off2 + (i + 1) * 2, none⟩ = some (.int .i64 Np) := f3
                have x2 : World.cell? { heap := w4.heap, tape := w4.tape, drawn := w4.drawn + 1, os := w4.os, output := w4.output } ⟨b2, off2 + (i + 1) * 2 + 1, none⟩ = some (.int .i64 Dp) := f4
                go_still_tail 18, (by kernel_rfl)
                clear d1 d2 x1 x2 f1 f2 f3 f4 hw5
                change wpList _ _ _ _ _ w4.drew
                have HA5 := hide (HA4.out.below ((Below.refl w4.heap.size w4).drew) (Nat.le_refl _))
                have HB5 := hide (HB4.out.below ((Below.refl w4.heap.size w4).drew) (Nat.le_refl _))
                have hbel5 := hbel4.drew
                generalize w4.drew = w5 at *
                clear HA4 HB4 hbel4
                go_wp2_with fail
                refine (HLS.out _).mono ?_
                rintro e w6 ⟨rfl, hb6⟩
                go_wp2_with fail
                go_roundw
                case rel => exact ⟨i + 1, by omega, by rw [HSU.out], by go_num, HA5.out.below hb6 (Nat.le_refl _), HB5.out.below hb6 (Nat.le_refl _), hbel5.trans (hb6.mono hbel5.size)⟩
                case measure => simp [intOf]; omega
        · go_wp2_with (first | (go_at_call 19; refine (known_any _).mono ?_; rintro e w7 ⟨rfl, hb7⟩))
          go_ret
          exact ⟨rfl, hbel.trans (hb7.mono hbel.size)⟩
    · have he' := errH_ne he
      clear h hl hn
      have HE := hide he
      go_enter Try.func7, Try.ntmps7
      go_wp2_with fail
      refine (Long_no _ _ _ _ hn').mono ?_
      rintro e w' ⟨rfl, rfl⟩
      go_wp2_with fail
      refine (Best_any _ _ _ xs _ HR.out (by omega)).mono ?_
      rintro e w1 ⟨A', n', c', rfl, hown, hb1⟩
      have z1 := hb1.size
      clear hown
      go_wp2_with (first | (go_at_call 19; refine (known_any _).mono ?_; rintro e w7 ⟨rfl, hb7⟩))
      go_ret
      exact ⟨rfl, hb1.trans (hb7.mono z1)⟩

end Go.Proofs.Ytlmmkaadoicogaa
