/- The walk of HazeNearest. -/
import Derived.Test.YtlmmkaadoicogaaWalkMf
import Derived.Test.YtlmmkaadoicogaaMathNn
import Derived.Test.YtlmmkaadoicogaaIRow
namespace Go.Proofs.Ytlmmkaadoicogaa
open Go.RowKit

theorem Mf_bd {xs : Rd} (o : okH xs = true) : 0 ≤ nu (Mf xs xs.length) := by
  have := Mf_mono o (Nat.zero_le xs.length) (Nat.le_refl _)
  rw [Mf_zero] at this
  exact Rat.num_nonneg.2 (by grind)
theorem Mf_MR {xs : Rd} (o : okH xs = true) (hn : xs.length ≤ 12) {n : Nat} (hl : xs.length = n) : ∀ {l : List Rn} {i : Nat}, Sq xs (bestR xs) l i n → MR (Mf xs i) i → MR (Mf xs n) n
  | [], i, h, hm => by
    have hi : i = n := h
    subst hi
    exact hm
  | r :: l, i, h, hm => by
    obtain ⟨ha, hg, hv, hr⟩ := h
    subst ha
    have hlt := hg.lt
    have hle := hg.le
    have h1 := run_MR o hg (fun j h1 h2 => hv j h1 h2)
    have h2 := Mf_run o hg (fun j h1 h2 => hv j h1 h2)
    have h3 := hm.add h1 (by omega)
    rw [← h2, show Mf xs r.a + (Mf xs (r.b + 1) - Mf xs r.a) = Mf xs (r.b + 1) by grind, show r.a + (r.b + 1 - r.a) = r.b + 1 by omega] at h3
    exact Mf_MR o hn hl hr h3
theorem Mf_all {xs : Rd} (o : okH xs = true) (hn : xs.length ≤ 12) : MB (Mf xs xs.length) 12 := by
  obtain ⟨st, hst⟩ := stk_exists o xs.length (Nat.le_refl _)
  have hsq := sq_of_stk hst
  have hrb : rowS st = bestR xs := rowS_best o hst
  rw [hrb] at hsq
  have h := (Mf_MR o hn rfl hsq MR_zero).mb hn
  obtain ⟨h1, h2, h3, h4⟩ := h
  exact ⟨h1, h2, h3, Int.le_trans h4 (P9_le hn)⟩
def Fall (ys : List Int) (i : Nat) : Prop := ∀ k, k + 1 < i → yI ys (k + 1) ≤ yI ys k
def SmallTo (ys : List Int) (i : Nat) : Prop := ∀ k, k < i → 0 ≤ yI ys k ∧ yI ys k ≤ 1000
theorem sN_bd {xs : Rd} (o : okH xs = true) {ys : List Int} : ∀ {k : Nat}, k ≤ xs.length → SmallTo ys k → 0 ≤ sN xs ys k ∧ sN xs ys k ≤ 9000000 * (k : Int)
  | 0, _, _ => ⟨Int.le_refl _, Int.le_refl _⟩
  | k + 1, hk, hs => by
    have ih := sN_bd o (k := k) (by omega) (fun j hj => hs j (by omega))
    obtain ⟨a1, a2, a3, a4⟩ := okH_get o (show k < xs.length by omega)
    obtain ⟨b1, b2⟩ := hs k (by omega)
    rw [sN_succ]
    have d1 : -1000 ≤ vI xs k - yI ys k := by omega
    have d2 : vI xs k - yI ys k ≤ 100 := by omega
    generalize vI xs k - yI ys k = d at *
    have q0 : 0 ≤ d * d := by
      rcases Int.le_total 0 d with hd | hd
      · exact Int.mul_nonneg hd hd
      · exact Int.mul_nonneg_of_nonpos_of_nonpos hd hd
    have q1 : d * d ≤ 1000 * 1000 := by
      rcases Int.le_total 0 d with hd | hd
      · exact Int.mul_le_mul (by omega) (by omega) hd (by omega)
      · have : (-d) * (-d) ≤ 1000 * 1000 := Int.mul_le_mul (by omega) (by omega) (by omega) (by omega)
        rw [Int.neg_mul_neg] at this
        exact this
    rw [Int.mul_assoc]
    have m1 : wI xs k * (d * d) ≤ 9 * (1000 * 1000) := Int.mul_le_mul (by omega) q1 q0 (by omega)
    have m0 : 0 ≤ wI xs k * (d * d) := Int.mul_nonneg (by omega) q0
    omega
set_option maxRecDepth 100000 in
set_option maxHeartbeats 1000000 in
theorem HazeNearest_walk (A : Option Addr) (n c : Nat) (xs : Rd) (B : Option Addr) (m cc : Nat) (ys : List Int) (w : World) (h : Row w A n c xs) (hy : IRow w B m cc ys) :
    Calls Try.prog 8 #[.slice A n c, .slice B m cc] w fun e w' => e = .returned (.bool true) ∧ Below w.heap.size w w' := by
  have HR := hide h
  have hl := h.length
  have hn0 : n ≤ c ∧ c ≤ 9223372036854775807 := by obtain ⟨b, off, h⟩ := h; exact ⟨h.cap, h.max⟩
  have hm0 : m ≤ cc ∧ cc ≤ 9223372036854775807 := by obtain ⟨b, off, h⟩ := hy; exact ⟨h.cap, h.max⟩
  have HY := hide hy
  by_cases hn : 100 < n
  · clear h hl hy
    go_enter Try.func8, Try.ntmps8
    go_wp2_with (first | (go_at_call 18; refine (Long_yes _ _ _ _ hn).mono ?_; rintro e w' ⟨rfl, rfl⟩) | (go_at_call 19; refine (known_any _).mono ?_; rintro e w1 ⟨rfl, hb⟩))
    go_ret
    exact ⟨rfl, hb⟩
  · have hn' : n ≤ 100 := by omega
    by_cases hmn : m = n
    · subst hmn
      have HL := hide hl
      clear h hl hn hy
      go_enter Try.func8, Try.ntmps8
      go_wp2_with (first | (go_at_call 18; refine (Long_no _ _ _ _ hn').mono ?_; rintro e w' ⟨rfl, rfl⟩))
      refine (Misfit_any _ _ _ xs _ HR.out (by omega)).mono ?_
      rintro e w1 ⟨rfl, b1⟩
      have z1 := b1.size
      by_cases he : errH xs = 0
      · obtain ⟨e1, e2, e3⟩ := errH_zero he
        have HE := hide he
        have hmv : misOr xs = rq (Mf xs xs.length) := by unfold misOr; rw [if_pos he]
        rw [hmv, he]
        have hmb := Mf_all e3 e2
        have HN := hide fun (hf : Fall ys xs.length) => whole_le (q := Mf xs xs.length) (Mf_bd e3) (nearest_le e3 (ys := ys) fun i hi => hf i hi)
        rw [HL.out] at e1 e2
        have O := hide e3
        obtain ⟨f1, f2, f3, f4⟩ := hmb
        rw [P9_12] at f4
        simp only [rq]
        clear hmv he e3
        generalize nu (Mf xs xs.length) = q1 at *
        generalize de (Mf xs xs.length) = q2 at *
        rw [HL.out] at HN
        obtain ⟨bx, ox, hx⟩ := HR.out
        obtain ⟨by2, oy, hy⟩ := HY.out
        obtain rfl := hx.at_ (by omega)
        obtain rfl := hy.at_ (by omega)
        have RX := hide (hx.below (b1.alloc z1 (.cells #[.int .i64 q1, .int .i64 q2] 26)) (Nat.le_refl _))
        have RY := hide (hy.below (b1.alloc z1 (.cells #[.int .i64 q1, .int .i64 q2] 26)) (Nat.le_refl _))
        have B1 := b1.alloc z1 (.cells #[.int .i64 q1, .int .i64 q2] 26)
        have K1 := hide (Bk.born w1 26 #[.int .i64 q1, .int .i64 q2])
        clear hx hy HR HY b1
        go_wp2_with fail
        go_loopw [7, 8] (fun s t wr => ∃ i : Nat, i ≤ m ∧ s = .int .i64 (sN xs ys i) ∧ t = .int .i64 i ∧ Hid (Fall ys i) ∧ Hid (SmallTo ys i) ∧ RowAt wr (some ⟨bx, ox, none⟩) m c xs bx ox ∧ IRowAt wr (some ⟨by2, oy, none⟩) m cc ys by2 oy ∧ Bk wr w1.heap.size 26 #[.int .i64 q1, .int .i64 q2] ∧ Below w.heap.size w wr) (fun _ t _ => m - (intOf t).toNat)
        case atStart => exact ⟨0, Nat.zero_le _, rfl, rfl, hide fun k hk => by omega, hide fun k hk => by omega, RX.out, RY.out, K1.out, B1⟩
        case round =>
          -- round
          obtain ⟨i, hi, rfl, rfl, hf, hs, hx, hy, hk, hbel⟩ := hrel
          have K := hide hk
          have RX2 := hide hx
          have RY2 := hide hy
          have hmc := hx.cap
          have hmx := hx.max
          have hmcc := hy.cap
          have hmy := hy.max
          have sb := sN_bd O.out (ys := ys) (k := i) (by rw [HL.out]; exact hi) hs.out
          by_cases hlt : i < m
          · obtain ⟨c1, c2⟩ := hx.cell i hlt
            have d1 := hy.cell i hlt
            have dp := hy.cell (i - 1) (by omega)
            obtain ⟨v0, v1, u0, u1⟩ := okH_get O.out (i := i) (by rw [HL.out]; exact hlt)
            have HSU := hide (sN_succ xs ys i)
            have HFA : Hid (i = 0 ∨ yI ys i ≤ yI ys (i - 1) → Fall ys (i + 1)) := hide fun h k hk' => by
              by_cases hki : k + 1 = i
              · rcases h with h | h
                · omega
                · subst hki
                  simpa using h
              · exact hf.out k (by omega)
            have HSM : Hid (0 ≤ yI ys i ∧ yI ys i ≤ 1000 → SmallTo ys (i + 1)) := hide fun h k hk' => by
              by_cases hki : k = i
              · rw [hki]; exact h
              · exact hs.out k (by omega)
            have l0 : (0 : Int) ≤ i := by omega
            have l1 : (i : Int) < m := by omega
            rw [show (xs.getD i (0, 0)).1 = vI xs i from rfl] at c1
            rw [show (xs.getD i (0, 0)).2 = wI xs i from rfl] at c2
            rw [show ys.getD i 0 = yI ys i from rfl] at d1
            rw [show ys.getD (i - 1) 0 = yI ys (i - 1) from rfl] at dp
            have HV : Hid ((xs.getD i (0, 0)).1 = vI xs i) := hide rfl
            have HU : Hid ((xs.getD i (0, 0)).2 = wI xs i) := hide rfl
            have HYI : Hid (ys.getD i 0 = yI ys i) := hide rfl
            clear hx hy hk HN
            generalize vI xs i = v at *
            generalize wI xs i = u at *
            generalize yI ys i = y at *
            generalize yI ys (i - 1) = yp at *
            generalize sN xs ys i = S at *
            go_wp2_with fail
            by_cases y0 : y < 0
            · have g1 : decide (y < 0) = true := by simpa using y0
              go_quiet (fail)
              go_wp2_with (first | (go_at_call 19; refine (known_any _).mono ?_; rintro e w7 ⟨rfl, hb7⟩))
              go_ret
              exact ⟨rfl, (below_drewN hbel _).trans (hb7.mono (below_drewN hbel _).size)⟩
            · have g1 : decide (y < 0) = false := by simpa using y0
              by_cases y1 : 1000 < y
              · have g2 : decide (1000 < y) = true := by simpa using y1
                go_quiet (fail)
                go_wp2_with (first | (go_at_call 19; refine (known_any _).mono ?_; rintro e w7 ⟨rfl, hb7⟩))
                go_ret
                exact ⟨rfl, (below_drewN hbel _).trans (hb7.mono (below_drewN hbel _).size)⟩
              · have g2 : decide (1000 < y) = false := by simpa using y1
                have SM := hide (HSM.out ⟨by omega, by omega⟩)
                have e1 : -1000 ≤ v - y := by omega
                have e2 : v - y ≤ 100 := by omega
                have e3 : -9000 ≤ u * (v - y) ∧ u * (v - y) ≤ 900 := by
                  have a1 : u * (v - y) ≤ u * 100 := Int.mul_le_mul_of_nonneg_left e2 (by omega)
                  have a2 : u * (-1000) ≤ u * (v - y) := Int.mul_le_mul_of_nonneg_left e1 (by omega)
                  omega
                have e4 : 0 ≤ u * (v - y) * (v - y) ∧ u * (v - y) * (v - y) ≤ 9000000 := by
                  have q0 : 0 ≤ (v - y) * (v - y) := by
                    rcases Int.le_total 0 (v - y) with hd | hd
                    · exact Int.mul_nonneg hd hd
                    · exact Int.mul_nonneg_of_nonpos_of_nonpos hd hd
                  have q1 : (v - y) * (v - y) ≤ 1000 * 1000 := by
                    rcases Int.le_total 0 (v - y) with hd | hd
                    · exact Int.mul_le_mul (by omega) (by omega) hd (by omega)
                    · have : (-(v - y)) * (-(v - y)) ≤ 1000 * 1000 := Int.mul_le_mul (by omega) (by omega) (by omega) (by omega)
                      rw [Int.neg_mul_neg] at this
                      exact this
                  rw [Int.mul_assoc]
                  have m1 : u * ((v - y) * (v - y)) ≤ 9 * (1000 * 1000) := Int.mul_le_mul (by omega) q1 q0 (by omega)
                  have m0 : 0 ≤ u * ((v - y) * (v - y)) := Int.mul_nonneg (by omega) q0
                  omega
                have hw1 : IntKind.i64.wrap (v - y) = v - y := IntWalk.i64_in _ (by omega)
                have hw2 : IntKind.i64.wrap (u * (v - y)) = u * (v - y) := IntWalk.i64_in _ (by omega)
                have hw3 : IntKind.i64.wrap (u * (v - y) * (v - y)) = u * (v - y) * (v - y) := IntWalk.i64_in _ (by omega)
                have hw4 : IntKind.i64.wrap (S + u * (v - y) * (v - y)) = S + u * (v - y) * (v - y) := IntWalk.i64_in _ (by omega)
                by_cases i0 : i = 0
                · have g0 : decide ((0 : Int) < (i : Int)) = false := by simp; omega
                  have g0' : decide (0 < i) = false := by simp; omega
                  have FA := hide (HFA.out (.inl i0))
                  clear i0
                  go_quiet (fail)
                  go_wp2_with fail
                  clear g0 g0' g1 g2
                  have hbel3 := below_drewN hbel nq
                  have RX3 := hide (RX2.out.below (below_drewN (Below.refl wr.heap.size wr) nq) (Nat.le_refl _))
                  have RY3 := hide (RY2.out.below (below_drewN (Below.refl wr.heap.size wr) nq) (Nat.le_refl _))
                  have K3 := hide (K.out.draws nq)
                  clear c1 c2 d1 dp hbel RX2 RY2 K
                  generalize wr.drewN nq = w3 at *
                  obtain ⟨c1, c2⟩ := RX3.out.cell i hlt
                  have d1 := RY3.out.cell i hlt
                  rw [HV.out] at c1
                  rw [HU.out] at c2
                  rw [HYI.out] at d1
                  go_quiet (fail)
                  go_wp2_with fail
                  go_roundw
                  case rel => exact ⟨i + 1, by omega, by rw [HSU.out], by go_num, FA, SM, RX3.out.below (below_drewN (Below.refl w3.heap.size w3) _) (Nat.le_refl _), RY3.out.below (below_drewN (Below.refl w3.heap.size w3) _) (Nat.le_refl _), K3.out.draws _, below_drewN hbel3 _⟩
                  case measure => simp [intOf]; omega
                · have g0 : decide ((0 : Int) < (i : Int)) = true := by simp; omega
                  have g0' : decide (0 < i) = true := by simp; omega
                  have l2 : (0 : Int) ≤ (i : Int) - 1 := by omega
                  have l4 : (i : Int) - 1 < m := by omega
                  have l3 : ((i : Int) - 1).toNat = i - 1 := by omega
                  have hw0 : IntKind.i64.wrap ((i : Int) - 1) = (i : Int) - 1 := IntWalk.i64_in _ (by omega)
                  by_cases y2 : yp < y
                  · have g3 : decide (yp < y) = true := by simpa using y2
                    go_quiet (fail)
                    go_wp2_with (first | (go_at_call 19; refine (known_any _).mono ?_; rintro e w7 ⟨rfl, hb7⟩))
                    go_ret
                    exact ⟨rfl, (below_drewN hbel _).trans (hb7.mono (below_drewN hbel _).size)⟩
                  · have g3 : decide (yp < y) = false := by simpa using y2
                    have FA := hide (HFA.out (.inr (by omega)))
                    go_quiet (fail)
                    go_wp2_with fail
                    clear g0 g0' g1 g2 g3 hw0
                    have hbel3 := below_drewN hbel nq
                    have RX3 := hide (RX2.out.below (below_drewN (Below.refl wr.heap.size wr) nq) (Nat.le_refl _))
                    have RY3 := hide (RY2.out.below (below_drewN (Below.refl wr.heap.size wr) nq) (Nat.le_refl _))
                    have K3 := hide (K.out.draws nq)
                    clear c1 c2 d1 dp hbel RX2 RY2 K
                    generalize wr.drewN nq = w3 at *
                    obtain ⟨c1, c2⟩ := RX3.out.cell i hlt
                    have d1 := RY3.out.cell i hlt
                    rw [HV.out] at c1
                    rw [HU.out] at c2
                    rw [HYI.out] at d1
                    go_quiet (fail)
                    go_wp2_with fail
                    go_roundw
                    case rel => exact ⟨i + 1, by omega, by rw [HSU.out], by go_num, FA, SM, RX3.out.below (below_drewN (Below.refl w3.heap.size w3) _) (Nat.le_refl _), RY3.out.below (below_drewN (Below.refl w3.heap.size w3) _) (Nat.le_refl _), K3.out.draws _, below_drewN hbel3 _⟩
                    case measure => simp [intOf]; omega
          · obtain rfl : i = m := by omega
            have hfin := HN.out hf.out
            obtain ⟨k0, k1, _, _, _⟩ := hk.two
            have t0 : 0 ≤ Int.tdiv q1 q2 := Int.tdiv_nonneg (by omega) (by omega)
            have t1 : Int.tdiv q1 q2 ≤ q1 := by
              rw [Int.tdiv_eq_ediv_of_nonneg (by omega)]
              exact Int.ediv_le_self _ (by omega)
            have t2 : IntKind.i64.wrap (Int.tdiv q1 q2) = Int.tdiv q1 q2 := IntWalk.i64_in _ (by omega)
            have t3 : ¬ q2 = 0 := by omega
            have t4 : (q2 == 0) = false := by simpa using t3
            clear hx hy hk HN RX2 RY2
            generalize sN xs ys i = S at *
            rcases hfin with hfin | ⟨hfin, hrem⟩
            · have g1 : decide (Int.tdiv q1 q2 < S) = true := by simpa using hfin
              go_wp2_with (first | (go_at_call 19; refine (known_any _).mono ?_; rintro e w7 ⟨rfl, hb7⟩))
              go_ret
              exact ⟨rfl, hbel.trans (hb7.mono hbel.size)⟩
            · subst hfin
              have g1 : decide (Int.tdiv q1 q2 < Int.tdiv q1 q2) = false := by simp
              have t5 : IntKind.i64.wrap (Int.tmod q1 q2) = Int.tmod q1 q2 := IntWalk.i64_in _ (by omega)
              go_wp2_with (first | (go_at_call 19; refine (known_any _).mono ?_; rintro e w7 ⟨rfl, hb7⟩))
              go_ret
              exact ⟨rfl, hbel.trans (hb7.mono hbel.size)⟩
      · have he' := errH_ne he
        have hmv : misOr xs = (0, 0) := by unfold misOr; rw [if_neg he]
        rw [hmv]
        generalize errH xs = ev at *
        clear hmv
        go_wp2_with (first | (go_at_call 19; refine (known_any _).mono ?_; rintro e w2 ⟨rfl, hb⟩))
        go_ret
        exact ⟨rfl, (b1.alloc z1 _).trans (hb.mono (by simp; omega))⟩
    · have hmn' : ((m : Int) != (n : Int)) = true := by simp; omega
      clear h hl hn hy
      go_enter Try.func8, Try.ntmps8
      go_wp2_with (first | (go_at_call 18; refine (Long_no _ _ _ _ hn').mono ?_; rintro e w' ⟨rfl, rfl⟩) | (go_at_call 19; refine (known_any _).mono ?_; rintro e w1 ⟨rfl, hb⟩))
      go_ret
      exact ⟨rfl, hb⟩

end Go.Proofs.Ytlmmkaadoicogaa
