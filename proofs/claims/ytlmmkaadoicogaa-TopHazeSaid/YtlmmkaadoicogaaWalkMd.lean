/- The walk of the document's own Misfit. -/
import Derived.Test.YtlmmkaadoicogaaWalkBd
import Derived.Test.YtlmmkaadoicogaaWalkMf
namespace Go.Proofs.Ytlmmkaadoicogaa
open Go.RowKit

theorem runs_get {l : List Rn} {k : Nat} {r : Rn} (h : l[k]? = some r) : (l.map fun r => b4 (tri r)).getD k z4 = ((r.a : Int), (r.b : Int), nu (rt r.n r.d), de (rt r.n r.d)) := by
  rw [List.getD_eq_getElem?_getD, List.getElem?_map, h]
  rfl

set_option maxRecDepth 100000 in
set_option maxHeartbeats 8000000 in
theorem rMisfit_any (A : Option Addr) (n c : Nat) (xs : Rd) (w : World) (h : Row w A n c xs) (hn2 : n ≤ 1000) :
    Calls Try.prog 29 #[.slice A n c] w (RatPost xs (misOr xs) (errH xs) w) := by
  have HR := hide h
  have hl := h.length
  have K0 := hide (Bk.born w 26 #[.int .i64 0, .int .i64 0])
  have B0 := hide ((Below.refl w.heap.size w).alloc (Nat.le_refl _) (.cells #[.int .i64 0, .int .i64 0] 26))
  by_cases he : errH xs = 0
  case neg =>
    have he' := errH_ne he
    have hv : misOr xs = (0, 0) := by unfold misOr; rw [if_neg he]
    rw [hv]
    clear h hl hv
    go_enter Try.func29, Try.ntmps29
    go_wp2_with fail
    refine (rBlocks_any _ _ _ xs _ (HR.out.below B0.out (Nat.le_refl _)) (by omega)).mono ?_
    rintro e w1 ⟨A1, m1, c1, rfl, o1, b1⟩
    have B1 := hide (B0.out.trans (b1.mono B0.out.size))
    have K1 := hide (K0.out.keep b1 K0.out.in_)
    clear o1 b1
    obtain ⟨k0, k1, f0, f1, hsz⟩ := K1.out.two
    obtain ⟨q1, q2, q3⟩ := K1.out.res2 (.int .i64 0) (.int .i64 0)
    go_wp2_with fail
    refine bodyPost_ret (v := .tuple #[.agg #[.int .i64 0, .int .i64 0], .int .i64 (errH xs)]) (by simp [results, Try.results29, go_sem, q2, q3]) rfl ⟨rfl, ?_⟩
    exact (B1.out.setCell (by simp) _).setCell (by simp) _
  obtain ⟨e1, e2, e3⟩ := errH_zero he
  have hn1 : 1 ≤ n := by omega
  have hn12 : n ≤ 12 := by omega
  have hv : misOr xs = rq (Mf xs n) := by unfold misOr; rw [if_pos he, hl]
  obtain ⟨st, hst⟩ := stk_exists e3 xs.length (Nat.le_refl _)
  obtain ⟨l, hlr⟩ : ∃ l, l = st.reverse := ⟨_, rfl⟩
  have hst' : Stk xs l.reverse xs.length := by rw [hlr, List.reverse_reverse]; exact hst
  have HBK := hide (blocks_runs e3 hst')
  have hsq := sq_of_stk hst'
  rw [List.reverse_reverse, rowS_best e3 hst', hl] at hsq
  have HSQ := hide hsq
  have HE := hide he
  have HL := hide hl
  have O := hide e3
  rw [hv, he]
  clear h he e1 e2 hl e3 hsq hst hst' hlr hv st
  go_enter Try.func29, Try.ntmps29
  go_wp2_with fail
  refine (rBlocks_any _ _ _ xs _ (HR.out.below B0.out (Nat.le_refl _)) (by omega)).mono ?_
  rintro e w1 ⟨A1, m, c1, rfl, o1, b1⟩
  rw [if_pos HE.out, HBK.out] at o1
  rw [HE.out]
  have B1 := hide (B0.out.trans (b1.mono B0.out.size))
  have K1 := hide (K0.out.keep b1 K0.out.in_)
  have R4 := hide o1.row
  have HLM := hide (show l.length = m by have := o1.len; rwa [List.length_map] at this)
  have RX := hide (HR.out.below B1.out (Nat.le_refl _))
  clear o1 b1 B0 K0
  go_wp2_with fail
  go_loopw [7] (fun s wr => ∃ k i : Nat, k ≤ m ∧ s = .int .i64 k ∧ Sq xs (bestR xs) (l.drop k) i n ∧ MR (Mf xs i) i ∧ Bk wr w1.heap.size 26 #[.int .i64 (nu (Mf xs i)), .int .i64 (de (Mf xs i))] ∧ Below w1.heap.size w1 wr) (fun s _ => m - (intOf s).toNat)
  case atStart => exact ⟨0, 0, Nat.zero_le _, rfl, HSQ.out, MR_zero, Bk.born w1 26 #[.int .i64 0, .int .i64 1], (Below.refl w1.heap.size w1).alloc (Nat.le_refl _) _⟩
  case round =>
    obtain ⟨k, i, hk, rfl, hsq, hmr, ht, hbel⟩ := hrel
    have T := hide ht
    have HB := hide hbel
    have hsz1 := hbel.size
    clear ht hbel
    by_cases hlt : k < m
    · have hlt' : k < l.length := by rw [HLM.out]; exact hlt
      rw [List.drop_eq_getElem_cons hlt'] at hsq
      have hgetk : l[k]? = some l[k] := List.getElem?_eq_getElem hlt'
      generalize l[k] = r at hsq hgetk
      obtain ⟨hra', hgood, hval, hsq'⟩ := hsq
      subst hra'
      have HG4 := hide (runs_get hgetk)
      have hbd := hgood.bd O.out (by rw [HL.out]; exact hn12)
      have hle := hgood.le
      have hltb : r.b < n := by have := hgood.lt; rw [HL.out] at this; exact this
      have HNUM := hide hgood.num
      have HDEN := hide hgood.den
      have hmrun := run_MR O.out hgood (fun j h1 h2 => hval j h1 h2)
      have hsumM := Mf_run O.out hgood (fun j h1 h2 => hval j h1 h2)
      have hnn := run_nonneg O.out hgood (fun j h1 h2 => hval j h1 h2)
      have qbd := qS_bd O.out (a := r.a) (b := r.b + 1) (by omega) (by rw [HL.out]; omega)
      generalize hx : rt ((qS xs (r.b + 1) - qS xs r.a) * r.d - r.n * r.n) r.d = x at *
      have HX := hide hx
      clear hx
      have hij : r.a + (r.b + 1 - r.a) ≤ 12 := by omega
      have hadd : Mf xs r.a + x = Mf xs (r.b + 1) := by rw [← hsumM]; grind
      have hnext : MR (Mf xs (r.b + 1)) (r.b + 1) := by
        have := hmr.add hmrun hij
        rw [hadd, show r.a + (r.b + 1 - r.a) = r.b + 1 by omega] at this
        exact this
      obtain ⟨p1, p2, p3, p4, p5, p6, _⟩ := MB.mul (hmr.mb (by omega)) (hmrun.mb (by omega)) hij
      have hrad := rt_add (Mf xs r.a) x
      rw [hadd] at hrad
      have HRAD := hide hrad
      have HNX := hide hnext
      have HSQ' := hide hsq'
      have HRG := hide (fun j (h1 : r.a ≤ j) (h2 : j ≤ r.b + 1) => show (0 ≤ nS xs j - nS xs r.a ∧ nS xs j - nS xs r.a ≤ 900 * ((j - r.a : Nat) : Int)) ∧ (0 ≤ dS xs j - dS xs r.a ∧ dS xs j - dS xs r.a ≤ 9 * ((j - r.a : Nat) : Int)) ∧ (0 ≤ qS xs j - qS xs r.a ∧ qS xs j - qS xs r.a ≤ 90000 * ((j - r.a : Nat) : Int)) from
        ⟨nS_bd O.out h1 (by rw [HL.out]; omega), by have := dS_bd O.out h1 (show j ≤ xs.length by rw [HL.out]; omega); omega, qS_bd O.out h1 (by rw [HL.out]; omega)⟩)
      clear hsq' hval hgetk hgood hmrun hsumM hadd hnext hmr hrad HSQ
      obtain ⟨bL, oL, z1⟩ := R4.out
      obtain rfl := z1.at_ (by omega)
      have v1 := z1.cap
      have v2 := z1.max
      have u1 := z1.below HB.out (Nat.le_refl _)
      obtain ⟨c0, c1', _, _⟩ := u1.cell k hlt
      rw [HG4.out] at c0 c1'
      simp only at c0 c1'
      have sL := u1.lt (by omega)
      obtain ⟨bX, oX, zx⟩ := RX.out
      obtain rfl := zx.at_ (by omega)
      have v3 := zx.cap
      have v4 := zx.max
      have ux := zx.below HB.out (Nat.le_refl _)
      have sX := ux.lt (by omega)
      have UX := hide ux
      clear z1 u1 zx ux
      have l2 : (k : Int) < m := by omega
      go_wp2_with fail
      go_loopw [8, 9, 10, 11] (fun sa ss sq si wi => ∃ j q : Nat, r.a ≤ j ∧ j ≤ r.b + 1 ∧ si = .int .i64 j ∧ sa = .int .i64 (dS xs j - dS xs r.a) ∧ ss = .int .i64 (nS xs j - nS xs r.a) ∧ sq = .int .i64 (qS xs j - qS xs r.a) ∧ wi = wr.drewN q) (fun _ _ _ si _ => r.b + 1 - (intOf si).toNat)
      case atStart => exact ⟨r.a, 0, Nat.le_refl _, by omega, rfl, by simp, by simp, by simp, rfl⟩
      case round =>
        obtain ⟨j, q, hj1, hj2, rfl, rfl, rfl, rfl, rfl⟩ := hrel
        by_cases hjb : j ≤ r.b
        · obtain ⟨d0, d1⟩ := UX.out.cell j (by omega)
          obtain ⟨x0, x1, x2, x3⟩ := okH_get O.out (i := j) (by rw [HL.out]; omega)
          obtain ⟨g1, g2, g3⟩ := HRG.out j hj1 (by omega)
          obtain ⟨g4, g5, g6⟩ := HRG.out (j + 1) (by omega) (by omega)
          rw [nS_succ] at g4
          rw [dS_succ] at g5
          rw [qS_succ] at g6
          have HN := hide (nS_succ xs j)
          have HD := hide (dS_succ xs j)
          have HQ := hide (qS_succ xs j)
          rw [show (xs.getD j (0, 0)).1 = vI xs j from rfl] at d0
          rw [show (xs.getD j (0, 0)).2 = wI xs j from rfl] at d1
          generalize nS xs j = N0 at *
          generalize dS xs j = D0 at *
          generalize qS xs j = Q0 at *
          generalize vI xs j = v at *
          generalize wI xs j = u at *
          have m0 : 0 ≤ u * v := Int.mul_nonneg (by omega) (by omega)
          have m1 : u * v ≤ 9 * 100 := Int.mul_le_mul (by omega) (by omega) (by omega) (by omega)
          have m2 : 0 ≤ u * v * v := Int.mul_nonneg m0 (by omega)
          have m3 : u * v * v ≤ 900 * 100 := Int.mul_le_mul (by omega) (by omega) (by omega) (by omega)
          have w1 : IntKind.i64.wrap (D0 - dS xs r.a + u) = D0 + u - dS xs r.a := by rw [show D0 - dS xs r.a + u = D0 + u - dS xs r.a by omega]; exact IntWalk.i64_in _ (by omega)
          have w2 : IntKind.i64.wrap (u * v) = u * v := IntWalk.i64_in _ (by omega)
          have w3 : IntKind.i64.wrap (N0 - nS xs r.a + u * v) = N0 + u * v - nS xs r.a := by rw [show N0 - nS xs r.a + u * v = N0 + u * v - nS xs r.a by omega]; exact IntWalk.i64_in _ (by omega)
          have w4 : IntKind.i64.wrap (u * v * v) = u * v * v := IntWalk.i64_in _ (by omega)
          have w5 : IntKind.i64.wrap (Q0 - qS xs r.a + u * v * v) = Q0 + u * v * v - qS xs r.a := by rw [show Q0 - qS xs r.a + u * v * v = Q0 + u * v * v - qS xs r.a by omega]; exact IntWalk.i64_in _ (by omega)
          have l3 : (j : Int) ≤ r.b := by omega
          have l4 : (j : Int) < n := by omega
          clear m0 m1 m2 m3 g1 g2 g3 g4 g5 g6 p1 p2 p3 p4 p5 p6 qbd hnn
          go_wp2_with fail
          go_quiet (fail)
          go_wp2_with fail
          go_quiet (fail)
          clear w1 w2 w3 w4 w5
          go_wp2_with fail
          go_roundw
          case rel => exact ⟨j + 1, _, by omega, by omega, by go_num, by rw [HD.out], by rw [HN.out], by rw [HQ.out], rfl⟩
          case measure => simp [intOf]; omega
        · obtain rfl : j = r.b + 1 := by omega
          have l3 : ¬ (r.b : Int) + 1 ≤ r.b := by omega
          rw [← HNUM.out, ← HDEN.out]
          generalize hQ : qS xs (r.b + 1) - qS xs r.a = Q at *
          obtain ⟨y1, y2, y3, y4⟩ := hbd
          have m1 : Q * r.d ≤ 1080000 * 108 := Int.mul_le_mul (by omega) (by omega) (by omega) (by omega)
          have m2 : 0 ≤ Q * r.d := Int.mul_nonneg (by omega) (by omega)
          have m3 : r.n * r.n ≤ 10800 * 10800 := Int.mul_le_mul (by omega) (by omega) (by omega) (by omega)
          have m4 : 0 ≤ r.n * r.n := Int.mul_nonneg (by omega) (by omega)
          have w1 : IntKind.i64.wrap (Q * r.d) = Q * r.d := IntWalk.i64_in _ (by omega)
          have w2 : IntKind.i64.wrap (r.n * r.n) = r.n * r.n := IntWalk.i64_in _ (by omega)
          have w3 : IntKind.i64.wrap (Q * r.d - r.n * r.n) = Q * r.d - r.n * r.n := IntWalk.i64_in _ (by omega)
          have HRT := hide (fun W => Ratio_any (Q * r.d - r.n * r.n) r.d W (by omega) (by omega) y1 (by omega))
          rw [HX.out] at HRT
          have HR2 := hide (fun W => Ratio_any (nu (Mf xs r.a) * de x + nu x * de (Mf xs r.a)) (de (Mf xs r.a) * de x) W (by omega) (by omega) p5 (by omega))
          rw [HRAD.out] at HR2
          have w4 : IntKind.i64.wrap (nu (Mf xs r.a) * de x) = nu (Mf xs r.a) * de x := IntWalk.i64_in _ (by omega)
          have w5 : IntKind.i64.wrap (nu x * de (Mf xs r.a)) = nu x * de (Mf xs r.a) := IntWalk.i64_in _ (by omega)
          have w6 : IntKind.i64.wrap (nu (Mf xs r.a) * de x + nu x * de (Mf xs r.a)) = nu (Mf xs r.a) * de x + nu x * de (Mf xs r.a) := IntWalk.i64_in _ (by omega)
          have w7 : IntKind.i64.wrap (de (Mf xs r.a) * de x) = de (Mf xs r.a) * de x := IntWalk.i64_in _ (by omega)
          clear m1 m2 m3 m4 p1 p2 p3 p4 p5 p6 y1 y2 y3 y4 hQ hnn qbd
          generalize nu (Mf xs r.a) = a1 at *
          generalize de (Mf xs r.a) = a2 at *
          generalize nu x = x1 at *
          generalize de x = x2 at *
          generalize hy1 : nu (Mf xs (r.b + 1)) = y1 at *
          generalize hy2 : de (Mf xs (r.b + 1)) = y2 at *
          have HY1 := hide hy1
          have HY2 := hide hy2
          clear hy1 hy2
          go_wp2_with fail
          refine (HRT.out _).mono ?_
          rintro e w8 ⟨rfl, b8⟩
          have tin := T.out.in_
          have T8 := hide ((T.out.draws q).keep b8 tin)
          have B8 := hide ((below_drewN HB.out q).trans (b8.mono HB.out.size))
          have T9 := hide (T8.out.more (.cells #[.int .i64 x1, .int .i64 x2] 26))
          have X9 := hide (Bk.born w8 26 #[.int .i64 x1, .int .i64 x2])
          have B9 := hide (B8.out.alloc B8.out.size (.cells #[.int .i64 x1, .int .i64 x2] 26))
          clear b8 T8
          obtain ⟨t0, t1, _, _, _⟩ := T9.out.two
          obtain ⟨x0, x1', _, _, _⟩ := X9.out.two
          go_wp2_with fail
          refine (HR2.out _).mono ?_
          rintro e w10 ⟨rfl, b10⟩
          have TA := hide (T9.out.keep b10 T9.out.in_)
          have BA := hide (B9.out.trans (b10.mono B9.out.size))
          clear b10 t0 t1 x0 x1' w1 w2 w3 w4 w5 w6 w7
          obtain ⟨t0, t1, f0, f1, _⟩ := TA.out.two
          go_wp2_with fail
          go_roundw
          case rel => exact ⟨k + 1, r.b + 1, by omega, by go_num, HSQ'.out, HNX.out, by rw [HY1.out, HY2.out]; exact TA.out.set2, (BA.out.setCell (Nat.le_refl _) _).setCell (Nat.le_refl _) _⟩
          case measure => simp [intOf]; omega
    · obtain rfl : k = m := by omega
      have hd : l.drop k = [] := List.drop_eq_nil_of_le (by rw [HLM.out]; exact Nat.le_refl _)
      rw [hd] at hsq
      have hi : i = n := hsq
      subst hi
      have KZ := hide (K1.out.keep HB.out K1.out.in_)
      have BZ := hide (B1.out.trans (HB.out.mono B1.out.size))
      obtain ⟨t0, t1, _, _, _⟩ := T.out.two
      obtain ⟨k0, k1, f0, f1, _⟩ := KZ.out.two
      obtain ⟨q1, q2, q3⟩ := KZ.out.res2 (.int .i64 (nu (Mf xs i))) (.int .i64 (de (Mf xs i)))
      clear hsq hmr
      go_wp2_with fail
      refine bodyPost_ret (v := .tuple #[.agg #[.int .i64 (nu (Mf xs i)), .int .i64 (de (Mf xs i))], .int .i64 0]) (by simp [results, Try.results29, go_sem, q2, q3]) rfl ⟨rfl, ?_⟩
      exact (BZ.out.setCell (by simp) _).setCell (by simp) _

end Go.Proofs.Ytlmmkaadoicogaa
