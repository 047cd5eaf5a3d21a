/- Walks of Highest on both sides. -/
import Derived.Test.YtnngafndlgnclaaWalkH
namespace Go.Proofs.Ytnngafndlgnclaa
open Go.RowKit

theorem mean_pre {A : Option Addr} {n c : Nat} {xs : Rd} {b off : Nat} {w : World} (h : RowAt w A n c xs b off) (o : okH xs = true) (hn : n ≤ 12) {j m : Nat} (hj : j < n) (hm : m = j + 1) :
    Calls Try.prog 61 #[.slice (some ⟨b, off, none⟩) m c] w fun e w' => e = .returned (.agg #[.int .i64 (nS xs (j + 1)), .int .i64 (dS xs (j + 1))]) ∧ Below w.heap.size w w' := by
  have := mean_seg h o hn (i := 0) (j := j) (m := m) (cc := c) (Nat.zero_le _) hj (by omega) (by omega)
  rw [show nS xs 0 = 0 from rfl, show dS xs 0 = 0 from rfl, Int.sub_zero, Int.sub_zero, Nat.zero_mul, Nat.add_zero] at this
  exact this
/-- The greatest mean so far, as a pair that need not be in lowest terms. -/
def Acc (xs : Rd) (i k : Nat) (N D : Int) : Prop := rt N D = hiTo (vq xs) (wq xs) 0 i k ∧ 0 ≤ N ∧ N ≤ 10800 ∧ 1 ≤ D ∧ D ≤ 108
theorem pre_rt (xs : Rd) (j : Nat) : rt (nS xs (j + 1)) (dS xs (j + 1)) = mq xs 0 j := by
  unfold mq
  rw [mn_rt, show nS xs 0 = 0 from rfl, show dS xs 0 = 0 from rfl, Int.sub_zero, Int.sub_zero]
theorem pre_bd {xs : Rd} (o : okH xs = true) (hl : xs.length ≤ 12) {j : Nat} (hj : j < xs.length) : 0 ≤ nS xs (j + 1) ∧ nS xs (j + 1) ≤ 10800 ∧ 1 ≤ dS xs (j + 1) ∧ dS xs (j + 1) ≤ 108 := by
  have b1 := nS_bd o (a := 0) (b := j + 1) (by omega) (by omega)
  have b2 := dS_bd o (a := 0) (b := j + 1) (by omega) (by omega)
  rw [show nS xs 0 = 0 from rfl] at b1
  rw [show dS xs 0 = 0 from rfl] at b2
  omega
theorem acc_zero {xs : Rd} (o : okH xs = true) (hl : xs.length ≤ 12) {i : Nat} (hi : i < xs.length) : Acc xs i 0 (nS xs (i + 1)) (dS xs (i + 1)) := ⟨pre_rt xs i, pre_bd o hl hi⟩
theorem acc_up {xs : Rd} (o : okH xs = true) (hl : xs.length ≤ 12) {i k : Nat} {N D : Int} (h : Acc xs i k N D) (hk : i + k + 1 < xs.length) (hlt : N * dS xs (i + k + 1 + 1) < nS xs (i + k + 1 + 1) * D) :
    Acc xs i (k + 1) (nS xs (i + k + 1 + 1)) (dS xs (i + k + 1 + 1)) := by
  obtain ⟨h1, h2, h3, h4, h5⟩ := h
  have p := pre_bd o hl hk
  refine ⟨?_, p⟩
  have hst : hiTo (vq xs) (wq xs) 0 i (k + 1) = if lessB (hiTo (vq xs) (wq xs) 0 i k) (mq xs 0 (i + k + 1)) then mq xs 0 (i + k + 1) else hiTo (vq xs) (wq xs) 0 i k := rmax_step
  have hl' : lessB (hiTo (vq xs) (wq xs) 0 i k) (mq xs 0 (i + k + 1)) = true := by
    unfold lessB
    rw [← h1, ← pre_rt]
    exact decide_eq_true ((rt_lt (by omega) (by omega)).2 hlt)
  rw [hst, hl', if_pos rfl, pre_rt]
theorem acc_keep {xs : Rd} (o : okH xs = true) (hl : xs.length ≤ 12) {i k : Nat} {N D : Int} (h : Acc xs i k N D) (hk : i + k + 1 < xs.length) (hlt : nS xs (i + k + 1 + 1) * D ≤ N * dS xs (i + k + 1 + 1)) :
    Acc xs i (k + 1) N D := by
  obtain ⟨h1, h2, h3, h4, h5⟩ := h
  have p := pre_bd o hl hk
  refine ⟨?_, h2, h3, h4, h5⟩
  have hst : hiTo (vq xs) (wq xs) 0 i (k + 1) = if lessB (hiTo (vq xs) (wq xs) 0 i k) (mq xs 0 (i + k + 1)) then mq xs 0 (i + k + 1) else hiTo (vq xs) (wq xs) 0 i k := rmax_step
  have hl' : lessB (hiTo (vq xs) (wq xs) 0 i k) (mq xs 0 (i + k + 1)) = false := by
    unfold lessB
    rw [← h1, ← pre_rt]
    refine decide_eq_false (fun hh => ?_)
    have := (rt_lt (by omega) (by omega)).1 hh
    omega
  rw [hst, hl', h1]
  simp
/-- What Highest returns, both sides. -/
def hq (xs : Rd) (i : Nat) : Rat := hi (vq xs) (wq xs) xs.length 0 i
def hiOr (xs : Rd) (a : Int) : Int × Int := if errV xs [a] = 0 then rq (hq xs a.toNat) else (0, 0)
theorem errV_two (xs : Rd) (a : Int) : errV xs [a, a] = errV xs [a] := by unfold errV; simp

set_option maxHeartbeats 1000000 in
theorem rHighest_any (A : Option Addr) (n c : Nat) (xs : Rd) (a : Int) (w : World) (h : Row w A n c xs) (hn2 : n ≤ 1000) :
    Calls Try.prog 45 #[.slice A n c, .int .i64 a] w (RatPost xs (hiOr xs a) (errV xs [a]) w) := by
  have HR := hide h
  have hl := h.length
  by_cases he : errV xs [a] = 0
  · obtain ⟨h1, h2⟩ := errV_zero he
    have ha := h2 a (by simp)
    obtain ⟨e1, e2, e3⟩ := errH_zero h1
    have hn12 : n ≤ 12 := by omega
    rw [hl] at ha
    have hv : hiOr xs a = rq (hq xs a.toNat) := by unfold hiOr; rw [if_pos he]
    have HE := hide he
    have HL := hide hl
    rw [he, hv]
    clear h2 h1 he hl hv h
    obtain ⟨i, rfl⟩ : ∃ i : Nat, a = i := ⟨a.toNat, by omega⟩
    simp only [Int.toNat_natCast]
    have hh : hq xs i = hi (vq xs) (wq xs) n 0 i := by unfold hq; rw [HL.out]
    rw [hh]
    simp only [rq]
    clear hh
    go_enter Try.func45, Try.ntmps45
    go_wp2_with fail
    refine (houred_any _ _ _ xs _ _ _ (HR.out.alloc _) (by omega)).mono ?_
    rw [errV_two, HE.out]
    rintro e w1 ⟨rfl, rfl⟩
    go_wp2_with fail
    refine (highest_any _ _ _ xs 0 i _ (HR.out.alloc _) e3 hn12 (by omega) (by omega)).mono ?_
    rintro e w3 ⟨rfl, hb3⟩
    have hres3 := hide ((Bk.born w 26 #[.int .i64 0, .int .i64 0]).keep hb3 (by simp))
    have hbel3 : Below w.heap.size w w3 := ((Below.refl _ _).alloc (Nat.le_refl _) _).trans (hb3.mono (by simp))
    clear hb3
    generalize nu (hi (vq xs) (wq xs) n 0 i) = p1 at *
    generalize de (hi (vq xs) (wq xs) n 0 i) = p2 at *
    obtain ⟨k0, k1, f0, f1, hsz⟩ := hres3.out.two
    obtain ⟨q1, q2, q3⟩ := hres3.out.res2 (.int .i64 p1) (.int .i64 p2)
    go_wp2_with fail
    refine bodyPost_ret (v := .tuple #[.agg #[.int .i64 p1, .int .i64 p2], .int .i64 0]) (by simp [results, Try.results45, go_sem, q2, q3]) rfl ⟨rfl, ?_⟩
    exact (hbel3.setCell (by simp) _).setCell (by simp) _
  · have hv : hiOr xs a = (0, 0) := by unfold hiOr; rw [if_neg he]
    rw [hv]
    have he' : (errV xs [a] != 0) = true := by simp [he]
    generalize hee : errV xs [a] = ev at *
    have HEE := hide hee
    clear hv h hl hee he
    go_enter Try.func45, Try.ntmps45
    go_wp2_with fail
    refine (houred_any _ _ _ xs _ _ _ (HR.out.alloc _) (by omega)).mono ?_
    rw [errV_two, HEE.out]
    rintro e w1 ⟨rfl, rfl⟩
    go_wp2_with fail
    exact bodyPost_ret (v := .tuple #[.agg #[.int .i64 0, .int .i64 0], .int .i64 ev]) (by simp [results, Try.results45, go_sem]) rfl ⟨rfl, (by (repeat' (first | exact Below.refl _ _ | exact Nat.le_refl _ | refine Below.drew ?_ | refine below_drewN ?_ _ | refine Below.alloc ?_ ?_ _ | refine Below.setCell ?_ ?_ _)); all_goals (first | (simp; done) | (simp; omega)))⟩

set_option maxRecDepth 100000 in
set_option maxHeartbeats 4000000 in
theorem Highest_any (A : Option Addr) (n c : Nat) (xs : Rd) (a : Int) (w : World) (h : Row w A n c xs) (hn2 : n ≤ 1000) :
    Calls Try.prog 44 #[.slice A n c, .int .i64 a] w (RatPost xs (hiOr xs a) (errV xs [a]) w) := by
  have HR := hide h
  have hl := h.length
  by_cases he : errV xs [a] = 0
  · obtain ⟨h1, h2⟩ := errV_zero he
    have ha := h2 a (by simp)
    obtain ⟨e1, e2, e3⟩ := errH_zero h1
    have hn12 : n ≤ 12 := by omega
    rw [hl] at ha
    have hv : hiOr xs a = rq (hq xs a.toNat) := by unfold hiOr; rw [if_pos he]
    have HE := hide he
    have HL := hide hl
    have O := hide e3
    rw [he, hv]
    clear h2 h1 he hl hv e1 e2 e3
    obtain ⟨i, rfl⟩ : ∃ i : Nat, a = i := ⟨a.toNat, by omega⟩
    simp only [Int.toNat_natCast]
    have hh : hq xs i = hi (vq xs) (wq xs) n 0 i := by unfold hq; rw [HL.out]
    rw [hh]
    simp only [rq]
    clear hh
    obtain ⟨b, off, hr⟩ := h
    obtain rfl := hr.at_ (by omega)
    have hcap := hr.cap
    have hmax := hr.max
    have HRA := hide hr
    have hin : i < n := by omega
    have hix : i < xs.length := by rw [HL.out]; exact hin
    have hn12' : xs.length ≤ 12 := by rw [HL.out]; exact hn12
    have HZ := hide (acc_zero O.out hn12' hix)
    have hbd := pre_bd O.out hn12' hix
    clear hr ha
    go_enter Try.func44, Try.ntmps44
    go_wp2_with fail
    have hbk : Bk ((w.alloc (.cells #[.int .i64 0, .int .i64 0] 26)).alloc (.cells (ints [(i : Int)]).toArray 3)) (w.heap.size + 1) 3 (ints [(i : Int)]).toArray := by
      have := Bk.born (w.alloc (.cells #[.int .i64 0, .int .i64 0] 26)) 3 (ints [(i : Int)]).toArray
      simpa using this
    have HB := hide hbk
    clear hbk
    refine (validateHours_any _ _ _ xs _ 1 _ [(i : Int)] _ ((HR.out.alloc _).alloc _) (by omega) HB.out rfl (by omega)).mono ?_
    rw [HE.out]
    rintro e w1 ⟨rfl, hb1⟩
    have hres := hide (((Bk.born w 26 #[.int .i64 0, .int .i64 0]).more (.cells (ints [(i : Int)]).toArray 3)).keep hb1 (by simp; omega))
    have hbel : Below w.heap.size w w1 := (((Below.refl _ _).alloc (Nat.le_refl _) _).alloc (by simp) _).trans (hb1.mono (by simp; omega))
    have HRA1 := hide (HRA.out.below hbel (Nat.le_refl _))
    have hsz1 := hres.out.in_
    clear hb1 HB
    have x1 : (i : Int) + 1 ≤ n := by omega
    go_wp2_with fail
    refine (mean_pre HRA1.out O.out hn12 (j := i) hin (by omega)).mono ?_
    generalize nS xs (i + 1) = N0 at *
    generalize dS xs (i + 1) = D0 at *
    rintro e w2 ⟨rfl, hb2⟩
    have hres2 := hide (hres.out.keep hb2 hsz1)
    have hbel2 := hbel.trans (hb2.mono hbel.size)
    have hsz2 := hres2.out.in_
    clear hb2 hres hbel HRA1
    obtain ⟨wz, rfl⟩ : ∃ wo : World, wo = w2 := ⟨_, rfl⟩
    go_wp2_with fail
    go_loopw [8] (fun s wr => ∃ (k : Nat) (N D : Int), i + k < n ∧ s = .int .i64 ((i + k + 1 + 1 : Nat) : Int) ∧ Acc xs i k N D ∧ Bk wr w.heap.size 26 #[.int .i64 0, .int .i64 0] ∧
      Bk wr wz.heap.size 70 #[.int .i64 N, .int .i64 D] ∧ Below w.heap.size w wr) (fun s _ => n + 2 - (intOf s).toNat)
    case atStart => exact ⟨0, N0, D0, by omega, by go_num, HZ.out, hres2.out.more _, Bk.born _ _ _, hbel2.alloc hbel2.size _⟩
    case round =>
      obtain ⟨k, N, D, hk, rfl, hac, hres, hacc, hbel⟩ := hrel
      obtain ⟨k0, k1, f0, f1, hsz⟩ := hacc.two
      have HAC := hide hac
      have HRES := hide hres
      have HACC := hide hacc
      have RA := hide (HRA.out.below hbel (Nat.le_refl _))
      have hz2 := hres.in_
      obtain ⟨c1, c2, c3, c4, c5⟩ := hac
      clear hres hacc c1
      by_cases hlt : i + k + 1 < n
      · have hlx : i + k + 1 < xs.length := by rw [HL.out]; exact hlt
        have hp := pre_bd O.out hn12' hlx
        have UP := hide fun h => acc_up O.out hn12' HAC.out hlx h
        have KP := hide fun h => acc_keep O.out hn12' HAC.out hlx h
        have x2 : ((i + k + 1 + 1 : Nat) : Int) ≤ n := by omega
        clear HAC HZ
        go_wp2_with fail
        refine (mean_pre RA.out O.out hn12 (j := i + k + 1) hlt (by omega)).mono ?_
        generalize nS xs (i + k + 1 + 1) = N1 at *
        generalize dS xs (i + k + 1 + 1) = D1 at *
        rintro e w3 ⟨rfl, hb3⟩
        have hacc3 := hide (HACC.out.keep hb3 hsz)
        have hres3 := hide (HRES.out.keep hb3 hz2)
        have hbel3 := hbel.trans (hb3.mono hbel.size)
        clear k0 k1 f0 f1 HACC HRES RA hb3 hbel
        obtain ⟨k0, k1, f0, f1, hsz⟩ := hacc3.out.two
        go_wp2_with fail
        refine (compareRR_any _ _ _ _ _ (by omega) (by omega) (by omega) (by omega) (by omega) (by omega) (by omega) (by omega)).mono ?_
        rintro e w4 ⟨rfl, hb4⟩
        have hacc4 := hide ((hacc3.out.more (.cells #[.int .i64 N1, .int .i64 D1] 70)).keep hb4 (by simp; omega))
        have hres4 := hide ((hres3.out.more (.cells #[.int .i64 N1, .int .i64 D1] 70)).keep hb4 (by have := hres3.out.in_; simp; omega))
        have hnew4 := hide ((Bk.born w3 70 #[.int .i64 N1, .int .i64 D1]).keep hb4 (by simp))
        have hbel4 := (hbel3.alloc hbel3.size (.cells #[.int .i64 N1, .int .i64 D1] 70)).trans (hb4.mono (by have := hbel3.size; simp; omega))
        have hwz := hbel2.size
        have hne : wz.heap.size < w3.heap.size := hsz
        clear k0 k1 f0 f1 hsz hacc3 hres3 hbel3 hb4
        obtain ⟨k0, k1, f0, f1, hsz⟩ := hacc4.out.two
        obtain ⟨m0, m1, g0, g1, hsz2⟩ := hnew4.out.two
        by_cases hcm : N * D1 < N1 * D
        · have hz := cmp3_gt hcm
          have U := hide (UP.out hcm)
          generalize cmp3 (N1 * D) (N * D1) = z at *
          clear hcm UP KP
          go_wp2_with fail
          go_roundw
          case rel => exact ⟨k + 1, N1, D1, by omega, by go_num, U.out, (hres4.out.apart (by simp; omega) _).apart (by simp; omega) _, hacc4.out.set2, (hbel4.setCell (by simp; omega) _).setCell (by simp; omega) _⟩
          case measure => simp [intOf]; omega
        · have hz := cmp3_le (show N1 * D ≤ N * D1 by omega)
          have U := hide (KP.out (by omega))
          generalize cmp3 (N1 * D) (N * D1) = z at *
          clear hcm UP KP
          go_wp2_with fail
          go_roundw
          case rel => exact ⟨k + 1, N, D, by omega, by go_num, U.out, hres4.out, hacc4.out, hbel4⟩
          case measure => simp [intOf]; omega
      · obtain rfl : k = n - 1 - i := by omega
        have hfin : rt N D = hi (vq xs) (wq xs) n 0 i := HAC.out.1
        have HP1 : Hid (nu (hi (vq xs) (wq xs) n 0 i) = nu (rt N D)) := hide (by rw [hfin])
        have HP2 : Hid (de (hi (vq xs) (wq xs) n 0 i) = de (rt N D)) := hide (by rw [hfin])
        clear hfin HAC HZ
        go_wp2_with fail
        refine (lowest_any _ _ _ (by omega) (by omega) (by omega) (by omega)).mono ?_
        generalize nu (rt N D) = p1 at *
        generalize de (rt N D) = p2 at *
        rintro e w3 ⟨rfl, hb3⟩
        have hres3 := hide (HRES.out.keep hb3 hz2)
        have hbel3 := hbel.trans (hb3.mono hbel.size)
        obtain ⟨r0, r1, s0, s1, rsz⟩ := hres3.out.two
        obtain ⟨q1, q2, q3⟩ := hres3.out.res2 (.int .i64 p1) (.int .i64 p2)
        go_wp2_with fail
        refine bodyPost_ret (v := .tuple #[.agg #[.int .i64 p1, .int .i64 p2], .int .i64 0]) (by simp [results, Try.results44, go_sem, q2, q3]) rfl ⟨by simp only [HP1.out, HP2.out], ?_⟩
        exact (hbel3.setCell (by simp) _).setCell (by simp) _
  · have hv : hiOr xs a = (0, 0) := by unfold hiOr; rw [if_neg he]
    rw [hv]
    have he' : (errV xs [a] != 0) = true := by simp [he]
    generalize hee : errV xs [a] = ev at *
    have HEE := hide hee
    clear hv h hl hee he
    go_enter Try.func44, Try.ntmps44
    go_wp2_with fail
    have hbk : Bk ((w.alloc (.cells #[.int .i64 0, .int .i64 0] 26)).alloc (.cells (ints [a]).toArray 3)) (w.heap.size + 1) 3 (ints [a]).toArray := by
      have := Bk.born (w.alloc (.cells #[.int .i64 0, .int .i64 0] 26)) 3 (ints [a]).toArray
      simpa using this
    have HB := hide hbk
    clear hbk
    refine (validateHours_any _ _ _ xs _ 1 _ [a] _ ((HR.out.alloc _).alloc _) (by omega) HB.out rfl (by omega)).mono ?_
    rw [HEE.out]
    rintro e w1 ⟨rfl, hb1⟩
    have hres := hide (((Bk.born w 26 #[.int .i64 0, .int .i64 0]).more (.cells (ints [a]).toArray 3)).keep hb1 (by simp; omega))
    obtain ⟨k0, k1, f0, f1, hsz⟩ := hres.out.two
    have hbel : Below w.heap.size w w1 := (((Below.refl _ _).alloc (Nat.le_refl _) _).alloc (by simp) _).trans (hb1.mono (by simp; omega))
    obtain ⟨q1, q2, q3⟩ := hres.out.res2 (.int .i64 0) (.int .i64 0)
    go_wp2_with fail
    refine bodyPost_ret (v := .tuple #[.agg #[.int .i64 0, .int .i64 0], .int .i64 ev]) (by simp [results, Try.results44, go_sem, q2, q3]) rfl ⟨rfl, ?_⟩
    exact (hbel.setCell (by simp) _).setCell (by simp) _

end Go.Proofs.Ytnngafndlgnclaa
