/- Walks of Until on both sides, and of HazeUntil. -/
import Derived.Test.YtnngafndlgnclaaWalkP
namespace Go.Proofs.Ytnngafndlgnclaa
open Go.RowKit

def unB (xs : Rd) (num den : Int) (i : Nat) : Bool := decide (nu (rr xs i) * den ≤ num * de (rr xs i))
def unK (xs : Rd) (num den : Int) : Option Nat := (List.range xs.length).find? (unB xs num den)
def errUn (xs : Rd) (num den : Int) : Int := if errH xs = 0 then (if (1 ≤ den ∧ den ≤ 100) ∧ (0 ≤ num ∧ num ≤ 100 * den) then 0 else 1) else errH xs
def NoTo (xs : Rd) (num den : Int) (k : Nat) : Prop := ∀ j, j < k → unB xs num den j = false
theorem noTo_zero (xs : Rd) (num den : Int) : NoTo xs num den 0 := fun _ h => absurd h (Nat.not_lt_zero _)
theorem noTo_succ {xs : Rd} {num den : Int} {k : Nat} (h : NoTo xs num den k) (e : unB xs num den k = false) : NoTo xs num den (k + 1) := fun j hj => by
  by_cases hjk : j = k
  · subst hjk; exact e
  · exact h j (by omega)
theorem unK_some {xs : Rd} {num den : Int} {k : Nat} (h : NoTo xs num den k) (e : unB xs num den k = true) (hk : k < xs.length) : unK xs num den = some k := by
  unfold unK
  rw [List.find?_range_eq_some]
  exact ⟨e, List.mem_range.2 hk, fun j hj => by rw [h j hj]; rfl⟩
theorem unK_none {xs : Rd} {num den : Int} {n : Nat} (h : NoTo xs num den n) (hn : xs.length = n) : unK xs num den = none := by
  unfold unK
  rw [List.find?_eq_none]
  intro j hj
  rw [h j (by rw [← hn]; exact List.mem_range.1 hj)]
  simp
def unOr (xs : Rd) (num den : Int) : Option Nat := if errUn xs num den = 0 then unK xs num den else none
def markOf (o : Option Nat) : Value := .agg #[.bool o.isSome, .int .i64 ((o.getD 0 : Nat) : Int)]
def MarkPost (xs : Rd) (num den : Int) (w : World) (e : Ending) (w' : World) : Prop :=
  e = .returned (.tuple #[markOf (unOr xs num den), .int .i64 (errUn xs num den)]) ∧ Below w.heap.size w w'
theorem mark_bad {xs : Rd} {num den v : Int} {w w' : World} (he : errUn xs num den = v) (hv : v ≠ 0) (hb : Below w.heap.size w w') : MarkPost xs num den w (.returned (.tuple #[.agg #[.bool false, .int .i64 0], .int .i64 v])) w' := by
  subst he
  refine ⟨?_, hb⟩
  unfold unOr
  rw [if_neg hv]
  rfl
theorem mark_some {xs : Rd} {num den : Int} {k : Nat} {w w' : World} (he : errUn xs num den = 0) (hk : unK xs num den = some k) (hb : Below w.heap.size w w') : MarkPost xs num den w (.returned (.tuple #[.agg #[.bool true, .int .i64 k], .int .i64 0])) w' := by
  refine ⟨?_, hb⟩
  unfold unOr
  rw [if_pos he, hk, he]
  rfl
theorem mark_none {xs : Rd} {num den : Int} {w w' : World} (he : errUn xs num den = 0) (hk : unK xs num den = none) (hb : Below w.heap.size w w') : MarkPost xs num den w (.returned (.tuple #[.agg #[.bool false, .int .i64 0], .int .i64 0])) w' := by
  refine ⟨?_, hb⟩
  unfold unOr
  rw [if_pos he, hk, he]
  rfl
theorem errUn_bad {xs : Rd} {num den : Int} (h : errH xs ≠ 0) : errUn xs num den = errH xs := by unfold errUn; rw [if_neg h]
theorem errUn_arg {xs : Rd} {num den : Int} (h : errH xs = 0) (c : ¬ ((1 ≤ den ∧ den ≤ 100) ∧ (0 ≤ num ∧ num ≤ 100 * den))) : errUn xs num den = 1 := by unfold errUn; rw [if_pos h, if_neg c]
theorem errUn_ok {xs : Rd} {num den : Int} (h : errH xs = 0) (c : (1 ≤ den ∧ den ≤ 100) ∧ (0 ≤ num ∧ num ≤ 100 * den)) : errUn xs num den = 0 := by unfold errUn; rw [if_pos h, if_pos c]

set_option maxHeartbeats 400000 in
theorem compareQR_any (n d n' d' : Int) (w : World) (hn : 0 ≤ n) (hn2 : n ≤ 1000000) (hd : 0 ≤ d) (hd2 : d ≤ 1000000) (hn' : 0 ≤ n') (hn2' : n' ≤ 1000000) (hd' : 0 ≤ d') (hd2' : d' ≤ 1000000) :
    Calls Try.prog 74 #[.agg #[.int .i64 n, .int .i64 d], .agg #[.int .i64 n', .int .i64 d']] w fun e w' => e = .returned (.int .i64 (cmp3 (n * d') (n' * d))) ∧ Below w.heap.size w w' := by
  have m1 := mul_in hn hn2 hd' hd2'
  have m2 := mul_in hn' hn2' hd hd2
  go_enter Try.func74, Try.ntmps74
  go_wp2
  go_region
  all_goals
    go_wp2_with (go_at_call 83; refine (Compare_any _ _ _).mono ?_; rintro e w' ⟨rfl, rfl⟩)
    go_ret
    exact ⟨rfl, (by (repeat' (first | exact Below.refl _ _ | exact Nat.le_refl _ | refine Below.drew ?_ | refine below_drewN ?_ _ | refine Below.alloc ?_ ?_ _ | refine Below.setCell ?_ ?_ _)); all_goals (first | (simp; done) | (simp; omega)))⟩

set_option maxHeartbeats 2000000 in
theorem Until_any (A : Option Addr) (n c : Nat) (xs : Rd) (num den : Int) (w : World) (h : Row w A n c xs) (hn2 : n ≤ 1000) :
    Calls Try.prog 42 #[.slice A n c, .int .i64 num, .int .i64 den] w (MarkPost xs num den w) := by
  have HR := hide h
  have hl := h.length
  by_cases he : errH xs = 0
  · obtain ⟨e1, e2, e3⟩ := errH_zero he
    have hn1 : 1 ≤ n := by omega
    have hn12 : n ≤ 12 := by omega
    have HE := hide he
    have HL := hide hl
    have O := hide e3
    clear h hl he e1 e2 e3
    by_cases hc : (1 ≤ den ∧ den ≤ 100) ∧ (0 ≤ num ∧ num ≤ 100 * den)
    · have HU := hide (errUn_ok HE.out hc)
      obtain ⟨⟨d1, d2⟩, n1, n2⟩ := hc
      go_enter Try.func42, Try.ntmps42
      go_wp2_with fail
      refine (Validate_any _ _ _ xs _ (HR.out.alloc _) (by omega)).mono ?_
      rw [HE.out]
      rintro e w1 ⟨rfl, hb1⟩
      have K1 := hide ((Bk.born w 58 #[.bool false, .int .i64 0]).keep hb1 (by simp))
      have hbel1 : Below w.heap.size w w1 := ((Below.refl _ _).alloc (Nat.le_refl _) _).trans (hb1.mono (by simp))
      have HR1 := hide ((HR.out.below hbel1 (Nat.le_refl _)).alloc (.cells #[.int .i64 num, .int .i64 den] 70))
      clear hb1
      go_wp2_with fail
      have hbel2 := hbel1.alloc hbel1.size (.cells #[.int .i64 num, .int .i64 den] 70)
      refine (best_any _ _ _ xs _ HR1.out O.out hn1 hn12).mono ?_
      rintro e w2 ⟨A2, c2, rfl, hown, hb2⟩
      have K2 := hide ((K1.out.more (.cells #[.int .i64 num, .int .i64 den] 70)).keep hb2 (by have := K1.out.in_; simp; omega))
      have L2 := hide ((Bk.born w1 70 #[.int .i64 num, .int .i64 den]).keep hb2 (by simp))
      have hbel3 := hbel2.trans (hb2.mono hbel2.size)
      have hzw : w.heap.size < w1.heap.size := K1.out.in_
      obtain ⟨b, off, hr⟩ := hown.row
      obtain rfl := hr.at_ (by omega)
      have hcap := hr.cap
      have hmax := hr.max
      have RX := hide hr
      clear hown hb2 hbel1 hbel2 K1 HR1 hr
      have hnum : num ≤ 10000 := by omega
      go_wp2_with fail
      go_loopw [41] (fun s wr => ∃ i : Nat, i ≤ n ∧ s = .int .i64 i ∧ NoTo xs num den i ∧ Bk wr w.heap.size 58 #[.bool false, .int .i64 0] ∧ Bk wr w1.heap.size 70 #[.int .i64 num, .int .i64 den] ∧ RowAt wr (some ⟨b, off, none⟩) n c2 (best xs) b off ∧ Below w.heap.size w wr) (fun s _ => n - (intOf s).toNat)
      case atStart => exact ⟨0, Nat.zero_le _, rfl, noTo_zero _ _ _, K2.out, L2.out, RX.out, hbel3⟩
      case round =>
        obtain ⟨i, hi, rfl, hno, hk, hlm, hra, hbel⟩ := hrel
        have KK := hide hk
        have LL := hide hlm
        have RA := hide hra
        have NO := hide hno
        have hz1 := hk.in_
        have hz2 := hlm.in_
        obtain ⟨m0, m1, _, _, _⟩ := hlm.two
        by_cases hlt : i < n
        · have hix : i < xs.length := by rw [HL.out]; exact hlt
          obtain ⟨x1, x2⟩ := hra.cell i hlt
          rw [best_get xs hix] at x1 x2
          simp only at x1 x2
          obtain ⟨s1, s2, s3, s4⟩ := small_rr O.out (by rw [HL.out]; omega) hix
          have HSOME := hide fun h => unK_some (xs := xs) (num := num) (den := den) NO.out (k := i) h hix
          have HNEXT := hide fun h => noTo_succ (xs := xs) (num := num) (den := den) NO.out (k := i) h
          have hun : unB xs num den i = decide (nu (rr xs i) * den ≤ num * de (rr xs i)) := rfl
          have HUN := hide hun
          clear hk hlm hra hno hun
          generalize nu (rr xs i) = a1 at *
          generalize de (rr xs i) = a2 at *
          go_wp2_with fail
          refine (compareQR_any _ _ _ _ _ (by omega) (by omega) (by omega) (by omega) (by omega) (by omega) (by omega) (by omega)).mono ?_
          rintro e w4 ⟨rfl, hb4⟩
          have KK4 := hide ((KK.out.more (.cells #[.int .i64 a1, .int .i64 a2] 26)).keep hb4 (by simp; omega))
          have LL4 := hide ((LL.out.more (.cells #[.int .i64 a1, .int .i64 a2] 26)).keep hb4 (by simp; omega))
          have RA4 := hide ((RA.out.below ((Below.refl wr.heap.size wr).alloc (Nat.le_refl _) (.cells #[.int .i64 a1, .int .i64 a2] 26)) (Nat.le_refl _)).below hb4 (Nat.le_refl _))
          have hbel4 := (hbel.alloc hbel.size (.cells #[.int .i64 a1, .int .i64 a2] 26)).trans (hb4.mono (by have := hbel.size; simp; omega))
          clear KK LL RA hb4 m0 m1 x1 x2
          by_cases hcm : a1 * den ≤ num * a2
          · have hz := cmp3_le hcm
            have hs := HSOME.out (by rw [HUN.out]; simpa using hcm)
            have HS := hide hs
            generalize cmp3 (a1 * den) (num * a2) = z at *
            obtain ⟨k0, k1, f0, f1, _⟩ := KK4.out.two
            obtain ⟨q1, q2, q3⟩ := KK4.out.res2 (.bool true) (.int .i64 (i : Int))
            clear hs hcm
            go_wp2_with fail
            refine bodyPost_ret (v := .tuple #[.agg #[.bool true, .int .i64 (i : Int)], .int .i64 0]) (by simp [results, Try.results42, go_sem, q2, q3]) rfl ?_
            exact mark_some HU.out HS.out ((hbel4.setCell (by simp) _).setCell (by simp) _)
          · have hz := cmp3_gt (show num * a2 < a1 * den by omega)
            have hs := HNEXT.out (by rw [HUN.out]; simpa using hcm)
            have HS := hide hs
            generalize cmp3 (a1 * den) (num * a2) = z at *
            clear hs hcm
            go_wp2_with fail
            go_roundw
            case rel => exact ⟨i + 1, by omega, by go_num, HS.out, KK4.out, LL4.out, RA4.out, hbel4⟩
            case measure => simp [intOf]; omega
        · obtain rfl : i = n := by omega
          have HN := hide (unK_none NO.out HL.out)
          obtain ⟨k0, k1, f0, f1, _⟩ := KK.out.two
          obtain ⟨q1, q2, q3⟩ := KK.out.res2 (.bool false) (.int .i64 0)
          go_wp2_with fail
          refine bodyPost_ret (v := .tuple #[.agg #[.bool false, .int .i64 0], .int .i64 0]) (by simp [results, Try.results42, go_sem, q2, q3]) rfl ?_
          exact mark_none HU.out HN.out ((hbel.setCell (by simp) _).setCell (by simp) _)
    · have HU := hide (errUn_arg HE.out hc)
      have hcases : ¬ (1 ≤ den ∧ den ≤ 100) ∨ (1 ≤ den ∧ den ≤ 100 ∧ ¬ (0 ≤ num ∧ num ≤ 100 * den)) := by omega
      have HC := hide hcases
      clear hcases
      go_enter Try.func42, Try.ntmps42
      go_wp2_with fail
      refine (Validate_any _ _ _ xs _ (HR.out.alloc _) (by omega)).mono ?_
      rw [HE.out]
      rintro e w1 ⟨rfl, hb1⟩
      have K1 := hide ((Bk.born w 58 #[.bool false, .int .i64 0]).keep hb1 (by simp))
      have hbel1 : Below w.heap.size w w1 := ((Below.refl _ _).alloc (Nat.le_refl _) _).trans (hb1.mono (by simp))
      clear hb1
      obtain ⟨k0, k1, f0, f1, hsz⟩ := K1.out.two
      obtain ⟨q1, q2, q3⟩ := K1.out.res2 (.bool false) (.int .i64 0)
      go_wp2_with fail
      all_goals first
        | (exfalso; omega)
        | (refine bodyPost_ret (v := .tuple #[.agg #[.bool false, .int .i64 0], .int .i64 1]) (by simp [results, Try.results42, go_sem, q2, q3]) rfl ?_
           exact mark_bad HU.out (by omega) ((hbel1.setCell (by simp) _).setCell (by simp) _))
  · have he' := errH_ne he
    have HE := hide he
    clear h hl
    go_enter Try.func42, Try.ntmps42
    go_wp2_with fail
    refine (Validate_any _ _ _ xs _ (HR.out.alloc _) (by omega)).mono ?_
    rintro e w1 ⟨rfl, hb1⟩
    have K1 := hide ((Bk.born w 58 #[.bool false, .int .i64 0]).keep hb1 (by simp))
    have hbel1 : Below w.heap.size w w1 := ((Below.refl _ _).alloc (Nat.le_refl _) _).trans (hb1.mono (by simp))
    clear hb1
    obtain ⟨k0, k1, f0, f1, hsz⟩ := K1.out.two
    obtain ⟨q1, q2, q3⟩ := K1.out.res2 (.bool false) (.int .i64 0)
    go_wp2_with fail
    refine bodyPost_ret (v := .tuple #[.agg #[.bool false, .int .i64 0], .int .i64 (errH xs)]) (by simp [results, Try.results42, go_sem, q2, q3]) rfl ?_
    exact mark_bad (errUn_bad HE.out) HE.out ((hbel1.setCell (by simp) _).setCell (by simp) _)


set_option maxHeartbeats 2000000 in
theorem rUntil_any (A : Option Addr) (n c : Nat) (xs : Rd) (num den : Int) (w : World) (h : Row w A n c xs) (hn2 : n ≤ 1000) :
    Calls Try.prog 43 #[.slice A n c, .int .i64 num, .int .i64 den] w (MarkPost xs num den w) := by
  have HR := hide h
  have hl := h.length
  by_cases he : errH xs = 0
  · obtain ⟨e1, e2, e3⟩ := errH_zero he
    have hn1 : 1 ≤ n := by omega
    have hn12 : n ≤ 12 := by omega
    have HE := hide he
    have HL := hide hl
    have O := hide e3
    clear h hl he e1 e2 e3
    by_cases hd : 1 ≤ den ∧ den ≤ 100
    · by_cases hnm : 0 ≤ num ∧ num ≤ 100 * den
      · have HU := hide (errUn_ok HE.out ⟨hd, hnm⟩)
        obtain ⟨d1, d2⟩ := hd
        obtain ⟨n1, n2⟩ := hnm
        have w1 : withinB den 1 100 = true := withinB_true d1 d2
        have w2 : withinB num 0 (100 * den) = true := withinB_true n1 n2
        go_enter Try.func43, Try.ntmps43
        go_wp2_with (first | (go_at_call 25; refine (rValidate_any _ _ _ xs _ (HR.out.alloc _) (by omega)).mono ?_; rw [HE.out]; rintro e w1 ⟨rfl, rfl⟩) | (go_at_call 64; refine (within_any _ _ _ _).mono ?_; rintro e w' ⟨rfl, rfl⟩))
        have hbel1 : Below w.heap.size w (w.alloc (.cells #[.bool false, .int .i64 0] 58)) := (Below.refl _ _).alloc (Nat.le_refl _) _
        refine (rbest_any _ _ _ xs _ (HR.out.alloc _) O.out hn12).mono ?_
        rintro e w2 ⟨A2, c2, rfl, hown, hb2⟩
        have K2 := hide ((Bk.born w 58 #[.bool false, .int .i64 0]).keep hb2 (by simp))
        have hbel3 := hbel1.trans (hb2.mono hbel1.size)
        obtain ⟨b, off, hr⟩ := hown.row
        obtain rfl := hr.at_ (by omega)
        have hcap := hr.cap
        have hmax := hr.max
        have RX := hide hr
        have hnum : num ≤ 10000 := by omega
        clear hown hb2 hbel1 hr
        go_wp2_with fail
        go_loopw [10] (fun s wr => ∃ i : Nat, i ≤ n ∧ s = .int .i64 i ∧ NoTo xs num den i ∧ Bk wr w.heap.size 58 #[.bool false, .int .i64 0] ∧ RowAt wr (some ⟨b, off, none⟩) n c2 (best xs) b off ∧ Below w.heap.size w wr) (fun s _ => n - (intOf s).toNat)
        case atStart => exact ⟨0, Nat.zero_le _, rfl, noTo_zero _ _ _, K2.out, RX.out, hbel3⟩
        case round =>
          obtain ⟨i, hi, rfl, hno, hk, hra, hbel⟩ := hrel
          have KK := hide hk
          have RA := hide hra
          have NO := hide hno
          by_cases hlt : i < n
          · have hix : i < xs.length := by rw [HL.out]; exact hlt
            obtain ⟨x1, x2⟩ := hra.cell i hlt
            rw [best_get xs hix] at x1 x2
            simp only at x1 x2
            obtain ⟨s1, s2, s3, s4⟩ := small_rr O.out (by rw [HL.out]; omega) hix
            have HSOME := hide fun h => unK_some (xs := xs) (num := num) (den := den) NO.out (k := i) h hix
            have HNEXT := hide fun h => noTo_succ (xs := xs) (num := num) (den := den) NO.out (k := i) h
            have hun : unB xs num den i = decide (nu (rr xs i) * den ≤ num * de (rr xs i)) := rfl
            have HUN := hide hun
            obtain ⟨p1, p2⟩ := mul_in s1 (show nu (rr xs i) ≤ 1000000 by omega) (show 0 ≤ den by omega) (by omega)
            obtain ⟨p3, p4⟩ := mul_in n1 (show num ≤ 1000000 by omega) (show 0 ≤ de (rr xs i) by omega) (by omega)
            clear hk hra hno hun
            generalize nu (rr xs i) = a1 at *
            generalize de (rr xs i) = a2 at *
            have hw1 : IntKind.i64.wrap (a1 * den) = a1 * den := IntWalk.i64_in _ (by omega)
            have hw2 : IntKind.i64.wrap (num * a2) = num * a2 := IntWalk.i64_in _ (by omega)
            have l0 : (0 : Int) ≤ i := by omega
            have l1 : (i : Int) < n := by omega
            by_cases hcm : a1 * den ≤ num * a2
            · have hs := HSOME.out (by rw [HUN.out]; simpa using hcm)
              have HS := hide hs
              clear hs
              go_wp2_with fail
              go_quiet (fail)
              clear hw1 hw2
              have KK4 := hide (KK.out.draws nq)
              have hbel4 := below_drewN hbel nq
              generalize wr.drewN nq = w4 at *
              obtain ⟨k0, k1, f0, f1, _⟩ := KK4.out.two
              obtain ⟨q1, q2, q3⟩ := KK4.out.res2 (.bool true) (.int .i64 (i : Int))
              go_wp2_with fail
              refine bodyPost_ret (v := .tuple #[.agg #[.bool true, .int .i64 (i : Int)], .int .i64 0]) (by simp [results, Try.results43, go_sem, q2, q3]) rfl ?_
              exact mark_some HU.out HS.out ((hbel4.setCell (by simp) _).setCell (by simp) _)
            · have hs := HNEXT.out (by rw [HUN.out]; simpa using hcm)
              have HS := hide hs
              have hcm2 : num * a2 < a1 * den := by omega
              have hcm3 : decide (a1 * den ≤ num * a2) = false := by simpa using hcm
              clear hs hcm
              go_wp2_with fail
              go_quiet (fail)
              clear hw1 hw2
              go_wp2_with fail
              go_roundw
              case rel => exact ⟨i + 1, by omega, by go_num, HS.out, KK.out.draws _, RA.out.below (below_drewN (Below.refl wr.heap.size wr) _) (Nat.le_refl _), below_drewN hbel _⟩
              case measure => simp [intOf]; omega
          · obtain rfl : i = n := by omega
            have HN := hide (unK_none NO.out HL.out)
            obtain ⟨k0, k1, f0, f1, _⟩ := KK.out.two
            obtain ⟨q1, q2, q3⟩ := KK.out.res2 (.bool false) (.int .i64 0)
            go_wp2_with fail
            refine bodyPost_ret (v := .tuple #[.agg #[.bool false, .int .i64 0], .int .i64 0]) (by simp [results, Try.results43, go_sem, q2, q3]) rfl ?_
            exact mark_none HU.out HN.out ((hbel.setCell (by simp) _).setCell (by simp) _)
      · have HU := hide (errUn_arg (num := num) (den := den) HE.out (fun hh => hnm hh.2))
        obtain ⟨d1, d2⟩ := hd
        have w1 : withinB den 1 100 = true := withinB_true d1 d2
        have w2 : withinB num 0 (100 * den) = false := withinB_false (by omega)
        go_enter Try.func43, Try.ntmps43
        go_wp2_with (first | (go_at_call 25; refine (rValidate_any _ _ _ xs _ (HR.out.alloc _) (by omega)).mono ?_; rw [HE.out]; rintro e w1 ⟨rfl, rfl⟩) | (go_at_call 64; refine (within_any _ _ _ _).mono ?_; rintro e w' ⟨rfl, rfl⟩))
        refine bodyPost_ret (v := .tuple #[.agg #[.bool false, .int .i64 0], .int .i64 1]) (by simp [results, Try.results43, go_sem]) rfl ?_
        exact mark_bad HU.out (by omega) (by (repeat' (first | exact Below.refl _ _ | exact Nat.le_refl _ | refine Below.drew ?_ | refine below_drewN ?_ _ | refine Below.alloc ?_ ?_ _ | refine Below.setCell ?_ ?_ _)); all_goals (first | (simp; done) | (simp; omega)))
    · have HU := hide (errUn_arg (num := num) (den := den) HE.out (fun hh => hd hh.1))
      have w1 : withinB den 1 100 = false := withinB_false (by omega)
      go_enter Try.func43, Try.ntmps43
      go_wp2_with (first | (go_at_call 25; refine (rValidate_any _ _ _ xs _ (HR.out.alloc _) (by omega)).mono ?_; rw [HE.out]; rintro e w1 ⟨rfl, rfl⟩) | (go_at_call 64; refine (within_any _ _ _ _).mono ?_; rintro e w' ⟨rfl, rfl⟩))
      refine bodyPost_ret (v := .tuple #[.agg #[.bool false, .int .i64 0], .int .i64 1]) (by simp [results, Try.results43, go_sem]) rfl ?_
      exact mark_bad HU.out (by omega) (by (repeat' (first | exact Below.refl _ _ | exact Nat.le_refl _ | refine Below.drew ?_ | refine below_drewN ?_ _ | refine Below.alloc ?_ ?_ _ | refine Below.setCell ?_ ?_ _)); all_goals (first | (simp; done) | (simp; omega)))
  · have he' := errH_ne he
    have HE := hide he
    clear h hl
    go_enter Try.func43, Try.ntmps43
    go_wp2_with fail
    refine (rValidate_any _ _ _ xs _ (HR.out.alloc _) (by omega)).mono ?_
    rintro e w1 ⟨rfl, rfl⟩
    go_wp2_with fail
    refine bodyPost_ret (v := .tuple #[.agg #[.bool false, .int .i64 0], .int .i64 (errH xs)]) (by simp [results, Try.results43, go_sem]) rfl ?_
    exact mark_bad (errUn_bad HE.out) HE.out (by (repeat' (first | exact Below.refl _ _ | exact Nat.le_refl _ | refine Below.drew ?_ | refine below_drewN ?_ _ | refine Below.alloc ?_ ?_ _ | refine Below.setCell ?_ ?_ _)); all_goals (first | (simp; done) | (simp; omega)))

set_option maxHeartbeats 1000000 in
theorem HazeUntil_walk (A : Option Addr) (n c : Nat) (xs : Rd) (num den : Int) (w : World) (h : Row w A n c xs) :
    Calls Try.prog 10 #[.slice A n c, .int .i64 num, .int .i64 den] w fun e w' => e = .returned (.bool true) ∧ Below w.heap.size w w' := by
  have HR := hide h
  have hl := h.length
  by_cases hn : 100 < n
  · clear h hl
    go_enter Try.func10, Try.ntmps10
    go_wp2_with (first | (go_at_call 18; refine (Long_yes _ _ _ _ hn).mono ?_; rintro e w' ⟨rfl, rfl⟩) | (go_at_call 19; refine (known_any _).mono ?_; rintro e w1 ⟨rfl, hb⟩))
    go_ret
    exact ⟨rfl, hb⟩
  · have hn' : n ≤ 100 := by omega
    clear h hl hn
    go_enter Try.func10, Try.ntmps10
    go_wp2_with fail
    refine (Long_no _ _ _ _ hn').mono ?_
    rintro e w' ⟨rfl, rfl⟩
    go_wp2_with fail
    refine (Until_any _ _ _ xs num den _ HR.out (by omega)).mono ?_
    rintro e w1 ⟨rfl, b1⟩
    have z1 := b1.size
    unfold markOf
    generalize hp : (unOr xs num den).isSome = p
    generalize hq : (((unOr xs num den).getD 0 : Nat) : Int) = q
    have HP := hide hp
    have HQ := hide hq
    clear hp hq
    have HR1 := hide ((HR.out.below b1 (Nat.le_refl _)).alloc (.cells #[.bool p, .int .i64 q] 58))
    have B1 := b1.alloc z1 (.cells #[.bool p, .int .i64 q] 58)
    have K1 := hide (Bk.born w1 58 #[.bool p, .int .i64 q])
    go_wp2_with fail
    refine (rUntil_any _ _ _ xs num den _ HR1.out (by omega)).mono ?_
    rintro e w2 ⟨rfl, b2⟩
    unfold markOf
    rw [HP.out, HQ.out]
    have K1' := hide (K1.out.keep b2 (by simp))
    have B2 := B1.trans (b2.mono B1.size)
    obtain ⟨x0, x1, _, _, xs1⟩ := K1'.out.two
    have z2 := B2.size
    clear b1 b2 B1
    go_wp2_with (first | (go_at_call 19; refine (known_any _).mono ?_; rintro e w7 ⟨rfl, hb7⟩))
    go_ret
    exact ⟨rfl, (B2.alloc z2 _).trans (hb7.mono (by simp; omega))⟩

end Go.Proofs.Ytnngafndlgnclaa
