/- Walks of Pool on both sides, and of HazePools. -/
import Derived.Test.YtlmmkaadoicogaaMathM
namespace Go.Proofs.Ytlmmkaadoicogaa
open Go.RowKit

theorem Row.mk' {w : World} {A : Option Addr} {n c : Nat} {xs : Rd} {b off : Nat} (h : RowAt w A n c xs b off) : Row w A n c xs := ⟨b, off, h⟩
theorem errV_one {xs : Rd} {k : Int} (h : errH xs = 0) : errV xs [k] = if 0 ≤ k ∧ k < xs.length then 0 else 4 := by
  unfold errV
  rw [if_pos h]
  congr 1
  simp [inH]
theorem errP_far {xs : Rd} {k : Int} (h : errH xs = 0) (hk : ¬ (0 ≤ k ∧ k + 2 ≤ xs.length)) : errP xs k = 4 := by unfold errP; rw [if_pos h, if_neg hk]
theorem errP_rule {xs : Rd} {k : Nat} (h : errH xs = 0) (hk : k + 2 ≤ xs.length) (hv : vI xs (k + 1) ≤ vI xs k) : errP xs k = 6 := by unfold errP; rw [if_pos h, if_pos (by omega), Int.toNat_natCast, if_pos hv]
theorem errP_arg {xs : Rd} {k : Nat} (h : errH xs = 0) (hk : k + 2 ≤ xs.length) (hv : vI xs k < vI xs (k + 1)) (hd : de (mq xs k (k + 1)) ≠ 1) : errP xs k = 1 := by unfold errP; rw [if_pos h, if_pos (by omega), Int.toNat_natCast, if_neg (by omega), if_neg hd]
theorem errP_ok {xs : Rd} {k : Nat} (h : errH xs = 0) (hk : k + 2 ≤ xs.length) (hv : vI xs k < vI xs (k + 1)) (hd : de (mq xs k (k + 1)) = 1) : errP xs k = 0 := by unfold errP; rw [if_pos h, if_pos (by omega), Int.toNat_natCast, if_neg (by omega), if_pos hd]
/-- The pooled readings of the hour k. -/
def poolK (xs : Rd) (k : Int) : Rd := poolL xs k.toNat (nu (mq xs k.toNat (k.toNat + 1)))
theorem Own.pooled {w : World} {B g n c : Nat} {e : TypeId} {xs : Rd} (h : Own w B e (some ⟨g, 0, none⟩) n c xs) {i : Nat} (hi : i + 1 < n) (m : Int) :
    Own ((w.setCell ⟨g, i * 2, none⟩ (.int .i64 m)).setCell ⟨g, (i + 1) * 2, none⟩ (.int .i64 m)) B e (some ⟨g, 0, none⟩) n c (poolL xs i m) :=
  (h.stored1 (by omega) m).stored1 hi m

theorem list_none {B : Nat} {ys : Rd} {er v : Int} {w w' : World} (he : er = v) (hv : v ≠ 0) (hb : Below B w w') : ListPost B ys er w (.returned (.tuple #[.slice none 0 0, .int .i64 v])) w' := by
  subst he
  refine ⟨none, 0, 0, rfl, ?_, hb⟩
  rw [if_neg hv]
  exact Own.nil _ _ _
theorem list_ok {B n c : Nat} {A : Option Addr} {ys zs : Rd} {er : Int} {w w' : World} (he : er = 0) (hy : ys = zs) (ho : Own w' B 51 A n c zs) (hb : Below B w w') : ListPost B ys er w (.returned (.tuple #[.slice A n c, .int .i64 0])) w' := by
  subst he hy
  refine ⟨A, n, c, rfl, ?_, hb⟩
  rw [if_pos rfl]
  exact ho
set_option maxHeartbeats 2000000 in
theorem Pool_any (A : Option Addr) (n c : Nat) (xs : Rd) (k : Int) (w : World) (h : Row w A n c xs) (hn2 : n ≤ 1000) :
    Calls Try.prog 54 #[.slice A n c, .int .i64 k] w (ListPost w.heap.size (poolK xs k) (errP xs k) w) := by
  have HR := hide h
  have hl := h.length
  have hbk : Bk (w.alloc (.cells (ints [k]).toArray 3)) w.heap.size 3 (ints [k]).toArray := Bk.born _ _ _
  have HB := hide hbk
  clear hbk
  by_cases he : errH xs = 0
  · obtain ⟨e1, e2, e3⟩ := errH_zero he
    obtain ⟨bl, off, hr⟩ := h
    obtain rfl := hr.at_ (by omega)
    have hcap := hr.cap
    have hmax := hr.max
    have HRA := hide hr
    have hn12 : n ≤ 12 := by omega
    have HE := hide he
    have HL := hide hl
    have O := hide e3
    clear hr he e1 e2 hl e3
    by_cases hk : 0 ≤ k ∧ k < n
    · have hv : errV xs [k] = 0 := by rw [errV_one HE.out, if_pos (by rw [HL.out]; exact hk)]
      have HV := hide hv
      clear hv
      obtain ⟨i, rfl⟩ : ∃ i : Nat, k = i := ⟨k.toNat, by omega⟩
      have hi : i < n := by omega
      clear hk
      by_cases hlast : i + 1 = n
      · rw [errP_far HE.out (by rw [HL.out]; omega)]
        have b1 : ((i : Int) + 1 == (n : Int)) = true := by simp; omega
        have HLA := hide hlast
        clear hlast
        go_enter Try.func54, Try.ntmps54
        go_wp2_with fail
        refine (validateHours_any _ _ _ xs _ 1 _ [(i : Int)] _ (HR.out.alloc _) (by omega) HB.out rfl (by omega)).mono ?_
        rw [HV.out]
        rintro e w1 ⟨rfl, hb1⟩
        have hbel : Below w.heap.size w w1 := ((Below.refl _ _).alloc (Nat.le_refl _) _).trans (hb1.mono (by simp))
        go_wp2_with fail
        go_ret2
        exact ⟨none, 0, 0, rfl, Own.nil _ _ _, hbel⟩
      · have hi2 : i + 1 < n := by omega
        have b1 : ((i : Int) + 1 == (n : Int)) = false := by simp; omega
        obtain ⟨a1, a2, a3, a4⟩ := okH_get O.out (show i < xs.length by rw [HL.out]; omega)
        obtain ⟨a5, a6, a7, a8⟩ := okH_get O.out (show i + 1 < xs.length by rw [HL.out]; omega)
        have hm1 := mn_rt xs i (i + 1)
        have bb1 := nS_bd O.out (a := i) (b := i + 1 + 1) (by omega) (by rw [HL.out]; omega)
        have bb2 := dS_bd O.out (a := i) (b := i + 1 + 1) (by omega) (by rw [HL.out]; omega)
        have HM := hide hm1
        clear hm1
        have l1 : (i : Int) < n := by omega
        have l2 : (i : Int) + 1 < n := by omega
        have l3 : (0 : Int) ≤ (i : Int) + 1 := by omega
        have l4 : ((i : Int) + 1).toNat = i + 1 := by omega
        have hx1 := hide (errP_rule (xs := xs) (k := i) HE.out (by rw [HL.out]; omega))
        have hx2 := hide (errP_arg (xs := xs) (k := i) HE.out (by rw [HL.out]; omega))
        have hx3 := hide (errP_ok (xs := xs) (k := i) HE.out (by rw [HL.out]; omega))
        go_enter Try.func54, Try.ntmps54
        go_wp2_with fail
        refine (validateHours_any _ _ _ xs _ 1 _ [(i : Int)] _ (HR.out.alloc _) (by omega) HB.out rfl (by omega)).mono ?_
        rw [HV.out]
        rintro e w1 ⟨rfl, hb1⟩
        have hbel : Below w.heap.size w w1 := ((Below.refl _ _).alloc (Nat.le_refl _) _).trans (hb1.mono (by simp))
        have HRA1 := hide (HRA.out.below hbel (Nat.le_refl _))
        clear hb1 HRA HR HB
        obtain ⟨c1, _⟩ := HRA1.out.cell i (by omega)
        obtain ⟨d1, _⟩ := HRA1.out.cell (i + 1) hi2
        rw [show (xs.getD i (0, 0)).1 = vI xs i from rfl] at c1
        rw [show (xs.getD (i + 1) (0, 0)).1 = vI xs (i + 1) from rfl] at d1
        by_cases hxy : vI xs (i + 1) ≤ vI xs i
        · have HP := hide (hx1.out hxy)
          generalize vI xs i = x at *
          generalize vI xs (i + 1) = y at *
          go_wp2_with fail
          go_quiet (fail)
          go_wp2
          go_ret2
          exact list_none HP.out (by omega) (below_drewN hbel _)
        · have hxy2 : vI xs i < vI xs (i + 1) := by omega
          have HX2 := hide (hx2.out hxy2)
          have HX3 := hide (hx3.out hxy2)
          have hdd : decide (vI xs (i + 1) ≤ vI xs i) = false := by simp; omega
          clear hx1 hx2 hx3
          generalize vI xs i = x at *
          generalize vI xs (i + 1) = y at *
          go_wp2_with fail
          go_quiet (fail)
          have HRA2 := hide (HRA1.out.below (below_drewN (Below.refl w1.heap.size w1) nq) (Nat.le_refl _))
          have hbel2 := below_drewN hbel nq
          generalize w1.drewN nq = w2 at *
          clear c1 d1 HRA1 hbel hdd
          go_wp2_with fail
          refine (mean_seg HRA2.out O.out hn12 (i := i) (j := i + 1) (by omega) (by omega) (by omega) (by omega)).mono ?_
          generalize hp : nS xs (i + 1 + 1) - nS xs i = p at *
          generalize hq : dS xs (i + 1 + 1) - dS xs i = q at *
          have HPP := hide hp
          have HQQ := hide hq
          clear hp hq
          rintro e w3 ⟨rfl, hb3⟩
          have HRA3 := hide (HRA2.out.below hb3 (Nat.le_refl _))
          have hbel3 := hbel2.trans (hb3.mono hbel2.size)
          clear hb3 hbel2 HRA2
          go_wp2_with fail
          refine (lowest_any _ _ _ (by omega) (by omega) (by omega) (by omega)).mono ?_
          rw [← HM.out, show mn (vq xs) (wq xs) i (i + 1) = mq xs i (i + 1) from rfl]
          rintro e w4 ⟨rfl, hb4⟩
          have HRA4 := hide (HRA3.out.below hb4 (Nat.le_refl _))
          have hbel4 := hbel3.trans (hb4.mono hbel3.size)
          clear hb4 hbel3 HRA3
          generalize hd : de (mq xs i (i + 1)) = d at *
          generalize hmm : nu (mq xs i (i + 1)) = mm' at *
          have HD := hide hd
          have HMM := hide hmm
          clear hd hmm
          by_cases hd1 : d = 1
          · subst hd1
            have hpk : poolK xs (i : Int) = poolL xs i mm' := by unfold poolK; rw [Int.toNat_natCast, HMM.out]
            have HPK := hide hpk
            clear hpk
            have hrow := hide ((Row.mk' HRA4.out).alloc (.cells #[.int .i64 mm', .int .i64 1] 26))
            have hbl4 := hide (Bk.born w4 26 #[.int .i64 mm', .int .i64 1])
            go_wp2_with fail
            refine (Clone_any _ _ _ _ _ hrow.out (by omega) (by omega)).mono ?_
            rintro e w5 ⟨A', c', rfl, hown, hb5⟩
            have hbl5 := hide (hbl4.out.keep hb5 (by simp))
            have hbel5 := (hbel4.alloc hbel4.size (.cells #[.int .i64 mm', .int .i64 1] 26)).trans (hb5.mono (by have := hbel4.size; simp; omega))
            obtain ⟨k0, k1, f0, f1, hsz⟩ := hbl5.out.two
            rcases hown.form with ⟨_, h0, _⟩ | ⟨g, rfl, hgB, hgl, hnc, hcm⟩
            · omega
            · obtain ⟨o1, _⟩ := hown.cell (k := i) (by omega)
              obtain ⟨o2, _⟩ := hown.cell (k := i + 1) hi2
              have g1 := hown.frozen (i * 2)
              have g2 := hown.frozen ((i + 1) * 2)
              have hg4 : w4.heap.size < g := by simp at hgB; omega
              have hz4 := hbel4.size
              have HO := hide hown
              clear hown hbl4 hbl5 hrow hb5 HRA4 hbel4
              go_wp2_with fail
              go_region
              all_goals
                go_wp2
                go_ret2
                exact list_ok (HX3.out trivial) HPK.out ((HO.out.pooled hi2 mm').more (by simp; omega)).drew ((hbel5.setCell (by simp; omega) _).setCell (by simp; omega) _).drew
          · have hd2 : (d != 1) = true := by simp [hd1]
            go_wp2_with fail
            go_ret2
            exact list_none (HX2.out hd1) (by omega) (hbel4.alloc hbel4.size _)
    · have hv : errV xs [k] = 4 := by rw [errV_one HE.out, if_neg (by rw [HL.out]; exact hk)]
      have HV := hide hv
      rw [errP_far HE.out (by rw [HL.out]; omega)]
      clear hv
      go_enter Try.func54, Try.ntmps54
      go_wp2_with fail
      refine (validateHours_any _ _ _ xs _ 1 _ [k] _ (HR.out.alloc _) (by omega) HB.out rfl (by omega)).mono ?_
      rw [HV.out]
      rintro e w1 ⟨rfl, hb1⟩
      have hbel : Below w.heap.size w w1 := ((Below.refl _ _).alloc (Nat.le_refl _) _).trans (hb1.mono (by simp))
      go_wp2_with fail
      go_ret2
      exact ⟨none, 0, 0, rfl, Own.nil _ _ _, hbel⟩
  · have he' := errH_ne he
    rw [errP_bad he]
    have hv := errV_bad (l := [k]) he
    have HV := hide hv
    have HE := hide he
    clear h hl hv
    go_enter Try.func54, Try.ntmps54
    go_wp2_with fail
    refine (validateHours_any _ _ _ xs _ 1 _ [k] _ (HR.out.alloc _) (by omega) HB.out rfl (by omega)).mono ?_
    rw [HV.out]
    rintro e w1 ⟨rfl, hb1⟩
    have hbel : Below w.heap.size w w1 := ((Below.refl _ _).alloc (Nat.le_refl _) _).trans (hb1.mono (by simp))
    go_wp2_with fail
    go_ret2
    refine ⟨none, 0, 0, rfl, ?_, hbel⟩
    rw [if_neg HE.out]
    exact Own.nil _ _ _

set_option maxHeartbeats 2000000 in
theorem rPool_any (A : Option Addr) (n c : Nat) (xs : Rd) (k : Int) (w : World) (h : Row w A n c xs) (hn2 : n ≤ 1000) :
    Calls Try.prog 55 #[.slice A n c, .int .i64 k] w (ListPost w.heap.size (poolK xs k) (errP xs k) w) := by
  have HR := hide h
  have hl := h.length
  by_cases he : errH xs = 0
  · obtain ⟨e1, e2, e3⟩ := errH_zero he
    obtain ⟨bl, off, hr⟩ := h
    obtain rfl := hr.at_ (by omega)
    have hcap := hr.cap
    have hmax := hr.max
    have HRA := hide hr
    have hn12 : n ≤ 12 := by omega
    have HE := hide he
    have HL := hide hl
    have O := hide e3
    clear hr he e1 e2 hl e3
    have hn1 : 1 ≤ n := by have := (errH_zero HE.out).1; rw [HL.out] at this; exact this
    by_cases hk : 0 ≤ k ∧ k + 2 ≤ n
    · obtain ⟨i, rfl⟩ : ∃ i : Nat, k = i := ⟨k.toNat, by omega⟩
      have hi2 : i + 1 < n := by omega
      have hw : withinB (i : Int) 0 ((n : Int) - 2) = true := withinB_true (by omega) (by omega)
      clear hk
      obtain ⟨a1, a2, a3, a4⟩ := okH_get O.out (show i < xs.length by rw [HL.out]; omega)
      obtain ⟨a5, a6, a7, a8⟩ := okH_get O.out (show i + 1 < xs.length by rw [HL.out]; omega)
      have l1 : (i : Int) < n := by omega
      have l2 : (i : Int) + 1 < n := by omega
      have l3 : (0 : Int) ≤ (i : Int) + 1 := by omega
      have l4 : ((i : Int) + 1).toNat = i + 1 := by omega
      have hw5 : IntKind.i64.wrap ((i : Int) + 1) = (i : Int) + 1 := IntWalk.i64_in _ (by omega)
      have hx1 := hide (errP_rule (xs := xs) (k := i) HE.out (by rw [HL.out]; omega))
      have hx2 := hide (errP_arg (xs := xs) (k := i) HE.out (by rw [HL.out]; omega))
      have hx3 := hide (errP_ok (xs := xs) (k := i) HE.out (by rw [HL.out]; omega))
      obtain ⟨c1, _⟩ := HRA.out.cell i (by omega)
      obtain ⟨d1, _⟩ := HRA.out.cell (i + 1) hi2
      rw [show (xs.getD i (0, 0)).1 = vI xs i from rfl] at c1
      rw [show (xs.getD (i + 1) (0, 0)).1 = vI xs (i + 1) from rfl] at d1
      by_cases hxy : vI xs (i + 1) ≤ vI xs i
      · have HP := hide (hx1.out hxy)
        generalize vI xs i = x at *
        generalize vI xs (i + 1) = y at *
        go_enter Try.func55, Try.ntmps55
        go_wp2_with (first | (go_at_call 25; refine (rValidate_any _ _ _ xs _ HR.out (by omega)).mono ?_; rw [HE.out]; rintro e w1 ⟨rfl, rfl⟩) | (go_at_call 64; refine (within_any _ _ _ _).mono ?_; rintro e w' ⟨rfl, rfl⟩))
        go_quiet (fail)
        clear hw5
        go_wp2
        go_ret2
        exact list_none HP.out (by omega) (below_drewN (Below.refl _ _) _)
      · have hxy2 : vI xs i < vI xs (i + 1) := by omega
        have HX2 := hide (hx2.out hxy2)
        have HX3 := hide (hx3.out hxy2)
        have hdd : decide (vI xs (i + 1) ≤ vI xs i) = false := by simp; omega
        clear hx1 hx2 hx3
        generalize vI xs i = x at *
        generalize vI xs (i + 1) = y at *
        go_enter Try.func55, Try.ntmps55
        go_wp2_with (first | (go_at_call 25; refine (rValidate_any _ _ _ xs _ HR.out (by omega)).mono ?_; rw [HE.out]; rintro e w1 ⟨rfl, rfl⟩) | (go_at_call 64; refine (within_any _ _ _ _).mono ?_; rintro e w' ⟨rfl, rfl⟩))
        go_quiet (fail)
        have HRA2 := hide (HRA.out.below (below_drewN (Below.refl w.heap.size w) nq) (Nat.le_refl _))
        have hbel2 := below_drewN (Below.refl w.heap.size w) nq
        generalize w.drewN nq = w2 at *
        clear c1 d1 hdd hw5
        go_wp2_with fail
        refine (rmean_any _ _ _ xs i (i + 1) _ (Row.mk' HRA2.out) O.out hn12 (by omega) (by omega)).mono ?_
        rintro e w4 ⟨rfl, hb4⟩
        have HRA4 := hide (HRA2.out.below hb4 (Nat.le_refl _))
        have hbel4 := hbel2.trans (hb4.mono hbel2.size)
        clear hb4 hbel2 HRA2
        generalize hd : de (mq xs i (i + 1)) = d at *
        generalize hmm : nu (mq xs i (i + 1)) = mm' at *
        have HD := hide hd
        have HMM := hide hmm
        clear hd hmm
        by_cases hd1 : d = 1
        · subst hd1
          have hpk : poolK xs (i : Int) = poolL xs i mm' := by unfold poolK; rw [Int.toNat_natCast, HMM.out]
          have HPK := hide hpk
          clear hpk
          have hrow := hide ((Row.mk' HRA4.out).alloc (.cells #[.int .i64 mm', .int .i64 1] 26))
          have hbl4 := hide (Bk.born w4 26 #[.int .i64 mm', .int .i64 1])
          go_wp2_with fail
          refine (Copy_any _ _ _ _ _ hrow.out (by omega)).mono ?_
          rintro e w5 ⟨A', c', rfl, hown, hb5⟩
          have hbl5 := hide (hbl4.out.keep hb5 (by simp))
          have hbel5 := (hbel4.alloc hbel4.size (.cells #[.int .i64 mm', .int .i64 1] 26)).trans (hb5.mono (by have := hbel4.size; simp; omega))
          obtain ⟨k0, k1, f0, f1, hsz⟩ := hbl5.out.two
          rcases hown.form with ⟨_, h0, _⟩ | ⟨g, rfl, hgB, hgl, hnc, hcm⟩
          · omega
          · obtain ⟨o1, _⟩ := hown.cell (k := i) (by omega)
            obtain ⟨o2, _⟩ := hown.cell (k := i + 1) hi2
            have g1 := hown.frozen (i * 2)
            have g2 := hown.frozen ((i + 1) * 2)
            have hg4 : w4.heap.size < g := by simp at hgB; omega
            have hz4 := hbel4.size
            have hne1 : (w4.heap.size == g) = false := by simp; omega
            have HO := hide hown
            clear hown hbl4 hbl5 hrow hb5 HRA4 hbel4
            have hwx : ∀ v, (w5.setCell ⟨g, i * 2, none⟩ v).cell? ⟨w4.heap.size, 0, none⟩ = some (.int .i64 mm') := fun v => (World.cell?_setCell_other _ _ _ _ (by first | (simp; done) | (simp; omega))).trans k0
            go_wp2_with fail
            go_ret2
            exact list_ok (HX3.out trivial) HPK.out ((HO.out.pooled hi2 mm').more (by first | omega | (simp; omega))) ((hbel5.setCell (by first | omega | (simp; omega)) _).setCell (by first | omega | (simp; omega)) _)
        · have hd2 : (d != 1) = true := by simp [hd1]
          go_wp2_with fail
          go_ret2
          exact list_none (HX2.out hd1) (by omega) (hbel4.alloc hbel4.size _)
    · have hw : withinB k 0 ((n : Int) - 2) = false := withinB_false (by omega)
      have HP := hide (errP_far (xs := xs) (k := k) HE.out (by rw [HL.out]; omega))
      go_enter Try.func55, Try.ntmps55
      go_wp2_with (first | (go_at_call 25; refine (rValidate_any _ _ _ xs _ HR.out (by omega)).mono ?_; rw [HE.out]; rintro e w1 ⟨rfl, rfl⟩) | (go_at_call 64; refine (within_any _ _ _ _).mono ?_; rintro e w' ⟨rfl, rfl⟩))
      go_ret2
      exact list_none HP.out (by omega) (Below.refl _ _)
  · have he' := errH_ne he
    have HP := hide (errP_bad (k := k) he)
    have HE := hide he
    clear h hl
    go_enter Try.func55, Try.ntmps55
    go_wp2_with (first | (go_at_call 25; refine (rValidate_any _ _ _ xs _ HR.out (by omega)).mono ?_; rintro e w1 ⟨rfl, rfl⟩))
    go_ret2
    exact list_none HP.out HE.out (Below.refl _ _)

set_option maxRecDepth 100000 in
set_option maxHeartbeats 4000000 in
theorem HazePools_walk (A : Option Addr) (n c : Nat) (xs : Rd) (k : Int) (w : World) (h : Row w A n c xs) :
    Calls Try.prog 15 #[.slice A n c, .int .i64 k] w fun e w' => e = .returned (.bool true) ∧ Below w.heap.size w w' := by
  have HR := hide h
  have hl := h.length
  by_cases hn : 100 < n
  · clear h hl
    go_enter Try.func15, Try.ntmps15
    go_wp2_with (first | (go_at_call 18; refine (Long_yes _ _ _ _ hn).mono ?_; rintro e w' ⟨rfl, rfl⟩) | (go_at_call 19; refine (known_any _).mono ?_; rintro e w1 ⟨rfl, hb⟩))
    go_ret
    exact ⟨rfl, hb⟩
  · have hn' : n ≤ 100 := by omega
    have HL := hide hl
    clear h hl hn
    go_enter Try.func15, Try.ntmps15
    go_wp2_with fail
    refine (Long_no _ _ _ _ hn').mono ?_
    rintro e w' ⟨rfl, rfl⟩
    go_wp2_with fail
    refine (Pool_any _ _ _ xs k _ HR.out (by omega)).mono ?_
    rintro e w1 ⟨A1, n1, c1, rfl, o1, b1⟩
    have O1 := hide o1
    have HR1 := hide (HR.out.below b1 (Nat.le_refl _))
    clear o1
    go_wp2_with fail
    refine (rPool_any _ _ _ xs k _ HR1.out (by omega)).mono ?_
    rintro e w2 ⟨A2, n2, c2, rfl, o2, b2⟩
    have O2 := hide o2
    have O1' := hide (O1.out.below b2 (Nat.le_refl _))
    have HR2 := hide (HR1.out.below b2 (Nat.le_refl _))
    have B2 := b1.trans (b2.mono b1.size)
    clear o2 b1 b2 O1 HR1
    go_wp2_with fail
    refine (SameReadings_any _ _ _ _ _ _ _ _ _ O1'.out.row O2.out.row).mono ?_
    rw [eqL_self]
    rintro e w3 ⟨rfl, m3, rfl⟩
    have O1 := hide (O1'.out.drewN m3)
    have HR3 := hide (HR2.out.drewN m3)
    have B3 := below_drewN B2 m3
    generalize w2.drewN m3 = w3 at *
    clear O1' O2 HR2 B2
    go_wp2_with fail
    refine (Best_any _ _ _ xs _ HR3.out (by omega)).mono ?_
    rintro e w4 ⟨A4, n4, c4, rfl, o4, b4⟩
    have O4 := hide o4
    have O1' := hide (O1.out.below b4 (Nat.le_refl _))
    have B4 := B3.trans (b4.mono B3.size)
    clear o4 b4 B3 HR3
    go_wp2_with fail
    have hn1 : n1 ≤ 1000 := by
      have := O1'.out.len
      split at this
      · unfold poolK at this; rw [poolL_len, HL.out] at this; omega
      · simp at this; omega
    refine (Best_any _ _ _ _ _ O1'.out.row hn1).mono ?_
    rintro e w5 ⟨A5, n5, c5, rfl, o5, b5⟩
    have O5 := hide o5
    have O4' := hide (O4.out.below b5 (Nat.le_refl _))
    have B5 := B4.trans (b5.mono B4.size)
    have z5 := B5.size
    clear o5 b5 B4 O4
    by_cases hB : errP xs k = 0
    · obtain ⟨he, hk1, hk2, hv, hd⟩ := errP_zero hB
      obtain ⟨e1, e2, e3⟩ := errH_zero he
      have hi2 : k.toNat + 1 < xs.length := by omega
      obtain ⟨m0, m1⟩ := mq_two_bd e3 hi2 hd
      have hbest := poolL_best e3 hi2 hv hd
      have het : errH (poolK xs k) = 0 := errH_ok (by unfold poolK; rw [poolL_len]; omega) (by unfold poolK; rw [poolL_len]; omega) (poolL_ok e3 hi2 m0 m1)
      have hbb : best (poolK xs k) = best xs := by unfold best poolK; rw [hbest]
      rw [if_pos hB, het, if_pos rfl, hbb] at O5
      rw [he, if_pos rfl] at O4'
      rw [if_pos hB, het, hB, he]
      clear hB he het hbest hbb hv hd O1 O1'
      go_wp2_with fail
      refine (SameRats_any _ _ _ _ _ _ _ _ _ O4'.out.row O5.out.row).mono ?_
      rw [eqL_self]
      rintro e w6 ⟨rfl, m6, rfl⟩
      have B6 := below_drewN B5 m6
      have z6 := B6.size
      go_wp2_with (first | (go_at_call 19; refine (known_any _).mono ?_; rintro e w7 ⟨rfl, hb7⟩))
      go_ret
      exact ⟨rfl, B6.trans (hb7.mono z6)⟩
    · have hb' : (errP xs k != 0) = true := by simp [hB]
      rw [if_neg hB]
      clear hB O1 O1' O4' O5
      go_wp2_with (first | (go_at_call 19; refine (known_any _).mono ?_; rintro e w7 ⟨rfl, hb7⟩))
      go_ret
      exact ⟨rfl, B5.trans (hb7.mono z5)⟩

end Go.Proofs.Ytlmmkaadoicogaa
