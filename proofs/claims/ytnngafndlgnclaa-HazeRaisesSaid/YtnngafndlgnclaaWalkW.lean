/- Walks of the document's RaiseAll and of Opposite on both sides; what becomes of the best row. -/
import Derived.Test.YtnngafndlgnclaaWalkV
namespace Go.Proofs.Ytnngafndlgnclaa
open Go.RowKit

theorem told_post {B n c : Nat} {A : Option Addr} {xs : Rd} {a b : Nat} {by' er : Int} {w w1 : World} (h1 : 1 ≤ xs.length) (h2 : xs.length ≤ 12) (hr1 : -100 ≤ by') (hr2 : by' ≤ 100) (he : er = errU xs a b by')
    (ho : Own w1 B 51 A n c (upL xs a b by')) (hb : Below B w w1) :
    ListPost B (upL xs a b by') er w (.returned (.tuple #[if errH (upL xs a b by') = 0 then .slice A n c else .slice none 0 0, .int .i64 (if errH (upL xs a b by') = 0 then 0 else 1)])) w1 := by
  have hV := errH_up h1 h2 a b by'
  subst he
  cases hk : okH (upL xs a b by') with
  | true =>
    rw [hk] at hV
    have hV' : errH (upL xs a b by') = 0 := hV
    have hE : errU xs a b by' = 0 := by unfold errU; rw [if_pos ⟨⟨hr1, hr2⟩, hk⟩]
    rw [if_pos hV', if_pos hV']
    exact list_ok hE rfl ho hb
  | false =>
    rw [hk] at hV
    have hV' : errH (upL xs a b by') ≠ 0 := by rw [hV]; simp
    have hE : errU xs a b by' = 1 := by unfold errU; rw [if_neg (fun hh => by rw [hk] at hh; exact absurd hh.2 (by simp))]
    rw [if_neg hV', if_neg hV']
    exact list_none hE (by omega) hb
theorem errU_out {xs : Rd} {a b : Nat} {by' : Int} (h : ¬ (-100 ≤ by' ∧ by' ≤ 100)) : errU xs a b by' = 1 := by unfold errU; rw [if_neg (fun hh => h hh.1)]

set_option maxHeartbeats 2000000 in
theorem rRaiseAll_any (A : Option Addr) (n c : Nat) (xs : Rd) (by' : Int) (w : World) (h : Row w A n c xs) (hn2 : n ≤ 1000) :
    Calls Try.prog 50 #[.slice A n c, .int .i64 by'] w (ListPost w.heap.size (upL xs 0 (xs.length - 1) by') (errRA xs by') w) := by
  have HR := hide h
  have hl := h.length
  by_cases he : errH xs = 0
  · obtain ⟨e1, e2, e3⟩ := errH_zero he
    have hn1 : 1 ≤ n := by omega
    have hn12 : n ≤ 12 := by omega
    have hE : errRA xs by' = errU xs 0 (n - 1) by' := by unfold errRA; rw [if_pos he, hl]
    have HE := hide he
    have HL := hide hl
    have O := hide e3
    rw [hE, hl]
    clear h hl he e1 e2 hE e3
    by_cases hby : -100 ≤ by' ∧ by' ≤ 100
    · obtain ⟨h1, h2⟩ := hby
      have hw : withinB by' (-100) 100 = true := withinB_true h1 h2
      go_enter Try.func50, Try.ntmps50
      go_wp2_with (first | (go_at_call 25; refine (rValidate_any _ _ _ xs _ HR.out (by omega)).mono ?_; rw [HE.out]; rintro e w1 ⟨rfl, rfl⟩) | (go_at_call 64; refine (within_any _ _ _ _).mono ?_; rintro e w' ⟨rfl, rfl⟩))
      refine (Copy_any _ _ _ _ _ HR.out (by omega)).mono ?_
      rintro e w1 ⟨A', c', rfl, hown, hb1⟩
      rcases hown.form with ⟨_, h0, _⟩ | ⟨g, rfl, hgB, hgl, hnc, hcm⟩
      · omega
      · have HO := hide hown
        clear hown
        go_wp2_with fail
        go_loopw [8] (fun s wr => ∃ i : Nat, i ≤ n ∧ s = .int .i64 i ∧ Own wr w.heap.size 51 (some ⟨g, 0, none⟩) n c' (modTo (upF xs by') xs 0 i) ∧ Below w.heap.size w wr) (fun s _ => n - (intOf s).toNat)
        case atStart => exact ⟨0, Nat.zero_le _, rfl, by rw [modTo_start]; exact HO.out, hb1⟩
        case round =>
          obtain ⟨i, hi2, rfl, hown, hbel⟩ := hrel
          by_cases hlt : i < n
          · have hc := modTo_cell hown hlt
            have hf := hown.frozen (i * 2)
            have HO2 := hide (upL_stored hown (Nat.zero_le _) hlt)
            obtain ⟨a1, a2, _, _⟩ := okH_get O.out (show i < xs.length by rw [HL.out]; omega)
            clear hown
            generalize vI xs i = v at *
            have l1 : (i : Int) < n := by omega
            go_wp2_with fail
            go_roundw
            case rel => exact ⟨i + 1, by omega, by go_num, HO2.out, hbel.setCell hgB _⟩
            case measure => simp [intOf]; omega
          · obtain rfl : i = n := by omega
            have hup : modTo (upF xs by') xs 0 i = upL xs 0 (i - 1) by' := by unfold upL; rw [show i - 1 + 1 = i by omega]
            rw [hup] at hown
            have HO2 := hide hown
            have hlen1 := hide (show 1 ≤ xs.length ∧ xs.length ≤ 12 by rw [HL.out]; exact ⟨hn1, hn12⟩)
            clear hown hup
            go_wp2_with fail
            refine (told_any _ _ _ _ _ HO2.out.row (by omega)).mono ?_
            have HTP := hide (told_post hlen1.out.1 hlen1.out.2 h1 h2 rfl HO2.out hbel)
            by_cases hz : errH (upL xs 0 (i - 1) by') = 0
            · rw [if_pos hz, if_pos hz] at *
              rintro e w3 ⟨rfl, rfl⟩
              clear hz
              go_wp2_with fail
              go_ret2
              exact HTP.out
            · rw [if_neg hz, if_neg hz] at *
              rintro e w3 ⟨rfl, rfl⟩
              clear hz
              go_wp2_with fail
              go_ret2
              exact HTP.out
    · have hw : withinB by' (-100) 100 = false := withinB_false (by omega)
      go_enter Try.func50, Try.ntmps50
      go_wp2_with (first | (go_at_call 25; refine (rValidate_any _ _ _ xs _ HR.out (by omega)).mono ?_; rw [HE.out]; rintro e w1 ⟨rfl, rfl⟩) | (go_at_call 64; refine (within_any _ _ _ _).mono ?_; rintro e w' ⟨rfl, rfl⟩))
      go_ret2
      exact list_none (errU_out hby) (by omega) (Below.refl _ _)
  · have he' := errH_ne he
    have hE : errRA xs by' = errH xs := by unfold errRA; rw [if_neg he]
    have HE := hide he
    have HEE := hide hE
    clear h hl hE
    go_enter Try.func50, Try.ntmps50
    go_wp2_with fail
    refine (rValidate_any _ _ _ xs _ HR.out (by omega)).mono ?_
    rintro e w1 ⟨rfl, rfl⟩
    go_wp2_with fail
    go_ret2
    exact list_none HEE.out HE.out (Below.refl _ _)

set_option maxHeartbeats 2000000 in
theorem Opposite_any (A : Option Addr) (n c : Nat) (xs : Rd) (w : World) (h : Row w A n c xs) (hn2 : n ≤ 1000) :
    Calls Try.prog 52 #[.slice A n c] w (ListPost w.heap.size (opL xs) (errH xs) w) := by
  have HR := hide h
  have hl := h.length
  by_cases he : errH xs = 0
  · obtain ⟨e1, e2, e3⟩ := errH_zero he
    have hn1 : 1 ≤ n := by omega
    have hn12 : n ≤ 12 := by omega
    have HE := hide he
    have HL := hide hl
    have O := hide e3
    clear h hl he e1 e2 e3
    go_enter Try.func52, Try.ntmps52
    go_wp2_with fail
    refine (Validate_any _ _ _ xs _ HR.out (by omega)).mono ?_
    rw [HE.out]
    rintro e w0 ⟨rfl, hb0⟩
    have HROW := hide (HR.out.below hb0 (Nat.le_refl _))
    go_wp2_with fail
    refine (Clone_any _ _ _ _ _ HROW.out (by omega) (by omega)).mono ?_
    rintro e w1 ⟨A', c', rfl, hown, hb1⟩
    rcases hown.form with ⟨_, h0, _⟩ | ⟨g, rfl, hgB, hgl, hnc, hcm⟩
    · omega
    · have HO := hide (hown.more hb0.size)
      have hbel1 := hb0.trans (hb1.mono hb0.size)
      have hgB2 : w.heap.size ≤ g := by have := hb0.size; omega
      clear hown hb0 hb1
      go_wp2_with fail
      go_loopw [16] (fun s wr => ∃ i : Nat, i ≤ n ∧ s = .int .i64 i ∧ Own wr w.heap.size 51 (some ⟨g, 0, none⟩) n c' (modTo (opF xs) xs 0 i) ∧ Below w.heap.size w wr) (fun s _ => n - (intOf s).toNat)
      case atStart => exact ⟨0, Nat.zero_le _, rfl, by rw [modTo_start]; exact HO.out, hbel1⟩
      case round =>
        obtain ⟨i, hi2, rfl, hown, hbel⟩ := hrel
        by_cases hlt : i < n
        · have hc := modTo_cell hown hlt
          have hf := hown.frozen (i * 2)
          have HO2 := hide (opL_stored hown hlt)
          obtain ⟨a1, a2, _, _⟩ := okH_get O.out (show i < xs.length by rw [HL.out]; omega)
          clear hown
          generalize vI xs i = v at *
          have l1 : (i : Int) < n := by omega
          go_wp2_with fail
          go_roundw
          case rel => exact ⟨i + 1, by omega, by go_num, HO2.out, hbel.setCell hgB2 _⟩
          case measure => simp [intOf]; omega
        · obtain rfl : i = n := by omega
          have hup : modTo (opF xs) xs 0 i = opL xs := by unfold opL; rw [HL.out]
          rw [hup] at hown
          have HO2 := hide hown
          clear hown hup
          go_wp2_with fail
          go_ret2
          exact list_ok HE.out rfl HO2.out hbel
  · have he' := errH_ne he
    have HE := hide he
    clear h hl
    go_enter Try.func52, Try.ntmps52
    go_wp2_with fail
    refine (Validate_any _ _ _ xs _ HR.out (by omega)).mono ?_
    rintro e w1 ⟨rfl, hb1⟩
    go_wp2_with fail
    go_ret2
    exact list_none rfl HE.out hb1

set_option maxHeartbeats 2000000 in
theorem rOpposite_any (A : Option Addr) (n c : Nat) (xs : Rd) (w : World) (h : Row w A n c xs) (hn2 : n ≤ 1000) :
    Calls Try.prog 53 #[.slice A n c] w (ListPost w.heap.size (opL xs) (errH xs) w) := by
  have HR := hide h
  have hl := h.length
  by_cases he : errH xs = 0
  · obtain ⟨e1, e2, e3⟩ := errH_zero he
    have hn1 : 1 ≤ n := by omega
    have hn12 : n ≤ 12 := by omega
    have HE := hide he
    have HL := hide hl
    have O := hide e3
    clear h hl he e1 e2 e3
    go_enter Try.func53, Try.ntmps53
    go_wp2_with fail
    refine (rValidate_any _ _ _ xs _ HR.out (by omega)).mono ?_
    rw [HE.out]
    rintro e w0 ⟨rfl, rfl⟩
    go_wp2_with fail
    refine (Copy_any _ _ _ _ _ HR.out (by omega)).mono ?_
    rintro e w1 ⟨A', c', rfl, hown, hb1⟩
    rcases hown.form with ⟨_, h0, _⟩ | ⟨g, rfl, hgB2, hgl, hnc, hcm⟩
    · omega
    · have HO := hide hown
      clear hown
      go_wp2_with fail
      go_loopw [6] (fun s wr => ∃ i : Nat, i ≤ n ∧ s = .int .i64 i ∧ Own wr w.heap.size 51 (some ⟨g, 0, none⟩) n c' (modTo (opF xs) xs 0 i) ∧ Below w.heap.size w wr) (fun s _ => n - (intOf s).toNat)
      case atStart => exact ⟨0, Nat.zero_le _, rfl, by rw [modTo_start]; exact HO.out, hb1⟩
      case round =>
        obtain ⟨i, hi2, rfl, hown, hbel⟩ := hrel
        by_cases hlt : i < n
        · have hc := modTo_cell hown hlt
          have hf := hown.frozen (i * 2)
          have HO2 := hide (opL_stored hown hlt)
          obtain ⟨a1, a2, _, _⟩ := okH_get O.out (show i < xs.length by rw [HL.out]; omega)
          clear hown
          generalize vI xs i = v at *
          have l1 : (i : Int) < n := by omega
          go_wp2_with fail
          go_roundw
          case rel => exact ⟨i + 1, by omega, by go_num, HO2.out, hbel.setCell hgB2 _⟩
          case measure => simp [intOf]; omega
        · obtain rfl : i = n := by omega
          have hup : modTo (opF xs) xs 0 i = opL xs := by unfold opL; rw [HL.out]
          rw [hup] at hown
          have HO2 := hide hown
          clear hown hup
          go_wp2_with fail
          go_ret2
          exact list_ok HE.out rfl HO2.out hbel
  · have he' := errH_ne he
    have HE := hide he
    clear h hl
    go_enter Try.func53, Try.ntmps53
    go_wp2_with fail
    refine (rValidate_any _ _ _ xs _ HR.out (by omega)).mono ?_
    rintro e w1 ⟨rfl, rfl⟩
    go_wp2_with fail
    go_ret2
    exact list_none rfl HE.out (Below.refl _ _)

/-- Fractions with what is added, and what they lack to 100. -/
theorem rt_plus (q : Rat) (k : Int) : rt (nu q + k * de q) (de q) = q + (k : Rat) := by
  have h1 := rat_nd q
  have h2 : (0 : Rat) < ((q.den : Int) : Rat) := cast_pos (den_pos q)
  have e : ((q.num + k * (q.den : Int) : Int) : Rat) = (q + (k : Rat)) * ((q.den : Int) : Rat) := by
    rw [Rat.intCast_add, Rat.intCast_mul, h1]
    grind
  show rt (q.num + k * (q.den : Int)) (q.den : Int) = _
  unfold rt
  rw [e, Rat.mul_div_cancel (by grind)]
theorem rt_minus (q : Rat) : rt (100 * de q - nu q) (de q) = (100 : Rat) - q := by
  have h1 := rat_nd q
  have h2 : (0 : Rat) < ((q.den : Int) : Rat) := cast_pos (den_pos q)
  have e : ((100 * (q.den : Int) - q.num : Int) : Rat) = ((100 : Rat) - q) * ((q.den : Int) : Rat) := by
    rw [Rat.intCast_sub, Rat.intCast_mul, h1]
    have : ((100 : Int) : Rat) = 100 := rfl
    rw [this]
    grind
  show rt (100 * (q.den : Int) - q.num) (q.den : Int) = _
  unfold rt
  rw [e, Rat.mul_div_cancel (by grind)]
theorem upL_len (xs : Rd) (a b : Nat) (k : Int) : (upL xs a b k).length = xs.length := modTo_len ..
theorem rr_upAll {xs : Rd} {k : Int} (o : okH xs = true) (o2 : okH (upL xs 0 (xs.length - 1) k) = true) {i : Nat} (hi : i < xs.length) : rr (upL xs 0 (xs.length - 1) k) i = rr xs i + (k : Rat) := by
  have kk := (best_kkt o).raise (k : Rat)
  have hl := upL_len xs 0 (xs.length - 1) k
  rw [← hl] at kk
  have hg : ∀ j, j < xs.length → (upL xs 0 (xs.length - 1) k).getD j (0, 0) = (vI xs j + k, wI xs j) := fun j hj => by
    unfold upL
    rw [modTo_get _ _ _ _ hj, if_pos (by omega)]; rfl
  exact rr_of o2 kk (fun j hj => by rw [hl] at hj; unfold vq; rw [← Rat.intCast_add]; congr 1; show vI xs j + k = ((upL xs 0 (xs.length - 1) k).getD j (0, 0)).1; rw [hg j hj]) (fun j hj => by rw [hl] at hj; unfold wq; congr 1; show wI xs j = ((upL xs 0 (xs.length - 1) k).getD j (0, 0)).2; rw [hg j hj]) i (by rw [hl]; exact hi)
theorem opL_len (xs : Rd) : (opL xs).length = xs.length := modTo_len ..
theorem opL_get (xs : Rd) {j : Nat} (hj : j < xs.length) : (opL xs).getD j (0, 0) = (100 - vI xs j, wI xs j) := by
  unfold opL
  rw [modTo_get _ _ _ _ hj, if_pos (by omega)]; rfl
theorem opL_ok {xs : Rd} (o : okH xs = true) : okH (opL xs) = true := okH_all fun i hi => by
  rw [opL_len] at hi
  have := okH_get o hi
  unfold vI wI at *
  rw [opL_get xs hi]
  simp only [vI, wI]
  omega
theorem rr_opp {xs : Rd} (o : okH xs = true) {i : Nat} (hi : i < xs.length) : rr (opL xs.reverse) i = (100 : Rat) - rr xs (xs.length - 1 - i) := by
  have kk := (best_kkt o).opposite 100
  have hl : (opL xs.reverse).length = xs.length := by rw [opL_len, List.length_reverse]
  rw [← hl] at kk
  have o2 := opL_ok (okH_rev o)
  have hg : ∀ j, j < xs.length → (opL xs.reverse).getD j (0, 0) = (100 - vI xs (xs.length - 1 - j), wI xs (xs.length - 1 - j)) := fun j hj => by
    rw [opL_get _ (by rw [List.length_reverse]; exact hj)]
    unfold vI wI
    rw [getD_reverse hj]
  have := rr_of o2 kk (fun j hj => by
    rw [hl] at hj
    unfold vq
    have e : vI (opL xs.reverse) j = 100 - vI xs (xs.length - 1 - j) := by show ((opL xs.reverse).getD j (0, 0)).1 = _; rw [hg j hj]
    rw [e, hl, Rat.intCast_sub]
    rfl) (fun j hj => by
    rw [hl] at hj
    unfold wq
    have e : wI (opL xs.reverse) j = wI xs (xs.length - 1 - j) := by show ((opL xs.reverse).getD j (0, 0)).2 = _; rw [hg j hj]
    rw [e, hl]) i (by rw [hl]; exact hi)
  rw [hl] at this
  exact this

end Go.Proofs.Ytnngafndlgnclaa
