/- Walks: Blasts, both sides. -/
import Derived.Test.YtbehnhhgoeiofaaLawTurns
import Derived.Test.YtbehnhhgoeiofaaMathBl
import Derived.Deep.QuietTactic
import Derived.BigQuiet
namespace Go.Proofs.Ytbehnhhgoeiofaa
open Go.RowKit

theorem blTo_facts {xs : List Int} (hb : bitsB xs = true) (h0 : xs.getD 0 0 = 1) (k : Nat) (h1 : 1 ≤ k) (hk : k ≤ xs.length) :
    1 ≤ (blTo xs k).length ∧ (blTo xs k).length ≤ k ∧ 0 ≤ (blTo xs k).getD ((blTo xs k).length - 1) 0 ∧ (blTo xs k).getD ((blTo xs k).length - 1) 0 ≤ k := by
  obtain ⟨l, m, e1, e2, e3, e4, e5, e6, e7⟩ := blTo_spec hb h0 k h1 hk
  rw [e1]
  simp [List.getD_eq_getElem?_getD]
  omega

theorem app_inc {w : World} {B m c : Nat} {A : Option Addr} {l : List Int} (h : Own w B A (m + 1) c (l ++ [0])) :
    ∃ g, A = some ⟨g, 0, none⟩ ∧ B ≤ g ∧ w.cell? ⟨g, m, none⟩ = some (.int .i64 0) ∧ w.frozen? ⟨g, m, none⟩ = false ∧ Own (w.setCell ⟨g, m, none⟩ (.int .i64 1)) B (some ⟨g, 0, none⟩) (m + 1) c (incLast (l ++ [0])) := by
  obtain ⟨g, rfl, hB, _, _, _⟩ := h.addr (by omega)
  have hl := h.len
  rw [List.length_append, List.length_singleton] at hl
  have hm : l.length = m := by omega
  have hc := h.cell (k := m) (by omega)
  have hst := h.stored m 1
  refine ⟨g, rfl, hB, ?_, h.frozen m, ?_⟩
  · rw [hc]; simp [List.getD_eq_getElem?_getD, ← hm]
  · rw [incLast_snoc]
    have e : List.set (l ++ [(0 : Int)]) m 1 = l ++ [0 + 1] := by rw [← hm]; simp
    rw [e] at hst
    exact hst

set_option maxHeartbeats 1000000 in
theorem Blasts_any (A : Option Addr) (n c : Nat) (xs : List Int) (w : World) (h : Row w A n c xs) (hn : n ≤ 1000) :
    Calls Try.prog 50 #[.slice A n c] w fun e w' => ∃ A' n' c', e = .returned (.tuple #[.slice A' n' c', .int .i64 (errBl xs)]) ∧ Own w' w.heap.size A' n' c' (okl (errBl xs) (blL xs)) ∧ Below w.heap.size w w' := by
  have HR := hide h
  have h1 := h.length
  by_cases he : errOf xs = 0
  · obtain ⟨l1, l2, l3⟩ := errOf_zero he
    have l1' : 1 ≤ n := by omega
    have l2' : n ≤ 24 := by omega
    have HE := hide he
    have HB := hide l3
    obtain ⟨b, off, q1, hcap, hmax, q2, q3, q4⟩ := h
    obtain rfl := q2 (by omega)
    have q3' := q3 (by omega)
    have H4 := hide q4
    have H1 := hide q1
    have c0 := q4 0 (by omega)
    have cn := q4 (n - 1) (by omega)
    rw [Nat.add_zero] at c0
    cases hr : ruleB xs with
    | false =>
      have hbl := errBl_no he hr
      have HBL := hide hbl
      unfold ruleB at hr
      rw [q1] at hr
      clear h1 he l1 l2 l3 q1 q2 q3 q4 hbl
      generalize xs.getD 0 0 = x at *
      generalize xs.getD (n - 1) 0 = y at *
      by_cases hx : x = 1
      · subst hx
        have hy : (y != 0) = true := by simpa using hr
        clear hr
        go_enter Try.func50, Try.ntmps50
        go_wp2_with fail
        refine (Validate_any _ _ _ xs _ HR.out (by omega)).mono ?_
        rintro e w' ⟨rfl, rfl⟩
        rw [HE.out]
        go_wp2
        go_ret2
        exact ⟨none, 0, 0, ret2_vi HBL.out.symm, by rw [okl_ne (by rw [HBL.out]; decide)]; exact Own.nil _ _, Below.refl _ _⟩
      · have hx' : (x != 1) = true := by simp [hx]
        clear hr hx
        go_enter Try.func50, Try.ntmps50
        go_wp2_with fail
        refine (Validate_any _ _ _ xs _ HR.out (by omega)).mono ?_
        rintro e w' ⟨rfl, rfl⟩
        rw [HE.out]
        go_wp2
        go_ret2
        exact ⟨none, 0, 0, ret2_vi HBL.out.symm, by rw [okl_ne (by rw [HBL.out]; decide)]; exact Own.nil _ _, Below.refl _ _⟩
    | true =>
      have hbl := errBl_yes he hr
      have HBL := hide hbl
      unfold ruleB at hr
      rw [q1] at hr
      have hx : xs.getD 0 0 = 1 := by simp at hr; simpa [List.getD_eq_getElem?_getD] using hr.1
      have hy : xs.getD (n - 1) 0 = 0 := by simp at hr; simpa [List.getD_eq_getElem?_getD] using hr.2
      rw [hx] at c0
      rw [hy] at cn
      have HX := hide hx
      clear h1 he l1 l2 l3 q1 q2 q3 q4 hbl hr hx hy
      go_enter Try.func50, Try.ntmps50
      go_wp2_with fail
      refine (Validate_any _ _ _ xs _ HR.out (by omega)).mono ?_
      rintro e w' ⟨rfl, rfl⟩
      rw [HE.out]
      go_wp2
      go_loopw [5, 28] (fun v j wr => ∃ (k m : Nat) (A' : Option Addr) (c' : Nat), k ≤ n ∧ j = .int .i64 k ∧ v = .slice A' m c' ∧ m ≤ k ∧ Own wr w.heap.size A' m c' (blTo xs k) ∧ Below w.heap.size w wr) (fun _ j _ => n - (intOf j).toNat)
      case atStart => exact ⟨0, 0, none, 0, Nat.zero_le _, rfl, rfl, Nat.le_refl _, Own.nil _ _, Below.refl _ _⟩
      case round =>
        obtain ⟨k, m, A', c', hk, rfl, rfl, hm, hown, hb⟩ := hrel
        have hsz := hb.size
        by_cases hlt : k < n
        · have hcx := (hb.cell (p := ⟨b, off + k, none⟩) q3').trans (H4.out k hlt)
          have hcp : 1 ≤ k → wr.cell? ⟨b, off + (k - 1), none⟩ = some (.int .i64 (xs.getD (k - 1) 0)) := fun _ => (hb.cell (p := ⟨b, off + (k - 1), none⟩) q3').trans (H4.out (k - 1) (by omega))
          cases hnew : newB xs k with
          | true =>
            have hstep : blTo xs (k + 1) = incLast (blTo xs k ++ [0]) := by rw [blTo_new hnew, incLast_snoc]; rfl
            have HST := hide hstep
            clear hstep
            by_cases hk0 : k = 0
            · subst hk0
              obtain rfl : m = 0 := by omega
              clear hcp hnew
              rw [Nat.add_zero] at hcx
              generalize xs.getD 0 0 = x at hcx
              go_wp2_with (at_builtin; refine wpList_app1 _ rfl (.tmp 44) (.tmp 45) rfl w.heap.size 0 c' A' _ 0 rfl rfl hown (by omega) hsz ?_; intro A1 c1 w1 hown1 hb1 _; obtain ⟨g1, rfl, hgB, hc1, hf1, hst⟩ := app_inc hown1; clear hown1)
              go_roundw
              case rel => exact ⟨1, 0 + 1, some ⟨g1, 0, none⟩, c1, by omega, rfl, rfl, by omega, by rw [HST.out]; exact hst, hb.trans ((hb1.setCell hgB _).mono (Nat.le_refl _))⟩
              case measure => simp [intOf]; omega
            · have hcp' := hcp (by omega)
              have hne : (xs.getD k 0 != xs.getD (k - 1) 0) = true := by
                unfold newB at hnew
                have : (k == 0) = false := by simp [hk0]
                rwa [this, Bool.false_or] at hnew
              have hk0' : ((k : Int) == 0) = false := by simp [hk0]
              clear hcp hnew
              generalize xs.getD k 0 = x at *
              generalize xs.getD (k - 1) 0 = y at *
              go_wp2_with (at_builtin; refine wpList_app1 _ rfl (.tmp 44) (.tmp 45) rfl w.heap.size m c' A' _ 0 rfl rfl hown (by omega) hsz ?_; intro A1 c1 w1 hown1 hb1 _; obtain ⟨g1, rfl, hgB, hc1, hf1, hst⟩ := app_inc hown1; clear hown1)
              go_roundw
              case rel => exact ⟨k + 1, m + 1, some ⟨g1, 0, none⟩, c1, by omega, by go_num, by go_num, by omega, by rw [HST.out]; exact hst, hb.trans ((hb1.setCell hgB _).mono (Nat.le_refl _))⟩
              case measure => simp [intOf]; omega
          | false =>
            have hk0 : k ≠ 0 := by
              intro e; subst e; simp [newB] at hnew
            have hcp' := hcp (by omega)
            have hne : (xs.getD k 0 != xs.getD (k - 1) 0) = false := by
              unfold newB at hnew
              have : (k == 0) = false := by simp [hk0]
              rwa [this, Bool.false_or] at hnew
            have hk0' : ((k : Int) == 0) = false := by simp [hk0]
            obtain ⟨f1, f2, f3, f4⟩ := blTo_facts HB.out HX.out k (by omega) (by rw [H1.out]; omega)
            have hl := hown.len
            rw [hl] at f1 f2 f3 f4
            have HST := hide (blTo_old hnew)
            obtain ⟨g1, rfl, hgB, _, _, _⟩ := hown.addr f1
            have hc1 := hown.cell (k := m - 1) (by omega)
            have hf1 := hown.frozen (m - 1)
            have hst := hown.stored (m - 1) ((blTo xs k).getD (m - 1) 0 + 1)
            have hst' : Own (wr.setCell ⟨g1, m - 1, none⟩ (.int .i64 ((blTo xs k).getD (m - 1) 0 + 1))) w.heap.size (some ⟨g1, 0, none⟩) m c' (incLast (blTo xs k)) := by
              unfold incLast; rw [hl]; exact hst
            clear hcp hnew hst hl
            generalize xs.getD k 0 = x at *
            generalize xs.getD (k - 1) 0 = y at *
            generalize (blTo xs k).getD (m - 1) 0 = z at *
            go_wp2
            go_roundw
            case rel => exact ⟨k + 1, m, some ⟨g1, 0, none⟩, c', by omega, by go_num, rfl, by omega, by rw [HST.out]; exact hst', hb.setCell hgB _⟩
            case measure => simp [intOf]; omega
        · obtain rfl : k = n := by omega
          go_wp2
          go_ret2
          exact ⟨_, _, _, ret2_vi HBL.out.symm, by rw [HBL.out, okl_zero rfl]; unfold blL; rw [H1.out]; exact hown, hb⟩
  · have he' : (errOf xs != 0) = true := by simp [he]
    have HE := hide he
    clear h h1 he
    go_enter Try.func50, Try.ntmps50
    go_wp2_with fail
    refine (Validate_any _ _ _ xs _ HR.out (by omega)).mono ?_
    rintro e w' ⟨rfl, rfl⟩
    go_wp2
    go_ret2
    exact ⟨none, 0, 0, ret2_vi (errBl_ne HE.out).symm, by rw [errBl_ne HE.out, okl_ne HE.out]; exact Own.nil _ _, Below.refl _ _⟩

set_option maxHeartbeats 1000000 in
theorem rBlasts_any (A : Option Addr) (n c : Nat) (xs : List Int) (w : World) (h : Row w A n c xs) (hn : n ≤ 1000) :
    Calls Try.prog 51 #[.slice A n c] w fun e w' => ∃ A' n' c', e = .returned (.tuple #[.slice A' n' c', .int .i64 (errBl xs)]) ∧ Own w' w.heap.size A' n' c' (okl (errBl xs) (blL xs)) ∧ Below w.heap.size w w' := by
  have HR := hide h
  have h1 := h.length
  by_cases he : errOf xs = 0
  · obtain ⟨l1, l2, l3⟩ := errOf_zero he
    have l1' : 1 ≤ n := by omega
    have l2' : n ≤ 24 := by omega
    have HE := hide he
    have HB := hide l3
    obtain ⟨b, off, q1, hcap, hmax, q2, q3, q4⟩ := h
    obtain rfl := q2 (by omega)
    have q3' := q3 (by omega)
    have H4 := hide q4
    have H1 := hide q1
    have c0 := q4 0 (by omega)
    have cn := q4 (n - 1) (by omega)
    rw [Nat.add_zero] at c0
    cases hr : ruleB xs with
    | false =>
      have hbl := errBl_no he hr
      have HBL := hide hbl
      unfold ruleB at hr
      rw [q1] at hr
      clear h1 he l1 l2 l3 q1 q2 q3 q4 hbl
      generalize xs.getD 0 0 = x at *
      generalize xs.getD (n - 1) 0 = y at *
      by_cases hx : x = 1
      · subst hx
        have hy : (y != 0) = true := by simpa using hr
        clear hr
        go_enter Try.func51, Try.ntmps51
        go_wp2_with fail
        refine (rValidate_any _ _ _ xs _ HR.out (by omega)).mono ?_
        rintro e w' ⟨rfl, rfl⟩
        rw [HE.out]
        go_wp2
        go_ret2
        exact ⟨none, 0, 0, ret2_vi HBL.out.symm, by rw [okl_ne (by rw [HBL.out]; decide)]; exact Own.nil _ _, Below.refl _ _⟩
      · have hx' : (x != 1) = true := by simp [hx]
        clear hr hx
        go_enter Try.func51, Try.ntmps51
        go_wp2_with fail
        refine (rValidate_any _ _ _ xs _ HR.out (by omega)).mono ?_
        rintro e w' ⟨rfl, rfl⟩
        rw [HE.out]
        go_wp2
        go_ret2
        exact ⟨none, 0, 0, ret2_vi HBL.out.symm, by rw [okl_ne (by rw [HBL.out]; decide)]; exact Own.nil _ _, Below.refl _ _⟩
    | true =>
      have hbl := errBl_yes he hr
      have HBL := hide hbl
      unfold ruleB at hr
      rw [q1] at hr
      have hx : xs.getD 0 0 = 1 := by simp at hr; simpa [List.getD_eq_getElem?_getD] using hr.1
      have hy : xs.getD (n - 1) 0 = 0 := by simp at hr; simpa [List.getD_eq_getElem?_getD] using hr.2
      rw [hx] at c0
      rw [hy] at cn
      have HX := hide hx
      clear h1 he l1 l2 l3 q1 q2 q3 q4 hbl hr hx hy
      go_enter Try.func51, Try.ntmps51
      go_wp2_with fail
      refine (rValidate_any _ _ _ xs _ HR.out (by omega)).mono ?_
      rintro e w' ⟨rfl, rfl⟩
      rw [HE.out]
      go_wp2
      go_loopw [5, 6, 7] (fun v r j wr => ∃ (k m : Nat) (A' : Option Addr) (c' : Nat), k ≤ n ∧ j = .int .i64 k ∧ r = .int .i64 (rrun xs k) ∧ v = .slice A' m c' ∧ m ≤ k ∧ Own wr w.heap.size A' m c' (rlist xs k) ∧ Below w.heap.size w wr) (fun _ _ j _ => n - (intOf j).toNat)
      case atStart => exact ⟨0, 0, none, 0, Nat.zero_le _, rfl, rfl, rfl, Nat.le_refl _, Own.nil _ _, Below.refl _ _⟩
      case round =>
        obtain ⟨k, m, A', c', hk, rfl, rfl, rfl, hm, hown, hb⟩ := hrel
        have hsz := hb.size
        obtain ⟨g1, g2⟩ := rrun_bd xs k
        by_cases hlt : k < n
        · have hcx := (hb.cell (p := ⟨b, off + k, none⟩) q3').trans (H4.out k hlt)
          have i1 : (k : Int) < (n : Int) := by omega
          cases hnew : endB xs k with
          | true =>
            have HL1 := hide (rlist_end hnew)
            have HR1 := hide (rrun_end hnew)
            by_cases hkn : k + 1 = n
            · have t1 : ((k : Int) + 1 == (n : Int)) = true := by simp; omega
              have HKN := hide hkn
              clear hnew hkn
              generalize xs.getD k 0 = x at hcx
              generalize hrr : rrun xs k = r at *
              go_wp2
              go_quiet (fail)
              go_wp2_with (at_builtin; refine wpList_app1 _ rfl (.tmp 51) (.tmp 53) rfl w.heap.size m c' A' _ _ rfl rfl (show Own (wr.drewN nq) w.heap.size A' m c' (rlist xs k) from hown) (by omega) (by exact hsz) ?_; intro A1 c1 w1 hown1 hb1 _)
              go_roundw
              case rel => exact ⟨k + 1, m + 1, A1, c1, by omega, by go_num, by rw [HR1.out], by go_num, by omega, by rw [HL1.out]; exact hown1, (below_drewN' hb _).trans hb1⟩
              case measure => simp [intOf]; omega
            · have t1 : ((k : Int) + 1 == (n : Int)) = false := by simp; omega
              have i2 : (k : Int) + 1 < (n : Int) := by omega
              have hcy := (hb.cell (p := ⟨b, off + (k + 1), none⟩) q3').trans (H4.out (k + 1) (by omega))
              have hne : (xs.getD (k + 1) 0 != xs.getD k 0) = true := by
                unfold endB at hnew
                have : (k + 1 == xs.length) = false := by rw [H1.out]; simp; omega
                rwa [this, Bool.false_or] at hnew
              clear hnew hkn
              generalize xs.getD k 0 = x at *
              generalize xs.getD (k + 1) 0 = y at *
              generalize hrr : rrun xs k = r at *
              go_wp2
              go_quiet (fail)
              go_wp2_with (at_builtin; refine wpList_app1 _ rfl (.tmp 51) (.tmp 53) rfl w.heap.size m c' A' _ _ rfl rfl (show Own (wr.drewN nq) w.heap.size A' m c' (rlist xs k) from hown) (by omega) (by exact hsz) ?_; intro A1 c1 w1 hown1 hb1 _)
              go_roundw
              case rel => exact ⟨k + 1, m + 1, A1, c1, by omega, by go_num, by rw [HR1.out], by go_num, by omega, by rw [HL1.out]; exact hown1, (below_drewN' hb _).trans hb1⟩
              case measure => simp [intOf]; omega
          | false =>
            have HL1 := hide (rlist_go hnew)
            have HR1 := hide (rrun_go hnew)
            have hkn : k + 1 ≠ n := by
              intro e; unfold endB at hnew; rw [H1.out] at hnew; simp [e] at hnew
            have t1 : ((k : Int) + 1 == (n : Int)) = false := by simp; omega
            have i2 : (k : Int) + 1 < (n : Int) := by omega
            have hcy := (hb.cell (p := ⟨b, off + (k + 1), none⟩) q3').trans (H4.out (k + 1) (by omega))
            have hne : (xs.getD (k + 1) 0 != xs.getD k 0) = false := by
              unfold endB at hnew
              have : (k + 1 == xs.length) = false := by rw [H1.out]; simp; omega
              rwa [this, Bool.false_or] at hnew
            clear hnew hkn
            generalize xs.getD k 0 = x at *
            generalize xs.getD (k + 1) 0 = y at *
            go_wp2
            go_quiet (fail)
            go_wp2
            go_roundw
            case rel => exact ⟨k + 1, m, A', c', by omega, by go_num, by rw [HR1.out], rfl, by omega, by rw [HL1.out]; exact hown, below_drewN' hb _⟩
            case measure => simp [intOf]; omega
        · obtain rfl : k = n := by omega
          have HQ := hide (blL_eq (xs := xs) (by rw [H1.out]; omega))
          go_wp2
          go_ret2
          exact ⟨_, _, _, ret2_vi HBL.out.symm, by rw [HBL.out, okl_zero rfl, HQ.out, H1.out]; exact hown, hb⟩
  · have he' : (errOf xs != 0) = true := by simp [he]
    have HE := hide he
    clear h h1 he
    go_enter Try.func51, Try.ntmps51
    go_wp2_with fail
    refine (rValidate_any _ _ _ xs _ HR.out (by omega)).mono ?_
    rintro e w' ⟨rfl, rfl⟩
    go_wp2
    go_ret2
    exact ⟨none, 0, 0, ret2_vi (errBl_ne HE.out).symm, by rw [errBl_ne HE.out, okl_ne HE.out]; exact Own.nil _ _, Below.refl _ _⟩


end Go.Proofs.Ytbehnhhgoeiofaa
