/- The document's made, Plus and Minus; the program's Plus and Minus. -/
import Derived.Test.YtllfkhcpdgdmnaaWalkH
namespace Go.Proofs.Ytllfkhcpdgdmnaa
open Go.RowKit Go.Shelf

set_option maxHeartbeats 4000000 in
theorem made_any (A : Option Addr) (n c : Nat) (l : List Int) (B0 : Nat) (w : World) (h : Own E1 w B0 3 A n c l) (hn : n ≤ 1000) :
    Calls Try.prog 88 #[.slice A n c] w (RowPost (errM l) (madV l) w) := by
  have HLL := hide h.len
  go_enter Try.func88, Try.ntmps88
  go_wp2_with (go_at_call 85; refine (rsorted_any _ _ _ l _ _ h (by omega)).mono ?_; rintro e w2 ⟨A2, n2, c2, rfl, o2, b2⟩)
  have HN := hide o2.len
  have hn2 : n2 ≤ 1000 := by
    have h5 := HN.out
    rw [sortZ_len, HLL.out] at h5
    omega
  have HO2 := hide o2
  have B2 := hide b2
  have HM2 := hide (fun h => errM_two (l := l) h)
  have HM1 := hide (fun h => errM_one (l := l) h)
  have HV0 := hide (fun h => madV_no (l := l) h)
  have HV1 := hide (fun h => madV_one (l := l) h)
  clear o2 b2 h
  generalize sortZ l = s at HN HO2 HM2 HM1 HV1
  go_loopw [5] (fun i wr => ∃ k q : Nat, 1 ≤ k ∧ (k ≤ n2 ∨ k = 1) ∧ i = .int .i64 k ∧ wr = w2.drewN q ∧ Hid (∀ j, j < k → 0 < j → s.getD (j - 1) 0 ≠ s.getD j 0)) (fun i _ => n2 - (intOf i).toNat)
  case atStart => exact ⟨1, 0, Nat.le_refl _, .inr rfl, by go_num, rfl, fun j hj h0 => absurd h0 (by omega)⟩
  case round =>
    obtain ⟨k, q, hk1, hk, rfl, rfl, HS⟩ := hrel
    by_cases hlt : k < n2
    · obtain ⟨b, off, hr⟩ := HO2.out.row
      obtain rfl := hr.at_ (by omega)
      have hbl := hr.lt (by omega)
      have hcap := hr.cap
      have hmax := hr.max
      have a1 := c1 hr hlt
      have a0 := c1 hr (k := k - 1) (by omega)
      clear hr
      have i1 : (k : Int) < (n2 : Int) := by omega
      have hkk : ((k : Int) - 1) = ((k - 1 : Nat) : Int) := by omega
      have HT := hide (fun h => twoB_true (xs := s) (k := k) (by rw [HN.out]; exact hlt) hk1 h)
      have HNN := hide (fun (h : s.getD (k - 1) 0 ≠ s.getD k 0) j (hj : j < k + 1) (h0 : 0 < j) => (show s.getD (j - 1) 0 ≠ s.getD j 0 from by
        by_cases e : j = k
        · subst e; exact h
        · exact HS.out j (by omega) h0))
      generalize s.getD k 0 = x at a1 HT HNN
      generalize s.getD (k - 1) 0 = y at a0 HT HNN
      by_cases hxy : x = y
      · subst hxy
        go_wp2_with fail
        go_quiet (fail)
        go_wp2_with fail
        have HT2 := HT.out (by trivial)
        go_ret2
        exact ⟨none, 0, 0, by rw [HM2.out HT2]; rfl, by rw [HV0.out (by rw [HM2.out HT2]; decide)]; exact Own.nil _ _ _ _, below_drewN (below_drewN B2.out _) _⟩
      · go_wp2_with fail
        go_quiet (fail)
        go_wp2_with fail
        go_roundw
        case rel => exact ⟨k + 1, q + nq, by omega, by omega, by go_num, by first | rfl | (rw [World.drewN_drewN]), HNN.out (fun e => hxy e.symm)⟩
        case measure => simp [intOf] <;> omega
    · have HT := hide (twoB_false (xs := s) (fun i hi => HS.out i (by rw [HN.out] at hi; omega)))
      by_cases he : errC s = 0
      · have HE := hide he
        have HC := hide (show chkV s = s from if_pos he)
        clear he
        go_wp2_with (go_at_call 25; refine (rValidate_any _ _ _ s _ (HO2.out.drewN q).row (by omega)).mono ?_; rintro e w3 ⟨rfl, b3⟩; rw [HE.out]; have B3 := hide b3; clear b3)
        go_ret2
        exact ⟨A2, n2, c2, by rw [HM1.out HT.out, HE.out]; rfl, by rw [HV1.out HT.out, HC.out]; exact (HO2.out.drewN q).below B3.out (Nat.le_refl _), (below_drewN B2.out q).trans (B3.out.mono B2.out.size)⟩
      · have HC := hide (show chkV s = [] from if_neg he)
        have hne : (errC s != 0) = true := by simpa using he
        clear he
        go_wp2_with (go_at_call 25; refine (rValidate_any _ _ _ s _ (HO2.out.drewN q).row (by omega)).mono ?_; rintro e w3 ⟨rfl, b3⟩; have B3 := hide b3; clear b3)
        go_ret2
        exact ⟨none, 0, 0, by rw [HM1.out HT.out]; rfl, by rw [HV1.out HT.out, HC.out]; exact Own.nil _ _ _ _, (below_drewN B2.out q).trans (B3.out.mono B2.out.size)⟩
set_option maxRecDepth 100000 in
set_option maxHeartbeats 4000000 in
theorem rPlus_any (A : Option Addr) (n c : Nat) (xs : List Int) (A' : Option Addr) (n' c' : Nat) (ys : List Int) (w : World) (h : R E1 w A n c xs) (h' : R E1 w A' n' c' ys) (hn : n ≤ 1000) (hn' : n' ≤ 1000) :
    Calls Try.prog 49 #[.slice A n c, .slice A' n' c'] w (RowPost (errS (fun x y => x + y) xs ys) (cmbV (fun x y => x + y) xs ys) w) := by
  have HX := hide h
  have HY := hide h'
  have HL := hide h.length
  have HL' := hide h'.length
  clear h h'
  by_cases he : errB xs ys = 0
  · obtain ⟨e1, e2⟩ := errB_ok he
    have o1 := errC_ok.1 e1
    have o2 := errC_ok.1 e2
    rw [HL.out] at o1
    rw [HL'.out] at o2
    have HE := hide he
    have HV := hide o1.2.2.1
    have HV' := hide o2.2.2.1
    have hn6 := o1.2.1
    have hn6' := o2.2.1
    have hn1 := o1.1
    have hn1' := o2.1
    have HC := hide (errS_ok (fun x y => x + y) he)
    have HCV := hide (cmbV_ok (fun x y => x + y) he)
    clear he e1 e2 o1 o2
    go_enter Try.func49, Try.ntmps49
    go_wp2_with (go_at_call 67; refine (two_any _ _ _ xs _ _ _ ys _ HX.out HY.out hn hn').mono ?_; rintro e w1 ⟨rfl, b1⟩; rw [HE.out]; have B1 := hide b1; clear b1)
    obtain ⟨b, off, hr⟩ := HX.out.below B1.out (Nat.le_refl _)
    obtain ⟨b', off', hr'⟩ := HY.out.below B1.out (Nat.le_refl _)
    obtain rfl := hr.at_ (by omega)
    obtain rfl := hr'.at_ (by omega)
    have HR := hide hr
    have HR' := hide hr'
    have hbl := hr.lt (by omega)
    have hbl' := hr'.lt (by omega)
    have hcap := hr.cap
    have hmax := hr.max
    have hcap' := hr'.cap
    have hmax' := hr'.max
    clear hr hr'
    go_wp2_with fail
    go_loopw [7, 8] (fun v i wr => ∃ (k : Nat) (B : Option Addr) (m q : Nat), k ≤ n ∧ i = .int .i64 k ∧ v = .slice B m q ∧ Hid (Own E1 wr w1.heap.size 3 B m q (cmbTo (fun x y => x + y) xs ys k)) ∧ Hid (m ≤ 6 * k) ∧ Hid (Below w1.heap.size w1 wr)) (fun _ i _ => n - (intOf i).toNat)
    case atStart => exact ⟨0, none, 0, 0, Nat.zero_le _, rfl, rfl, hide (Own.nil E1 _ _ _), hide (Nat.zero_le _), hide (Below.refl _ _)⟩
    case round =>
      obtain ⟨k, B, m, q, hk, rfl, rfl, HO, HM, HB⟩ := hrel
      by_cases hlt : k < n
      · have ha1 := hide (fun (W : World) (h : Below w1.heap.size w1 W) => c1 (HR.out.under h fun _ => hbl) hlt)
        have hm := HM.out
        have hx := okTo_bd HV.out hlt
        have HS := hide (fun p hp => rowC_succ (fun x y => x + y) (xs.getD k 0) (ys := ys) (k := p) hp)
        have HD := hide (cmbTo_succ (fun x y => x + y) xs ys k)
        generalize hxe : xs.getD k 0 = x at ha1 hx HS HD
        clear hxe
        go_wp2_with fail
        go_loopw [7, 9] (fun v j wr2 => ∃ (p : Nat) (B2 : Option Addr) (m2 q2 : Nat), p ≤ n' ∧ j = .int .i64 p ∧ v = .slice B2 m2 q2 ∧ Hid (Own E1 wr2 w1.heap.size 3 B2 m2 q2 (cmbTo (fun x y => x + y) xs ys k ++ rowC (fun x y => x + y) x ys p)) ∧ Hid (m2 ≤ 6 * k + p) ∧ Hid (Below w1.heap.size w1 wr2)) (fun _ j _ => n' - (intOf j).toNat)
        case atStart => exact ⟨0, B, m, q, Nat.zero_le _, rfl, rfl, hide (by rw [rowC_zero, List.append_nil]; exact HO.out), hide hm, HB⟩
        case round =>
          obtain ⟨p, B2, m2, q2, hp, rfl, rfl, HO2, HM2, HB2⟩ := hrel
          by_cases hlp : p < n'
          · have a1 : wr.drew.cell? ⟨b, off + k, none⟩ = some (.int .i64 x) := ha1.out _ HB2.out.drew
            have a2 : wr.drew.cell? ⟨b', off' + p, none⟩ = some (.int .i64 (ys.getD p 0)) := c1 (HR'.out.under HB2.out.drew fun _ => hbl') hlp
            have hy := okTo_bd HV'.out hlp
            have hm2 := HM2.out
            have HS2 := hide (HS.out p (by rw [HL'.out]; exact hlp))
            generalize ys.getD p 0 = y at a2 hy HS2
            have hsz : w1.heap.size ≤ wr.drew.heap.size := HB2.out.size
            have hkn : (k : Int) < (n : Int) := by omega
            have hpn : (p : Int) < (n' : Int) := by omega
            have HD2 := hide HB2.out.drew
            have hw : IntKind.i64.wrap (x + y) = x + y := IntWalk.i64_in _ (by omega)
            go_wp2_with fail
            go_region_law (refine step_app1 (E := E1) wr.drew (.int .i64 0) 8 rfl (.tmp 28) (.tmp 38) 22 3 rfl Try.underlying22 info_int rfl (by decide) (by omega) w1.heap.size _ _ _ _ (x + y) _ rfl rfl rfl (HO2.out.drew) (by omega) hsz ?_; intro A2 c2 w5 o5 b5)
            all_goals
              go_wp2_with fail
              go_roundw
              case rel => exact ⟨p + 1, A2, m2 + 1, c2, by omega, by go_num, rfl, hide (by rw [HS2.out, ← List.append_assoc]; exact o5), hide (by omega), hide (HD2.out.trans b5)⟩
              case measure => simp [intOf]; omega
          · obtain rfl : p = n' := by omega
            have hm2 := HM2.out
            have HALL := hide (rowC_all (fun x y => x + y) x HL'.out)
            go_wp2_with fail
            go_roundw
            case rel => exact ⟨k + 1, B2, m2, q2, by omega, by go_num, rfl, hide (by rw [HD.out, ← HALL.out]; exact HO2.out), hide (by omega), HB2⟩
            case measure => simp [intOf]; omega
      · obtain rfl : k = n := by omega
        have hm := HM.out
        have HD := hide (show cmbTo (fun x y => x + y) xs ys k = cmb (fun x y => x + y) xs ys by unfold cmb; rw [HL.out])
        have HO2 := hide (show Own E1 wr w1.heap.size 3 B m q (cmb (fun x y => x + y) xs ys) by rw [← HD.out]; exact HO.out)
        generalize cmb (fun x y => x + y) xs ys = l at HO2 HC HCV
        go_wp2_with (go_at_call 88; refine (made_any _ _ _ l _ _ HO2.out (by omega)).mono ?_; rintro e w7 ⟨A7, n7, c7, rfl, o7, b7⟩)
        go_ret2
        exact ⟨A7, n7, c7, by rw [HC.out]; rfl, by rw [HCV.out]; exact o7.more (Nat.le_trans B1.out.size HB.out.size), B1.out.trans ((HB.out.mono B1.out.size).trans (b7.mono (Nat.le_trans B1.out.size HB.out.size)))⟩
  · have HC := hide (errS_no (fun x y => x + y) he)
    have HCV := hide (cmbV_no (fun x y => x + y) he)
    have hne : (errB xs ys != 0) = true := by simpa using he
    clear he
    go_enter Try.func49, Try.ntmps49
    go_wp2_with (go_at_call 67; refine (two_any _ _ _ xs _ _ _ ys _ HX.out HY.out hn hn').mono ?_; rintro e w1 ⟨rfl, b1⟩; have B1 := hide b1; clear b1)
    go_ret2
    exact ⟨none, 0, 0, by rw [HC.out]; rfl, by rw [HCV.out]; exact Own.nil _ _ _ _, B1.out⟩
set_option maxRecDepth 100000 in
set_option maxHeartbeats 4000000 in
theorem rMinus_any (A : Option Addr) (n c : Nat) (xs : List Int) (A' : Option Addr) (n' c' : Nat) (ys : List Int) (w : World) (h : R E1 w A n c xs) (h' : R E1 w A' n' c' ys) (hn : n ≤ 1000) (hn' : n' ≤ 1000) :
    Calls Try.prog 51 #[.slice A n c, .slice A' n' c'] w (RowPost (errS (fun x y => x - y) xs ys) (cmbV (fun x y => x - y) xs ys) w) := by
  have HX := hide h
  have HY := hide h'
  have HL := hide h.length
  have HL' := hide h'.length
  clear h h'
  by_cases he : errB xs ys = 0
  · obtain ⟨e1, e2⟩ := errB_ok he
    have o1 := errC_ok.1 e1
    have o2 := errC_ok.1 e2
    rw [HL.out] at o1
    rw [HL'.out] at o2
    have HE := hide he
    have HV := hide o1.2.2.1
    have HV' := hide o2.2.2.1
    have hn6 := o1.2.1
    have hn6' := o2.2.1
    have hn1 := o1.1
    have hn1' := o2.1
    have HC := hide (errS_ok (fun x y => x - y) he)
    have HCV := hide (cmbV_ok (fun x y => x - y) he)
    clear he e1 e2 o1 o2
    go_enter Try.func51, Try.ntmps51
    go_wp2_with (go_at_call 67; refine (two_any _ _ _ xs _ _ _ ys _ HX.out HY.out hn hn').mono ?_; rintro e w1 ⟨rfl, b1⟩; rw [HE.out]; have B1 := hide b1; clear b1)
    obtain ⟨b, off, hr⟩ := HX.out.below B1.out (Nat.le_refl _)
    obtain ⟨b', off', hr'⟩ := HY.out.below B1.out (Nat.le_refl _)
    obtain rfl := hr.at_ (by omega)
    obtain rfl := hr'.at_ (by omega)
    have HR := hide hr
    have HR' := hide hr'
    have hbl := hr.lt (by omega)
    have hbl' := hr'.lt (by omega)
    have hcap := hr.cap
    have hmax := hr.max
    have hcap' := hr'.cap
    have hmax' := hr'.max
    clear hr hr'
    go_wp2_with fail
    go_loopw [7, 8] (fun v i wr => ∃ (k : Nat) (B : Option Addr) (m q : Nat), k ≤ n ∧ i = .int .i64 k ∧ v = .slice B m q ∧ Hid (Own E1 wr w1.heap.size 3 B m q (cmbTo (fun x y => x - y) xs ys k)) ∧ Hid (m ≤ 6 * k) ∧ Hid (Below w1.heap.size w1 wr)) (fun _ i _ => n - (intOf i).toNat)
    case atStart => exact ⟨0, none, 0, 0, Nat.zero_le _, rfl, rfl, hide (Own.nil E1 _ _ _), hide (Nat.zero_le _), hide (Below.refl _ _)⟩
    case round =>
      obtain ⟨k, B, m, q, hk, rfl, rfl, HO, HM, HB⟩ := hrel
      by_cases hlt : k < n
      · have ha1 := hide (fun (W : World) (h : Below w1.heap.size w1 W) => c1 (HR.out.under h fun _ => hbl) hlt)
        have hm := HM.out
        have hx := okTo_bd HV.out hlt
        have HS := hide (fun p hp => rowC_succ (fun x y => x - y) (xs.getD k 0) (ys := ys) (k := p) hp)
        have HD := hide (cmbTo_succ (fun x y => x - y) xs ys k)
        generalize hxe : xs.getD k 0 = x at ha1 hx HS HD
        clear hxe
        go_wp2_with fail
        go_loopw [7, 9] (fun v j wr2 => ∃ (p : Nat) (B2 : Option Addr) (m2 q2 : Nat), p ≤ n' ∧ j = .int .i64 p ∧ v = .slice B2 m2 q2 ∧ Hid (Own E1 wr2 w1.heap.size 3 B2 m2 q2 (cmbTo (fun x y => x - y) xs ys k ++ rowC (fun x y => x - y) x ys p)) ∧ Hid (m2 ≤ 6 * k + p) ∧ Hid (Below w1.heap.size w1 wr2)) (fun _ j _ => n' - (intOf j).toNat)
        case atStart => exact ⟨0, B, m, q, Nat.zero_le _, rfl, rfl, hide (by rw [rowC_zero, List.append_nil]; exact HO.out), hide hm, HB⟩
        case round =>
          obtain ⟨p, B2, m2, q2, hp, rfl, rfl, HO2, HM2, HB2⟩ := hrel
          by_cases hlp : p < n'
          · have a1 : wr.drew.cell? ⟨b, off + k, none⟩ = some (.int .i64 x) := ha1.out _ HB2.out.drew
            have a2 : wr.drew.cell? ⟨b', off' + p, none⟩ = some (.int .i64 (ys.getD p 0)) := c1 (HR'.out.under HB2.out.drew fun _ => hbl') hlp
            have hy := okTo_bd HV'.out hlp
            have hm2 := HM2.out
            have HS2 := hide (HS.out p (by rw [HL'.out]; exact hlp))
            generalize ys.getD p 0 = y at a2 hy HS2
            have hsz : w1.heap.size ≤ wr.drew.heap.size := HB2.out.size
            have hkn : (k : Int) < (n : Int) := by omega
            have hpn : (p : Int) < (n' : Int) := by omega
            have HD2 := hide HB2.out.drew
            have hw : IntKind.i64.wrap (x - y) = x - y := IntWalk.i64_in _ (by omega)
            go_wp2_with fail
            go_region_law (refine step_app1 (E := E1) wr.drew (.int .i64 0) 8 rfl (.tmp 28) (.tmp 38) 22 3 rfl Try.underlying22 info_int rfl (by decide) (by omega) w1.heap.size _ _ _ _ (x - y) _ rfl rfl rfl (HO2.out.drew) (by omega) hsz ?_; intro A2 c2 w5 o5 b5)
            all_goals
              go_wp2_with fail
              go_roundw
              case rel => exact ⟨p + 1, A2, m2 + 1, c2, by omega, by go_num, rfl, hide (by rw [HS2.out, ← List.append_assoc]; exact o5), hide (by omega), hide (HD2.out.trans b5)⟩
              case measure => simp [intOf]; omega
          · obtain rfl : p = n' := by omega
            have hm2 := HM2.out
            have HALL := hide (rowC_all (fun x y => x - y) x HL'.out)
            go_wp2_with fail
            go_roundw
            case rel => exact ⟨k + 1, B2, m2, q2, by omega, by go_num, rfl, hide (by rw [HD.out, ← HALL.out]; exact HO2.out), hide (by omega), HB2⟩
            case measure => simp [intOf]; omega
      · obtain rfl : k = n := by omega
        have hm := HM.out
        have HD := hide (show cmbTo (fun x y => x - y) xs ys k = cmb (fun x y => x - y) xs ys by unfold cmb; rw [HL.out])
        have HO2 := hide (show Own E1 wr w1.heap.size 3 B m q (cmb (fun x y => x - y) xs ys) by rw [← HD.out]; exact HO.out)
        generalize cmb (fun x y => x - y) xs ys = l at HO2 HC HCV
        go_wp2_with (go_at_call 88; refine (made_any _ _ _ l _ _ HO2.out (by omega)).mono ?_; rintro e w7 ⟨A7, n7, c7, rfl, o7, b7⟩)
        go_ret2
        exact ⟨A7, n7, c7, by rw [HC.out]; rfl, by rw [HCV.out]; exact o7.more (Nat.le_trans B1.out.size HB.out.size), B1.out.trans ((HB.out.mono B1.out.size).trans (b7.mono (Nat.le_trans B1.out.size HB.out.size)))⟩
  · have HC := hide (errS_no (fun x y => x - y) he)
    have HCV := hide (cmbV_no (fun x y => x - y) he)
    have hne : (errB xs ys != 0) = true := by simpa using he
    clear he
    go_enter Try.func51, Try.ntmps51
    go_wp2_with (go_at_call 67; refine (two_any _ _ _ xs _ _ _ ys _ HX.out HY.out hn hn').mono ?_; rintro e w1 ⟨rfl, b1⟩; have B1 := hide b1; clear b1)
    go_ret2
    exact ⟨none, 0, 0, by rw [HC.out]; rfl, by rw [HCV.out]; exact Own.nil _ _ _ _, B1.out⟩
theorem Plus_any (A : Option Addr) (n c : Nat) (xs : List Int) (A' : Option Addr) (n' c' : Nat) (ys : List Int) (w : World) (h : R E1 w A n c xs) (h' : R E1 w A' n' c' ys) (hn : n ≤ 1000) (hn' : n' ≤ 1000) :
    Calls Try.prog 48 #[.slice A n c, .slice A' n' c'] w (RowPost (errS (fun x y => x + y) xs ys) (cmbV (fun x y => x + y) xs ys) w) := by
  go_enter Try.func48, Try.ntmps48
  go_wp2_with (go_at_call 86; refine (combinedPlus_any _ _ _ xs _ _ _ ys _ h h' hn hn').mono ?_; rintro e w1 ⟨A1, n1, c1, rfl, o1, b1⟩)
  go_ret2
  exact ⟨A1, n1, c1, rfl, o1, b1⟩
theorem Minus_any (A : Option Addr) (n c : Nat) (xs : List Int) (A' : Option Addr) (n' c' : Nat) (ys : List Int) (w : World) (h : R E1 w A n c xs) (h' : R E1 w A' n' c' ys) (hn : n ≤ 1000) (hn' : n' ≤ 1000) :
    Calls Try.prog 50 #[.slice A n c, .slice A' n' c'] w (RowPost (errS (fun x y => x - y) xs ys) (cmbV (fun x y => x - y) xs ys) w) := by
  go_enter Try.func50, Try.ntmps50
  go_wp2_with (go_at_call 86; refine (combinedMinus_any _ _ _ xs _ _ _ ys _ h h' hn hn').mono ?_; rintro e w1 ⟨A1, n1, c1, rfl, o1, b1⟩)
  go_ret2
  exact ⟨A1, n1, c1, rfl, o1, b1⟩
end Go.Proofs.Ytllfkhcpdgdmnaa
