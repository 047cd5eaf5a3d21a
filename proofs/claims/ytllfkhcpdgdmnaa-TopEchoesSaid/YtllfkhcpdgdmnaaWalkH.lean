/- The errors of two rows, checked, and combined at the sum and at the difference. -/
import Derived.Test.YtllfkhcpdgdmnaaWalkG
namespace Go.Proofs.Ytllfkhcpdgdmnaa
open Go.RowKit Go.Shelf

/-- The error of two rows of cliffs. -/
def errB (xs ys : List Int) : Int := if errC xs = 0 then errC ys else errC xs
theorem errB_ok {xs ys : List Int} (h : errB xs ys = 0) : errC xs = 0 ∧ errC ys = 0 := by
  unfold errB at h
  split at h
  · exact ⟨‹_›, h⟩
  · contradiction
/-- What comes of x and the first k. -/
def rowC (f : Int → Int → Int) (x : Int) (ys : List Int) (k : Nat) : List Int := (ys.take k).map (f x)
theorem rowC_zero (f : Int → Int → Int) (x : Int) (ys : List Int) : rowC f x ys 0 = [] := rfl
theorem rowC_succ (f : Int → Int → Int) (x : Int) {ys : List Int} {k : Nat} (h : k < ys.length) : rowC f x ys (k + 1) = rowC f x ys k ++ [f x (ys.getD k 0)] := by
  unfold rowC
  rw [List.take_succ_eq_append_getElem h, List.map_append]
  simp [List.getD_eq_getElem?_getD, h]
theorem rowC_all (f : Int → Int → Int) (x : Int) {ys : List Int} {n : Nat} (h : ys.length = n) : rowC f x ys n = ys.map (f x) := by
  unfold rowC; rw [List.take_of_length_le (by omega)]
def cmbTo (f : Int → Int → Int) (xs ys : List Int) (k : Nat) : List Int := (List.range k).flatMap fun i => ys.map (f (xs.getD i 0))
def cmb (f : Int → Int → Int) (xs ys : List Int) : List Int := cmbTo f xs ys xs.length
theorem cmbTo_succ (f : Int → Int → Int) (xs ys : List Int) (k : Nat) : cmbTo f xs ys (k + 1) = cmbTo f xs ys k ++ ys.map (f (xs.getD k 0)) := by
  unfold cmbTo; rw [List.range_succ, List.flatMap_append]; simp
/-- The error of what is made of a list, and what is made. -/
def errM (l : List Int) : Int := if twoB (sortZ l) = true then 5 else errC (sortZ l)
def madV (l : List Int) : List Int := if errM l = 0 then sortZ l else []
def chkV (l : List Int) : List Int := if errC l = 0 then l else []
theorem errM_two {l : List Int} (h : twoB (sortZ l) = true) : errM l = 5 := if_pos h
theorem errM_one {l : List Int} (h : twoB (sortZ l) = false) : errM l = errC (sortZ l) := if_neg (by rw [h]; decide)
theorem madV_no {l : List Int} (h : errM l ≠ 0) : madV l = [] := if_neg h
theorem madV_one {l : List Int} (h : twoB (sortZ l) = false) : madV l = chkV (sortZ l) := by unfold madV chkV; rw [errM_one h]
def errS (f : Int → Int → Int) (xs ys : List Int) : Int := if errB xs ys = 0 then errM (cmb f xs ys) else errB xs ys
def cmbV (f : Int → Int → Int) (xs ys : List Int) : List Int := if errB xs ys = 0 then madV (cmb f xs ys) else []
theorem errS_ok (f : Int → Int → Int) {xs ys : List Int} (h : errB xs ys = 0) : errS f xs ys = errM (cmb f xs ys) := if_pos h
theorem errS_no (f : Int → Int → Int) {xs ys : List Int} (h : errB xs ys ≠ 0) : errS f xs ys = errB xs ys := if_neg h
theorem cmbV_ok (f : Int → Int → Int) {xs ys : List Int} (h : errB xs ys = 0) : cmbV f xs ys = madV (cmb f xs ys) := if_pos h
theorem cmbV_no (f : Int → Int → Int) {xs ys : List Int} (h : errB xs ys ≠ 0) : cmbV f xs ys = [] := if_neg h
set_option maxHeartbeats 1000000 in
theorem validateBoth_any (A : Option Addr) (n c : Nat) (xs : List Int) (A' : Option Addr) (n' c' : Nat) (ys : List Int) (w : World) (h : R E1 w A n c xs) (h' : R E1 w A' n' c' ys) (hn : n ≤ 1000) (hn' : n' ≤ 1000) :
    Calls Try.prog 65 #[.slice A n c, .slice A' n' c'] w fun e w' => e = .returned (.int .i64 (errB xs ys)) ∧ Below w.heap.size w w' := by
  have HX := hide h
  have HY := hide h'
  clear h h'
  by_cases he : errC xs = 0
  · have HE := hide he
    have HB := hide (show errB xs ys = errC ys from by unfold errB; rw [if_pos he])
    clear he
    have B0 := hide (Below.refl w.heap.size w)
    go_enter Try.func65, Try.ntmps65
    go_wp2_with (first
      | (go_at_call 24; refine (Validate_any _ _ _ xs _ HX.out (by omega)).mono ?_; rintro e w1 ⟨rfl, b1⟩; rw [HE.out]; have B1 := hide b1; clear b1 HX)
      | (go_at_call 24; refine (Validate_any _ _ _ ys _ (HY.out.below B1.out (Nat.le_refl _)) (by omega)).mono ?_; rintro e w2 ⟨rfl, b2⟩; have B2 := hide b2; clear b2))
    go_ret
    exact ⟨ret_i64 HB.out.symm, B1.out.trans (B2.out.mono B1.out.size)⟩
  · have HB := hide (show errB xs ys = errC xs from by unfold errB; rw [if_neg he])
    have hne : (errC xs != 0) = true := by simpa using he
    clear he
    go_enter Try.func65, Try.ntmps65
    go_wp2_with (go_at_call 24; refine (Validate_any _ _ _ xs _ HX.out (by omega)).mono ?_; rintro e w1 ⟨rfl, b1⟩; have B1 := hide b1; clear b1)
    go_ret
    exact ⟨ret_i64 HB.out.symm, B1.out⟩
set_option maxHeartbeats 1000000 in
theorem two_any (A : Option Addr) (n c : Nat) (xs : List Int) (A' : Option Addr) (n' c' : Nat) (ys : List Int) (w : World) (h : R E1 w A n c xs) (h' : R E1 w A' n' c' ys) (hn : n ≤ 1000) (hn' : n' ≤ 1000) :
    Calls Try.prog 67 #[.slice A n c, .slice A' n' c'] w fun e w' => e = .returned (.int .i64 (errB xs ys)) ∧ Below w.heap.size w w' := by
  have HX := hide h
  have HY := hide h'
  clear h h'
  by_cases he : errC xs = 0
  · have HE := hide he
    have HB := hide (show errB xs ys = errC ys from by unfold errB; rw [if_pos he])
    clear he
    have B0 := hide (Below.refl w.heap.size w)
    go_enter Try.func67, Try.ntmps67
    go_wp2_with (first
      | (go_at_call 25; refine (rValidate_any _ _ _ xs _ HX.out (by omega)).mono ?_; rintro e w1 ⟨rfl, b1⟩; rw [HE.out]; have B1 := hide b1; clear b1 HX)
      | (go_at_call 25; refine (rValidate_any _ _ _ ys _ (HY.out.below B1.out (Nat.le_refl _)) (by omega)).mono ?_; rintro e w2 ⟨rfl, b2⟩; have B2 := hide b2; clear b2))
    go_ret
    exact ⟨ret_i64 HB.out.symm, B1.out.trans (B2.out.mono B1.out.size)⟩
  · have HB := hide (show errB xs ys = errC xs from by unfold errB; rw [if_neg he])
    have hne : (errC xs != 0) = true := by simpa using he
    clear he
    go_enter Try.func67, Try.ntmps67
    go_wp2_with (go_at_call 25; refine (rValidate_any _ _ _ xs _ HX.out (by omega)).mono ?_; rintro e w1 ⟨rfl, b1⟩; have B1 := hide b1; clear b1)
    go_ret
    exact ⟨ret_i64 HB.out.symm, B1.out⟩
set_option maxHeartbeats 1000000 in
theorem checked_any (A : Option Addr) (n c : Nat) (l : List Int) (B : Nat) (w : World) (h : Own E1 w B 3 A n c l) (hn : n ≤ 1000) :
    Calls Try.prog 90 #[.slice A n c] w fun e w' => ∃ A' n' c', e = .returned (.tuple #[.slice A' n' c', .int .i64 (errC l)]) ∧ Own E1 w' B 3 A' n' c' (chkV l) ∧ Below w.heap.size w w' := by
  have HX := hide h
  clear h
  by_cases he : errC l = 0
  · have HE := hide he
    have HC := hide (show chkV l = l from if_pos he)
    clear he
    go_enter Try.func90, Try.ntmps90
    go_wp2_with (go_at_call 24; refine (Validate_any _ _ _ l _ HX.out.row (by omega)).mono ?_; rintro e w1 ⟨rfl, b1⟩; rw [HE.out]; have B1 := hide b1; clear b1)
    go_ret2
    exact ⟨A, n, c, by rw [HE.out]; rfl, by rw [HC.out]; exact HX.out.below B1.out (Nat.le_refl _), B1.out⟩
  · have HC := hide (show chkV l = [] from if_neg he)
    have hne : (errC l != 0) = true := by simpa using he
    clear he
    go_enter Try.func90, Try.ntmps90
    go_wp2_with (go_at_call 24; refine (Validate_any _ _ _ l _ HX.out.row (by omega)).mono ?_; rintro e w1 ⟨rfl, b1⟩; have B1 := hide b1; clear b1)
    go_ret2
    exact ⟨none, 0, 0, rfl, by rw [HC.out]; exact Own.nil _ _ _ _, B1.out⟩
theorem plus1_any (p q : Int) (w : World) (h1 : -60 ≤ p ∧ p ≤ 60) (h2 : -60 ≤ q ∧ q ≤ 60) :
    Calls Try.prog 87 #[.int .i64 p, .int .i64 q] w fun e w' => e = .returned (.int .i64 (p + q)) ∧ w = w' := by
  go_enter Try.func87, Try.ntmps87
  go_wp2
  go_ret
  exact ⟨rfl, rfl⟩
set_option maxRecDepth 100000 in
set_option maxHeartbeats 4000000 in
theorem combinedPlus_any (A : Option Addr) (n c : Nat) (xs : List Int) (A' : Option Addr) (n' c' : Nat) (ys : List Int) (w : World) (h : R E1 w A n c xs) (h' : R E1 w A' n' c' ys) (hn : n ≤ 1000) (hn' : n' ≤ 1000) :
    Calls Try.prog 86 #[.slice A n c, .slice A' n' c', .func (.func 87) #[] #[]] w (RowPost (errS (fun x y => x + y) xs ys) (cmbV (fun x y => x + y) xs ys) w) := by
  have HX := hide h
  have HY := hide h'
  have HL := hide h.length
  have HL' := hide h'.length
  clear h h'
  by_cases he : errB xs ys = 0
  · obtain ⟨e1, e2⟩ := errB_ok he
    have o1 := errC_ok.1 e1
    have o2 := errC_ok.1 e2
    rw [HL.out] at o1
    rw [HL'.out] at o2
    have HE := hide he
    have HV := hide o1.2.2.1
    have HV' := hide o2.2.2.1
    have hn6 := o1.2.1
    have hn6' := o2.2.1
    have hn1 := o1.1
    have hn1' := o2.1
    have HC := hide (errS_ok (fun x y => x + y) he)
    have HCV := hide (cmbV_ok (fun x y => x + y) he)
    clear he e1 e2 o1 o2
    go_enter Try.func86, Try.ntmps86
    go_wp2_with (go_at_call 65; refine (validateBoth_any _ _ _ xs _ _ _ ys _ HX.out HY.out hn hn').mono ?_; rintro e w1 ⟨rfl, b1⟩; rw [HE.out]; have B1 := hide b1; clear b1)
    obtain ⟨b, off, hr⟩ := HX.out.below B1.out (Nat.le_refl _)
    obtain ⟨b', off', hr'⟩ := HY.out.below B1.out (Nat.le_refl _)
    obtain rfl := hr.at_ (by omega)
    obtain rfl := hr'.at_ (by omega)
    have HR := hide hr
    have HR' := hide hr'
    have hbl := hr.lt (by omega)
    have hbl' := hr'.lt (by omega)
    clear hr hr'
    go_wp2_with fail
    go_loopw [9, 22] (fun v i wr => ∃ (k : Nat) (B : Option Addr) (m q : Nat), k ≤ n ∧ i = .int .i64 k ∧ v = .slice B m q ∧ Hid (Own E1 wr w1.heap.size 3 B m q (cmbTo (fun x y => x + y) xs ys k)) ∧ Hid (m ≤ 6 * k) ∧ Hid (Below w1.heap.size w1 wr)) (fun _ i _ => n - (intOf i).toNat)
    case atStart => exact ⟨0, none, 0, 0, Nat.zero_le _, rfl, rfl, hide (Own.nil E1 _ _ _), hide (Nat.zero_le _), hide (Below.refl _ _)⟩
    case round =>
      obtain ⟨k, B, m, q, hk, rfl, rfl, HO, HM, HB⟩ := hrel
      by_cases hlt : k < n
      · have a1 := c1 (HR.out.under HB.out fun _ => hbl) hlt
        have hm := HM.out
        have hx := okTo_bd HV.out hlt
        have HS := hide (fun p hp => rowC_succ (fun x y => x + y) (xs.getD k 0) (ys := ys) (k := p) hp)
        have HD := hide (cmbTo_succ (fun x y => x + y) xs ys k)
        generalize hxe : xs.getD k 0 = x at a1 hx HS HD
        clear hxe
        go_wp2_with fail
        go_loopw [9, 28] (fun v j wr2 => ∃ (p : Nat) (B2 : Option Addr) (m2 q2 : Nat), p ≤ n' ∧ j = .int .i64 p ∧ v = .slice B2 m2 q2 ∧ Hid (Own E1 wr2 w1.heap.size 3 B2 m2 q2 (cmbTo (fun x y => x + y) xs ys k ++ rowC (fun x y => x + y) x ys p)) ∧ Hid (m2 ≤ 6 * k + p) ∧ Hid (Below w1.heap.size w1 wr2)) (fun _ j _ => n' - (intOf j).toNat)
        case atStart => exact ⟨0, B, m, q, Nat.zero_le _, rfl, rfl, hide (by rw [rowC_zero, List.append_nil]; exact HO.out), hide hm, HB⟩
        case round =>
          obtain ⟨p, B2, m2, q2, hp, rfl, rfl, HO2, HM2, HB2⟩ := hrel
          by_cases hlp : p < n'
          · have a2 := c1 (HR'.out.under HB2.out fun _ => hbl') hlp
            have hy := okTo_bd HV'.out hlp
            have hm2 := HM2.out
            have HS2 := hide (HS.out p (by rw [HL'.out]; exact hlp))
            generalize ys.getD p 0 = y at a2 hy HS2
            have hsz := HB2.out.size
            go_wp2_with (first
              | (go_at_call 87; refine (plus1_any _ _ _ hx hy).mono ?_; rintro e w3 ⟨rfl, rfl⟩)
              | (at_builtin; refine wpList_app1 (E := E1) _ (.int .i64 0) 8 rfl (.tmp 32) (.tmp 37) 22 3 rfl Try.underlying22 info_int rfl (by decide) (by omega) _ _ _ _ _ (x + y) _ rfl rfl rfl HO2.out (by omega) hsz ?_; intro A2 c2 w5 o5 b5 g5))
            go_roundw
            case rel => exact ⟨p + 1, A2, m2 + 1, c2, by omega, by go_num, rfl, hide (by rw [HS2.out, ← List.append_assoc]; exact o5), hide (by omega), hide (HB2.out.trans b5)⟩
            case measure => simp [intOf]; omega
          · obtain rfl : p = n' := by omega
            have hm2 := HM2.out
            have HALL := hide (rowC_all (fun x y => x + y) x HL'.out)
            go_wp2_with fail
            go_roundw
            case rel => exact ⟨k + 1, B2, m2, q2, by omega, by go_num, rfl, hide (by rw [HD.out, ← HALL.out]; exact HO2.out), hide (by omega), HB2⟩
            case measure => simp [intOf]; omega
      · obtain rfl : k = n := by omega
        have hm := HM.out
        have HD := hide (show cmbTo (fun x y => x + y) xs ys k = cmb (fun x y => x + y) xs ys by unfold cmb; rw [HL.out])
        have HO2 := hide (show Own E1 wr w1.heap.size 3 B m q (cmb (fun x y => x + y) xs ys) by rw [← HD.out]; exact HO.out)
        generalize cmb (fun x y => x + y) xs ys = l at HO2 HC HCV
        have ht : twoB (sortZ l) = true ∨ twoB (sortZ l) = false := by cases twoB (sortZ l) <;> simp
        rcases ht with ht | ht
        · have HT := hide ht
          clear ht
          go_wp2_with (first
            | (go_at_call 84; refine (Sort_any _ _ _ _ _ _ HO2.out (by omega)).mono ?_; rintro e w5 ⟨rfl, o5, g5⟩; have HO5 := hide o5; have HB5 := hide (HB.out.trans (own_grown_below HO2.out HB.out.size g5)); clear o5 g5)
            | (go_at_call 60; refine (hasTwice_any _ _ _ _ _ HO5.out.row (by omega)).mono ?_; rintro e w6 ⟨rfl, q6, rfl⟩; rw [HT.out]))
          go_ret2
          exact ⟨none, 0, 0, by rw [HC.out, errM_two HT.out]; rfl, by rw [HCV.out, madV_no (by rw [errM_two HT.out]; decide)]; exact Own.nil _ _ _ _, B1.out.trans (below_drewN (HB5.out.mono B1.out.size) _)⟩
        · have HT := hide ht
          clear ht
          go_wp2_with (first
            | (go_at_call 84; refine (Sort_any _ _ _ _ _ _ HO2.out (by omega)).mono ?_; rintro e w5 ⟨rfl, o5, g5⟩; have HO5 := hide o5; have HB5 := hide (HB.out.trans (own_grown_below HO2.out HB.out.size g5)); clear o5 g5)
            | (go_at_call 60; refine (hasTwice_any _ _ _ _ _ HO5.out.row (by omega)).mono ?_; rintro e w6 ⟨rfl, q6, rfl⟩; rw [HT.out])
            | (go_at_call 90; refine (checked_any _ _ _ _ w1.heap.size _ (HO5.out.drewN q6) (by omega)).mono ?_; rintro e w7 ⟨A7, n7, c7, rfl, o7, b7⟩))
          go_ret2
          exact ⟨A7, n7, c7, by rw [HC.out, errM_one HT.out]; rfl, by rw [HCV.out, madV_one HT.out]; exact o7.more B1.out.size, B1.out.trans ((below_drewN HB5.out q6).trans (b7.mono HB5.out.size) |>.mono B1.out.size)⟩
  · have HC := hide (errS_no (fun x y => x + y) he)
    have HCV := hide (cmbV_no (fun x y => x + y) he)
    have hne : (errB xs ys != 0) = true := by simpa using he
    clear he
    go_enter Try.func86, Try.ntmps86
    go_wp2_with (go_at_call 65; refine (validateBoth_any _ _ _ xs _ _ _ ys _ HX.out HY.out hn hn').mono ?_; rintro e w1 ⟨rfl, b1⟩; have B1 := hide b1; clear b1)
    go_ret2
    exact ⟨none, 0, 0, by rw [HC.out]; rfl, by rw [HCV.out]; exact Own.nil _ _ _ _, B1.out⟩
theorem minus1_any (p q : Int) (w : World) (h1 : -60 ≤ p ∧ p ≤ 60) (h2 : -60 ≤ q ∧ q ≤ 60) :
    Calls Try.prog 89 #[.int .i64 p, .int .i64 q] w fun e w' => e = .returned (.int .i64 (p - q)) ∧ w = w' := by
  go_enter Try.func89, Try.ntmps89
  go_wp2
  go_ret
  exact ⟨rfl, rfl⟩
set_option maxRecDepth 100000 in
set_option maxHeartbeats 4000000 in
theorem combinedMinus_any (A : Option Addr) (n c : Nat) (xs : List Int) (A' : Option Addr) (n' c' : Nat) (ys : List Int) (w : World) (h : R E1 w A n c xs) (h' : R E1 w A' n' c' ys) (hn : n ≤ 1000) (hn' : n' ≤ 1000) :
    Calls Try.prog 86 #[.slice A n c, .slice A' n' c', .func (.func 89) #[] #[]] w (RowPost (errS (fun x y => x - y) xs ys) (cmbV (fun x y => x - y) xs ys) w) := by
  have HX := hide h
  have HY := hide h'
  have HL := hide h.length
  have HL' := hide h'.length
  clear h h'
  by_cases he : errB xs ys = 0
  · obtain ⟨e1, e2⟩ := errB_ok he
    have o1 := errC_ok.1 e1
    have o2 := errC_ok.1 e2
    rw [HL.out] at o1
    rw [HL'.out] at o2
    have HE := hide he
    have HV := hide o1.2.2.1
    have HV' := hide o2.2.2.1
    have hn6 := o1.2.1
    have hn6' := o2.2.1
    have hn1 := o1.1
    have hn1' := o2.1
    have HC := hide (errS_ok (fun x y => x - y) he)
    have HCV := hide (cmbV_ok (fun x y => x - y) he)
    clear he e1 e2 o1 o2
    go_enter Try.func86, Try.ntmps86
    go_wp2_with (go_at_call 65; refine (validateBoth_any _ _ _ xs _ _ _ ys _ HX.out HY.out hn hn').mono ?_; rintro e w1 ⟨rfl, b1⟩; rw [HE.out]; have B1 := hide b1; clear b1)
    obtain ⟨b, off, hr⟩ := HX.out.below B1.out (Nat.le_refl _)
    obtain ⟨b', off', hr'⟩ := HY.out.below B1.out (Nat.le_refl _)
    obtain rfl := hr.at_ (by omega)
    obtain rfl := hr'.at_ (by omega)
    have HR := hide hr
    have HR' := hide hr'
    have hbl := hr.lt (by omega)
    have hbl' := hr'.lt (by omega)
    clear hr hr'
    go_wp2_with fail
    go_loopw [9, 22] (fun v i wr => ∃ (k : Nat) (B : Option Addr) (m q : Nat), k ≤ n ∧ i = .int .i64 k ∧ v = .slice B m q ∧ Hid (Own E1 wr w1.heap.size 3 B m q (cmbTo (fun x y => x - y) xs ys k)) ∧ Hid (m ≤ 6 * k) ∧ Hid (Below w1.heap.size w1 wr)) (fun _ i _ => n - (intOf i).toNat)
    case atStart => exact ⟨0, none, 0, 0, Nat.zero_le _, rfl, rfl, hide (Own.nil E1 _ _ _), hide (Nat.zero_le _), hide (Below.refl _ _)⟩
    case round =>
      obtain ⟨k, B, m, q, hk, rfl, rfl, HO, HM, HB⟩ := hrel
      by_cases hlt : k < n
      · have a1 := c1 (HR.out.under HB.out fun _ => hbl) hlt
        have hm := HM.out
        have hx := okTo_bd HV.out hlt
        have HS := hide (fun p hp => rowC_succ (fun x y => x - y) (xs.getD k 0) (ys := ys) (k := p) hp)
        have HD := hide (cmbTo_succ (fun x y => x - y) xs ys k)
        generalize hxe : xs.getD k 0 = x at a1 hx HS HD
        clear hxe
        go_wp2_with fail
        go_loopw [9, 28] (fun v j wr2 => ∃ (p : Nat) (B2 : Option Addr) (m2 q2 : Nat), p ≤ n' ∧ j = .int .i64 p ∧ v = .slice B2 m2 q2 ∧ Hid (Own E1 wr2 w1.heap.size 3 B2 m2 q2 (cmbTo (fun x y => x - y) xs ys k ++ rowC (fun x y => x - y) x ys p)) ∧ Hid (m2 ≤ 6 * k + p) ∧ Hid (Below w1.heap.size w1 wr2)) (fun _ j _ => n' - (intOf j).toNat)
        case atStart => exact ⟨0, B, m, q, Nat.zero_le _, rfl, rfl, hide (by rw [rowC_zero, List.append_nil]; exact HO.out), hide hm, HB⟩
        case round =>
          obtain ⟨p, B2, m2, q2, hp, rfl, rfl, HO2, HM2, HB2⟩ := hrel
          by_cases hlp : p < n'
          · have a2 := c1 (HR'.out.under HB2.out fun _ => hbl') hlp
            have hy := okTo_bd HV'.out hlp
            have hm2 := HM2.out
            have HS2 := hide (HS.out p (by rw [HL'.out]; exact hlp))
            generalize ys.getD p 0 = y at a2 hy HS2
            have hsz := HB2.out.size
            go_wp2_with (first
              | (go_at_call 89; refine (minus1_any _ _ _ hx hy).mono ?_; rintro e w3 ⟨rfl, rfl⟩)
              | (at_builtin; refine wpList_app1 (E := E1) _ (.int .i64 0) 8 rfl (.tmp 32) (.tmp 37) 22 3 rfl Try.underlying22 info_int rfl (by decide) (by omega) _ _ _ _ _ (x - y) _ rfl rfl rfl HO2.out (by omega) hsz ?_; intro A2 c2 w5 o5 b5 g5))
            go_roundw
            case rel => exact ⟨p + 1, A2, m2 + 1, c2, by omega, by go_num, rfl, hide (by rw [HS2.out, ← List.append_assoc]; exact o5), hide (by omega), hide (HB2.out.trans b5)⟩
            case measure => simp [intOf]; omega
          · obtain rfl : p = n' := by omega
            have hm2 := HM2.out
            have HALL := hide (rowC_all (fun x y => x - y) x HL'.out)
            go_wp2_with fail
            go_roundw
            case rel => exact ⟨k + 1, B2, m2, q2, by omega, by go_num, rfl, hide (by rw [HD.out, ← HALL.out]; exact HO2.out), hide (by omega), HB2⟩
            case measure => simp [intOf]; omega
      · obtain rfl : k = n := by omega
        have hm := HM.out
        have HD := hide (show cmbTo (fun x y => x - y) xs ys k = cmb (fun x y => x - y) xs ys by unfold cmb; rw [HL.out])
        have HO2 := hide (show Own E1 wr w1.heap.size 3 B m q (cmb (fun x y => x - y) xs ys) by rw [← HD.out]; exact HO.out)
        generalize cmb (fun x y => x - y) xs ys = l at HO2 HC HCV
        have ht : twoB (sortZ l) = true ∨ twoB (sortZ l) = false := by cases twoB (sortZ l) <;> simp
        rcases ht with ht | ht
        · have HT := hide ht
          clear ht
          go_wp2_with (first
            | (go_at_call 84; refine (Sort_any _ _ _ _ _ _ HO2.out (by omega)).mono ?_; rintro e w5 ⟨rfl, o5, g5⟩; have HO5 := hide o5; have HB5 := hide (HB.out.trans (own_grown_below HO2.out HB.out.size g5)); clear o5 g5)
            | (go_at_call 60; refine (hasTwice_any _ _ _ _ _ HO5.out.row (by omega)).mono ?_; rintro e w6 ⟨rfl, q6, rfl⟩; rw [HT.out]))
          go_ret2
          exact ⟨none, 0, 0, by rw [HC.out, errM_two HT.out]; rfl, by rw [HCV.out, madV_no (by rw [errM_two HT.out]; decide)]; exact Own.nil _ _ _ _, B1.out.trans (below_drewN (HB5.out.mono B1.out.size) _)⟩
        · have HT := hide ht
          clear ht
          go_wp2_with (first
            | (go_at_call 84; refine (Sort_any _ _ _ _ _ _ HO2.out (by omega)).mono ?_; rintro e w5 ⟨rfl, o5, g5⟩; have HO5 := hide o5; have HB5 := hide (HB.out.trans (own_grown_below HO2.out HB.out.size g5)); clear o5 g5)
            | (go_at_call 60; refine (hasTwice_any _ _ _ _ _ HO5.out.row (by omega)).mono ?_; rintro e w6 ⟨rfl, q6, rfl⟩; rw [HT.out])
            | (go_at_call 90; refine (checked_any _ _ _ _ w1.heap.size _ (HO5.out.drewN q6) (by omega)).mono ?_; rintro e w7 ⟨A7, n7, c7, rfl, o7, b7⟩))
          go_ret2
          exact ⟨A7, n7, c7, by rw [HC.out, errM_one HT.out]; rfl, by rw [HCV.out, madV_one HT.out]; exact o7.more B1.out.size, B1.out.trans ((below_drewN HB5.out q6).trans (b7.mono HB5.out.size) |>.mono B1.out.size)⟩
  · have HC := hide (errS_no (fun x y => x - y) he)
    have HCV := hide (cmbV_no (fun x y => x - y) he)
    have hne : (errB xs ys != 0) = true := by simpa using he
    clear he
    go_enter Try.func86, Try.ntmps86
    go_wp2_with (go_at_call 65; refine (validateBoth_any _ _ _ xs _ _ _ ys _ HX.out HY.out hn hn').mono ?_; rintro e w1 ⟨rfl, b1⟩; have B1 := hide b1; clear b1)
    go_ret2
    exact ⟨none, 0, 0, by rw [HC.out]; rfl, by rw [HCV.out]; exact Own.nil _ _ _ _, B1.out⟩
end Go.Proofs.Ytllfkhcpdgdmnaa
