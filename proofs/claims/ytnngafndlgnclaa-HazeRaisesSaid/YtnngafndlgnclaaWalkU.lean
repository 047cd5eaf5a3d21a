/- Walks of Turn and Rising on both sides, and of HazeRising. -/
import Derived.Test.YtnngafndlgnclaaWalkT
namespace Go.Proofs.Ytnngafndlgnclaa
open Go.RowKit

theorem RowAt.belowLt {w w' : World} {A : Option Addr} {n c : Nat} {xs : Rd} {b off B : Nat} (h : RowAt w A n c xs b off) (hb : Below B w w') (hB : b < B) : RowAt w' A n c xs b off := by
  obtain ⟨h1, hc, hm, h2, h3, h4⟩ := h
  refine ⟨h1, hc, hm, h2, fun hn => Nat.lt_of_lt_of_le (h3 hn) hb.size, fun k hk => ?_⟩
  rw [hb.cell (p := ⟨b, off + k * 2, none⟩) hB, hb.cell (p := ⟨b, off + k * 2 + 1, none⟩) hB]
  exact h4 k hk
set_option maxHeartbeats 1000000 in
theorem Turn_any (A : Option Addr) (n c : Nat) (xs : Rd) (w : World) (h : Row w A n c xs) (hn2 : n ≤ 1000) :
    Calls Try.prog 39 #[.slice A n c] w (ListPost w.heap.size xs.reverse (errH xs) w) := by
  have HR := hide h
  have hl := h.length
  by_cases he : errH xs = 0
  · have hn1 : 1 ≤ n := by have := (errH_zero he).1; omega
    have HE := hide he
    clear h hl he
    go_enter Try.func39, Try.ntmps39
    go_wp2_with fail
    refine (Validate_any _ _ _ xs _ HR.out (by omega)).mono ?_
    rw [HE.out]
    rintro e w1 ⟨rfl, hb1⟩
    have HROW := hide (HR.out.below hb1 (Nat.le_refl _))
    go_wp2_with fail
    refine (turn_any _ _ _ xs _ HROW.out hn1 hn2).mono ?_
    rintro e w2 ⟨A', c', rfl, hown, hb2⟩
    go_wp2_with fail
    go_ret2
    exact list_ok HE.out rfl (hown.more hb1.size) (hb1.trans (hb2.mono hb1.size))
  · have he' := errH_ne he
    have HE := hide he
    clear h hl
    go_enter Try.func39, Try.ntmps39
    go_wp2_with fail
    refine (Validate_any _ _ _ xs _ HR.out (by omega)).mono ?_
    rintro e w1 ⟨rfl, hb1⟩
    go_wp2_with fail
    go_ret2
    exact list_none rfl HE.out hb1
set_option maxHeartbeats 1000000 in
theorem rTurn_any (A : Option Addr) (n c : Nat) (xs : Rd) (w : World) (h : Row w A n c xs) (hn2 : n ≤ 1000) :
    Calls Try.prog 40 #[.slice A n c] w (ListPost w.heap.size xs.reverse (errH xs) w) := by
  have HR := hide h
  have hl := h.length
  by_cases he : errH xs = 0
  · have hn1 : 1 ≤ n := by have := (errH_zero he).1; omega
    have HE := hide he
    clear h hl he
    go_enter Try.func40, Try.ntmps40
    go_wp2_with fail
    refine (rValidate_any _ _ _ xs _ HR.out (by omega)).mono ?_
    rw [HE.out]
    rintro e w1 ⟨rfl, rfl⟩
    go_wp2_with fail
    refine (turned_any _ _ _ xs _ HR.out hn1 hn2).mono ?_
    rintro e w2 ⟨A', c', rfl, hown, hb2⟩
    go_wp2_with fail
    go_ret2
    exact list_ok HE.out rfl hown hb2
  · have he' := errH_ne he
    have HE := hide he
    clear h hl
    go_enter Try.func40, Try.ntmps40
    go_wp2_with fail
    refine (rValidate_any _ _ _ xs _ HR.out (by omega)).mono ?_
    rintro e w1 ⟨rfl, rfl⟩
    go_wp2_with fail
    go_ret2
    exact list_none rfl HE.out (Below.refl _ _)

/-- What a function returns that returns fractions and a code. -/
def RatsPost (B : Nat) (ys : Rd) (er : Int) (w : World) (e : Ending) (w' : World) : Prop :=
  ∃ A' n' c', e = .returned (.tuple #[.slice A' n' c', .int .i64 er]) ∧ Own w' B 26 A' n' c' (if er = 0 then ys else []) ∧ Below B w w'
theorem rats_none {B : Nat} {ys : Rd} {er v : Int} {w w' : World} (he : er = v) (hv : v ≠ 0) (hb : Below B w w') : RatsPost B ys er w (.returned (.tuple #[.slice none 0 0, .int .i64 v])) w' := by
  subst he
  refine ⟨none, 0, 0, rfl, ?_, hb⟩
  rw [if_neg hv]
  exact Own.nil _ _ _
theorem rats_ok {B n c : Nat} {A : Option Addr} {ys zs : Rd} {er : Int} {w w' : World} (he : er = 0) (hy : ys = zs) (ho : Own w' B 26 A n c zs) (hb : Below B w w') : RatsPost B ys er w (.returned (.tuple #[.slice A n c, .int .i64 0])) w' := by
  subst he hy
  refine ⟨A, n, c, rfl, ?_, hb⟩
  rw [if_pos rfl]
  exact ho
set_option maxHeartbeats 1000000 in
theorem Rising_any (A : Option Addr) (n c : Nat) (xs : Rd) (w : World) (h : Row w A n c xs) (hn2 : n ≤ 1000) :
    Calls Try.prog 37 #[.slice A n c] w (RatsPost w.heap.size (best xs.reverse).reverse (errH xs) w) := by
  have HR := hide h
  have hl := h.length
  by_cases he : errH xs = 0
  · obtain ⟨e1, e2, e3⟩ := errH_zero he
    have hn1 : 1 ≤ n := by omega
    have hn12 : n ≤ 12 := by omega
    have HE := hide he
    clear h hl he e1 e2
    go_enter Try.func37, Try.ntmps37
    go_wp2_with fail
    refine (Validate_any _ _ _ xs _ HR.out (by omega)).mono ?_
    rw [HE.out]
    rintro e w1 ⟨rfl, hb1⟩
    have HROW := hide (HR.out.below hb1 (Nat.le_refl _))
    go_wp2_with fail
    refine (turn_any _ _ _ xs _ HROW.out hn1 hn2).mono ?_
    rintro e w2 ⟨A2, c2, rfl, hown, hb2⟩
    have hbel2 := hb1.trans (hb2.mono hb1.size)
    have HROW2 := hide hown.row
    clear hown hb1 hb2
    go_wp2_with fail
    refine (best_any _ _ _ _ _ HROW2.out (okH_rev e3) hn1 hn12).mono ?_
    rintro e w3 ⟨A3, c3, rfl, hown3, hb3⟩
    have hbel3 := hbel2.trans (hb3.mono hbel2.size)
    have hz := hbel2.size
    clear hb3
    go_wp2_with fail
    refine (ReverseQ_any _ _ _ _ _ _ hown3 hn1 hn2).mono ?_
    rintro e w4 ⟨rfl, hown4, hb4⟩
    go_wp2_with fail
    go_ret2
    exact rats_ok HE.out rfl (hown4.more hz) (hbel3.trans (hb4.mono hz))
  · have he' := errH_ne he
    have HE := hide he
    clear h hl
    go_enter Try.func37, Try.ntmps37
    go_wp2_with fail
    refine (Validate_any _ _ _ xs _ HR.out (by omega)).mono ?_
    rintro e w1 ⟨rfl, hb1⟩
    go_wp2_with fail
    go_ret2
    exact rats_none rfl HE.out hb1
set_option maxHeartbeats 2000000 in
theorem rRising_any (A : Option Addr) (n c : Nat) (xs : Rd) (w : World) (h : Row w A n c xs) (hn2 : n ≤ 1000) :
    Calls Try.prog 38 #[.slice A n c] w (RatsPost w.heap.size (best xs.reverse).reverse (errH xs) w) := by
  have HR := hide h
  have hl := h.length
  by_cases he : errH xs = 0
  · obtain ⟨e1, e2, e3⟩ := errH_zero he
    have hn1 : 1 ≤ n := by omega
    have hn12 : n ≤ 12 := by omega
    have HE := hide he
    have HX := hide (show (best xs.reverse).length = n by rw [best_len, List.length_reverse, hl])
    clear h hl he e1 e2
    go_enter Try.func38, Try.ntmps38
    go_wp2_with fail
    refine (rValidate_any _ _ _ xs _ HR.out (by omega)).mono ?_
    rw [HE.out]
    rintro e w1 ⟨rfl, rfl⟩
    go_wp2_with fail
    refine (turned_any _ _ _ xs _ HR.out hn1 hn2).mono ?_
    rintro e w2 ⟨A2, c2, rfl, hown, hb2⟩
    have HROW2 := hide hown.row
    clear hown
    go_wp2_with fail
    refine (rbest_any _ _ _ _ _ HROW2.out (okH_rev e3) hn12).mono ?_
    rintro e w3 ⟨A3, c3, rfl, hown3, hb3⟩
    have hbel3 := hb2.trans (hb3.mono hb2.size)
    generalize hB : best xs.reverse = L at *
    have HB := hide hB
    obtain ⟨b, off, hr⟩ := hown3.row
    obtain rfl := hr.at_ (by omega)
    have hcap := hr.cap
    have hmax := hr.max
    have HRA := hide hr
    have hblt := hr.lt (by omega)
    clear hb3 hb2 hown3 hr hB HROW2
    go_wp2_with fail
    go_loopw [6, 7] (fun s t wr => ∃ (k : Nat) (A' : Option Addr) (c' : Nat), k ≤ n ∧ s = .slice A' k c' ∧ t = .int .i64 ((n : Int) - 1 - k) ∧ Own wr w3.heap.size 26 A' k c' (L.reverse.take k) ∧ w3.heap.size ≤ wr.heap.size ∧ RowAt wr (some ⟨b, off, none⟩) n c3 L b off ∧ Below w.heap.size w wr) (fun _ t _ => (intOf t + 1).toNat)
    case atStart => exact ⟨0, none, 0, Nat.zero_le _, rfl, by go_num, Own.nil _ _ _, Nat.le_refl _, HRA.out, hbel3⟩
    case round =>
      obtain ⟨k, A', c', hk, rfl, rfl, hown, hzz, hra, hbel⟩ := hrel
      have HR1 := hide hra
      clear hra
      by_cases hlt : k < n
      · obtain ⟨c1, c2⟩ := HR1.out.cell (n - 1 - k) (by omega)
        have hg := getD_reverse (xs := L) (j := k) (by rw [HX.out]; exact hlt)
        rw [HX.out] at hg
        rw [← hg] at c1 c2
        have ht : L.reverse.take (k + 1) = L.reverse.take k ++ [L.reverse.getD k (0, 0)] := by
          rw [List.take_succ_eq_append_getElem (by rw [List.length_reverse, HX.out]; exact hlt)]
          congr 2
          simp [List.getD_eq_getElem?_getD, HX.out, hlt]
        generalize L.reverse.getD k (0, 0) = x at *
        have HT := hide ht
        have HOWN := hide hown
        obtain ⟨x1, x2⟩ := x
        simp only at c1 c2
        clear hg ht hown
        have i1 : (0 : Int) ≤ (n : Int) - 1 - (k : Int) := by omega
        have i2 : (n : Int) - 1 - (k : Int) < (n : Int) := by omega
        have i5 : ((n : Int) - 1 - (k : Int)).toNat = n - 1 - k := by omega
        go_wp2_with (at_builtin; refine wpList_app1 _ rfl (.tmp 23) (.tmp 28) 34 26 rfl Try.underlying34 info_rat w3.heap.size k c' A' _ _ _ rfl rfl HOWN.out (by omega) hzz ?_; intro A2 c2 w5 hown5 hb5 hg5)
        go_roundw
        case rel =>
          refine ⟨k + 1, A2, c2, by omega, rfl, by go_num, by rw [HT.out]; exact hown5, Nat.le_trans hzz hb5.size, HR1.out.belowLt hb5 hblt, hbel.trans (hb5.mono hbel3.size)⟩
        case measure => simp [intOf]; omega
      · obtain rfl : k = n := by omega
        have e : L.reverse.take k = L.reverse := List.take_of_length_le (by rw [List.length_reverse, HX.out]; exact Nat.le_refl _)
        rw [e] at hown
        have HO := hide hown
        clear hown e
        go_wp2_with fail
        go_ret2
        exact rats_ok HE.out rfl (HO.out.more hbel3.size) hbel
  · have he' := errH_ne he
    have HE := hide he
    clear h hl
    go_enter Try.func38, Try.ntmps38
    go_wp2_with fail
    refine (rValidate_any _ _ _ xs _ HR.out (by omega)).mono ?_
    rintro e w1 ⟨rfl, rfl⟩
    go_wp2_with fail
    go_ret2
    exact rats_none rfl HE.out (Below.refl _ _)


set_option maxRecDepth 100000 in
set_option maxHeartbeats 4000000 in
theorem HazeRising_walk (A : Option Addr) (n c : Nat) (xs : Rd) (w : World) (h : Row w A n c xs) :
    Calls Try.prog 9 #[.slice A n c] w fun e w' => e = .returned (.bool true) ∧ Below w.heap.size w w' := by
  have HR := hide h
  have hl := h.length
  by_cases hn : 100 < n
  · clear h hl
    go_enter Try.func9, Try.ntmps9
    go_wp2_with (first | (go_at_call 18; refine (Long_yes _ _ _ _ hn).mono ?_; rintro e w' ⟨rfl, rfl⟩) | (go_at_call 19; refine (known_any _).mono ?_; rintro e w1 ⟨rfl, hb⟩))
    go_ret
    exact ⟨rfl, hb⟩
  · have hn' : n ≤ 100 := by omega
    have HL := hide hl
    clear h hl hn
    go_enter Try.func9, Try.ntmps9
    go_wp2_with fail
    refine (Long_no _ _ _ _ hn').mono ?_
    rintro e w' ⟨rfl, rfl⟩
    go_wp2_with fail
    refine (Rising_any _ _ _ xs _ HR.out (by omega)).mono ?_
    rintro e w1 ⟨A1, n1, c1, rfl, o1, b1⟩
    have O1 := hide o1
    have HR1 := hide (HR.out.below b1 (Nat.le_refl _))
    clear o1
    go_wp2_with fail
    refine (rRising_any _ _ _ xs _ HR1.out (by omega)).mono ?_
    rintro e w2 ⟨A2, n2, c2, rfl, o2, b2⟩
    have O2 := hide o2
    have O1' := hide (O1.out.below b2 (Nat.le_refl _))
    have HR2 := hide (HR1.out.below b2 (Nat.le_refl _))
    have B2 := b1.trans (b2.mono b1.size)
    clear o2 b1 b2 O1 HR1
    go_wp2_with fail
    refine (Turn_any _ _ _ xs _ HR2.out (by omega)).mono ?_
    rintro e w3 ⟨A3, n3, c3, rfl, o3, b3⟩
    have O3 := hide o3
    have O1 := hide (O1'.out.below b3 (Nat.le_refl _))
    have O2' := hide (O2.out.below b3 (Nat.le_refl _))
    have HR3 := hide (HR2.out.below b3 (Nat.le_refl _))
    have B3 := B2.trans (b3.mono B2.size)
    clear o3 b3 B2 O1' O2 HR2
    go_wp2_with fail
    refine (rTurn_any _ _ _ xs _ HR3.out (by omega)).mono ?_
    rintro e w4 ⟨A4, n4, c4, rfl, o4, b4⟩
    have O4 := hide o4
    have O1' := hide (O1.out.below b4 (Nat.le_refl _))
    have O2 := hide (O2'.out.below b4 (Nat.le_refl _))
    have O3' := hide (O3.out.below b4 (Nat.le_refl _))
    have B4 := B3.trans (b4.mono B3.size)
    clear o4 b4 B3 O1 O2' O3 HR3
    go_wp2_with fail
    refine (SameRats_any _ _ _ _ _ _ _ _ _ O1'.out.row O2.out.row).mono ?_
    rw [eqL_self]
    rintro e w5 ⟨rfl, m5, rfl⟩
    have O1 := hide (O1'.out.drewN m5)
    have O3 := hide (O3'.out.drewN m5)
    have O4' := hide (O4.out.drewN m5)
    have B5 := below_drewN B4 m5
    generalize w4.drewN m5 = w5 at *
    clear O1' O2 O3' O4 B4
    go_wp2_with fail
    refine (SameReadings_any _ _ _ _ _ _ _ _ _ O3.out.row O4'.out.row).mono ?_
    rw [eqL_self]
    rintro e w6 ⟨rfl, m6, rfl⟩
    have O1' := hide (O1.out.drewN m6)
    have O3' := hide (O3.out.drewN m6)
    have B6 := below_drewN B5 m6
    generalize w5.drewN m6 = w6 at *
    clear O1 O3 O4' B5
    go_wp2_with fail
    have hn3 : n3 ≤ 1000 := by
      have := O3'.out.len
      split at this
      · rw [List.length_reverse, HL.out] at this; omega
      · simp at this; omega
    refine (Best_any _ _ _ _ _ O3'.out.row hn3).mono ?_
    rintro e w7 ⟨A7, n7, c7, rfl, o7, b7⟩
    have O7 := hide o7
    have O1 := hide (O1'.out.below b7 (Nat.le_refl _))
    have B7 := B6.trans (b7.mono B6.size)
    have z7 := B7.size
    clear o7 b7 B6 O1'
    by_cases he : errH xs = 0
    · obtain ⟨e1, e2, e3⟩ := errH_zero he
      rw [HL.out] at e1 e2
      have her := errH_rev he
      rw [if_pos he, her, if_pos rfl] at O7
      rw [if_pos he] at O1
      rw [if_pos he, her, he]
      generalize hL : best xs.reverse = L at *
      have hLl : L.length = n := by rw [← hL, best_len, List.length_reverse, HL.out]
      have hn7 : n7 = n := by have := O7.out.len; omega
      have hn1 : n1 = n := by have := O1.out.len; rw [List.length_reverse] at this; omega
      subst hn7 hn1
      obtain ⟨bx, ox, rx⟩ := O7.out.row
      obtain ⟨by', oy, ry⟩ := O1.out.row
      obtain rfl := rx.at_ (by omega)
      obtain rfl := ry.at_ (by omega)
      have hcx := rx.cap
      have hcy := ry.cap
      have hmx := rx.max
      have hmy := ry.max
      have RX := hide rx
      have RY := hide ry
      have HLL := hide hLl
      have hnn : n1 ≤ 12 := by omega
      clear rx ry O7 O1 O3' he her hL hLl
      go_wp2_with fail
      go_loopw [13] (fun t wr => ∃ k m : Nat, k ≤ n1 ∧ t = .int .i64 k ∧ wr = w7.drewN m) (fun t _ => n1 - (intOf t).toNat)
      case atStart => exact ⟨0, 0, Nat.zero_le _, rfl, rfl⟩
      case round =>
        obtain ⟨k, m, hk, rfl, rfl⟩ := hrel
        by_cases hlt : k < n1
        · obtain ⟨x1, x2⟩ := RX.out.cell k hlt
          obtain ⟨y1, y2⟩ := RY.out.cell (n1 - 1 - k) (by omega)
          have hg := getD_reverse (xs := L) (j := n1 - 1 - k) (by rw [HLL.out]; omega)
          rw [HLL.out, show n1 - 1 - (n1 - 1 - k) = k by omega] at hg
          rw [hg] at y1 y2
          clear hg
          generalize L.getD k (0, 0) = x at *
          obtain ⟨p, q⟩ := x
          simp only at x1 x2 y1 y2
          have hw1 : IntKind.i64.wrap ((n1 : Int) - 1) = (n1 : Int) - 1 := IntWalk.i64_in _ (by omega)
          have hw2 : IntKind.i64.wrap ((n1 : Int) - 1 - (k : Int)) = (n1 : Int) - 1 - (k : Int) := IntWalk.i64_in _ (by omega)
          have i0 : (k : Int) < (n1 : Int) := by omega
          have i1 : (0 : Int) ≤ (n1 : Int) - 1 - (k : Int) := by omega
          have i2 : (n1 : Int) - 1 - (k : Int) < (n1 : Int) := by omega
          have i3 : (k : Int) ≤ (n1 : Int) - 1 := by omega
          have i5 : ((n1 : Int) - 1 - (k : Int)).toNat = n1 - 1 - k := by omega
          go_wp2_with fail
          go_quiet (fail)
          clear hw1 hw2 i5
          go_wp2_with fail
          go_roundw
          case rel => exact ⟨k + 1, _, by omega, by go_num, rfl⟩
          case measure => simp [intOf]; omega
        · have Bm := below_drewN B7 m
          have zm := Bm.size
          go_wp2_with (first | (go_at_call 19; refine (known_any _).mono ?_; rintro e w8 ⟨rfl, hb8⟩))
          go_ret
          exact ⟨rfl, Bm.trans (hb8.mono zm)⟩
    · have he' := errH_ne he
      rw [if_neg he]
      clear he O1 O3' O7
      go_wp2_with (first | (go_at_call 19; refine (known_any _).mono ?_; rintro e w8 ⟨rfl, hb8⟩))
      go_ret
      exact ⟨rfl, B7.trans (hb8.mono z7)⟩

end Go.Proofs.Ytnngafndlgnclaa
