/- Walks: FromBlasts, both sides; ToneBlasts, ToneMakes. -/
import Derived.Test.YtbehnhhgoeiofaaWalkBl
import Derived.Test.YtbehnhhgoeiofaaWalkRp
import Derived.Test.YtbehnhhgoeiofaaMathFb
namespace Go.Proofs.Ytbehnhhgoeiofaa
open Go.RowKit

set_option maxHeartbeats 1000000 in
theorem FromBlasts_any (A : Option Addr) (n c : Nat) (xs : List Int) (w : World) (h : Row w A n c xs) (hn : n ≤ 1000) :
    Calls Try.prog 52 #[.slice A n c] w fun e w' => ∃ A' n' c', e = .returned (.tuple #[.slice A' n' c', .int .i64 (errF xs)]) ∧ Own w' w.heap.size A' n' c' (okl (errF xs) (expand 1 xs)) ∧ Below w.heap.size w w' := by
  have HR := hide h
  obtain ⟨b, off, q1, hcap, hmax, q2, q3, q4⟩ := h
  have H1 := hide q1
  have H2 := hide q2
  have H3 := hide q3
  have H4 := hide q4
  clear q2 q3 q4
  cases hev : evenB xs with
  | false =>
    have HF := hide (errF_odd hev)
    unfold evenB at hev
    rw [q1] at hev
    clear q1
    by_cases h2 : n < 2
    · clear hev
      go_enter Try.func52, Try.ntmps52
      go_wp2
      go_ret2
      exact ⟨none, 0, 0, ret2_vi HF.out.symm, by rw [okl_ne (by rw [HF.out]; decide)]; exact Own.nil _ _, Below.refl _ _⟩
    · have h2' : 2 ≤ n := by omega
      have hodd : ((n : Int) % 2 != 0) = true := by
        simp [h2'] at hev
        simp; omega
      clear hev h2
      go_enter Try.func52, Try.ntmps52
      go_wp2
      go_ret2
      exact ⟨none, 0, 0, ret2_vi HF.out.symm, by rw [okl_ne (by rw [HF.out]; decide)]; exact Own.nil _ _, Below.refl _ _⟩
  | true =>
    have HEV := hide hev
    unfold evenB at hev
    rw [q1] at hev
    simp at hev
    have h2' : 2 ≤ n := hev.1
    have hodd : ((n : Int) % 2 != 0) = false := by simp; omega
    obtain rfl := H2.out (by omega)
    have q3' := H3.out (by omega)
    clear hev q1
    go_enter Try.func52, Try.ntmps52
    go_wp2
    go_loop [4, 21] (fun s i => ∃ k : Nat, k ≤ n ∧ i = .int .i64 k ∧ s = .int .i64 (sumTo xs k) ∧ LensTo xs k) (fun _ i => n - (intOf i).toNat)
    case atStart => exact ⟨0, Nat.zero_le _, rfl, rfl, lensTo_zero _⟩
    case round =>
      obtain ⟨k, hk, rfl, rfl, hlens⟩ := hrel
      obtain ⟨g1, g2⟩ := sum_lens k hlens
      by_cases hlt : k < n
      · have hcx := H4.out k hlt
        have hsucc := sumTo_succ xs k
        generalize hx : xs.getD k 0 = x at *
        have HX := hide hx
        have HSS := hide hsucc
        clear hx hsucc
        by_cases hx1 : x < 1
        · have HF := hide (errF_bad HEV.out (okLens_false (k := k) (by rw [H1.out]; exact hlt) (by rw [HX.out]; exact .inl hx1)))
          go_wp2
          go_ret2
          exact ⟨none, 0, 0, ret2_vi HF.out.symm, by rw [okl_ne (by rw [HF.out]; decide)]; exact Own.nil _ _, Below.refl _ _⟩
        · by_cases hx2 : 24 < x
          · have HF := hide (errF_bad HEV.out (okLens_false (k := k) (by rw [H1.out]; exact hlt) (by rw [HX.out]; exact .inr hx2)))
            go_wp2
            go_ret2
            exact ⟨none, 0, 0, ret2_vi HF.out.symm, by rw [okl_ne (by rw [HF.out]; decide)]; exact Own.nil _ _, Below.refl _ _⟩
          · have hx1' : 1 ≤ x := by omega
            have hx2' : x ≤ 24 := by omega
            clear hx1 hx2
            go_wp2
            go_round
            case rel => exact ⟨k + 1, by omega, by go_num, by rw [HSS.out], lensTo_succ hlens (by rw [HX.out]; exact hx1') (by rw [HX.out]; exact hx2')⟩
            case measure => simp [intOf]; omega
      · obtain rfl : k = n := by omega
        have HOK := hide (okLens_true (l := xs) (by rw [H1.out]; exact hlens))
        by_cases hbig : 24 < sumTo xs k
        · have HF := hide (errF_big HEV.out HOK.out (by rw [H1.out]; exact hbig))
          go_wp2
          go_ret2
          exact ⟨none, 0, 0, ret2_vi HF.out.symm, by rw [okl_ne (by rw [HF.out]; decide)]; exact Own.nil _ _, Below.refl _ _⟩
        · have HF := hide (errF_zero HEV.out HOK.out (by rw [H1.out]; exact hbig))
          have hbig' : sumTo xs k ≤ 24 := by omega
          clear hbig
          go_wp2
          go_loopw [7, 39] (fun v j wr => ∃ (i m : Nat) (A' : Option Addr) (c' : Nat), i ≤ k ∧ j = .int .i64 i ∧ v = .slice A' m c' ∧ m ≤ 24 * i ∧ Own wr w.heap.size A' m c' (expTo xs i) ∧ Below w.heap.size w wr) (fun _ j _ => k - (intOf j).toNat)
          case atStart => exact ⟨0, 0, none, 0, Nat.zero_le _, rfl, rfl, Nat.le_refl _, by rw [expTo_zero]; exact Own.nil _ _, Below.refl _ _⟩
          case round =>
            obtain ⟨i, m, A', c', hi, rfl, rfl, hm, hown, hb⟩ := hrel
            have hsz := hb.size
            by_cases hlt : i < k
            · have hcx := (hb.cell (p := ⟨b, off + i, none⟩) q3').trans (H4.out i hlt)
              obtain ⟨hx1, hx2⟩ := hlens i hlt
              have hes := expTo_succ (l := xs) (k := i) (by rw [H1.out]; exact hlt)
              have HES := hide hes
              clear hes
              obtain ⟨t, ht⟩ : ∃ t : Nat, xs.getD i 0 = (t : Int) := ⟨(xs.getD i 0).toNat, by omega⟩
              rw [ht] at hcx hx1 hx2
              have HT := hide ht
              have ht1 : 1 ≤ t := by omega
              have ht2 : t ≤ 24 := by omega
              clear ht hx1 hx2
              go_wp2_with (first | (go_at_call 84; refine (slRepeat_any _ 1 1 [1 - (i : Int) % 2] t _ (Own.lit wr [1 - (i : Int) % 2] (Nat.le_refl _) (by simp [maxLen])).row (by omega) (by omega) (by omega) (by omega)).mono ?_; rintro e w1 ⟨A1, c1, rfl, hown1, hb1⟩; rw [Nat.one_mul] at hown1 ⊢; have hb2 := ((Below.refl wr.heap.size wr).alloc (Nat.le_refl _) _).trans (hb1.mono (by simp)); have hown' := hown.below hb2 (Nat.le_refl _); have hsz2 := hb2.size) | (at_builtin; refine wpList_appN _ rfl (.tmp 44) (.tmp 50) rfl w.heap.size m c' A' _ A1 t c1 _ rfl rfl hown' hown1.row ht1 (by omega) (by omega) (by omega) ?_; intro A2 c2 w2 hown2 hb3 _))
              go_roundw
              case rel => exact ⟨i + 1, m + t, A2, c2, by omega, by go_num, by go_num, by omega, by rw [HES.out, HT.out, Int.toNat_natCast, ← piece_one]; exact hown2, (hb.trans (hb2.mono hsz)).trans hb3⟩
              case measure => simp [intOf]; omega
            · obtain rfl : i = k := by omega
              go_wp2
              go_ret2
              exact ⟨_, _, _, ret2_vi HF.out.symm, by rw [HF.out, okl_zero rfl, ← expTo_all, H1.out]; exact hown, hb⟩

set_option maxHeartbeats 1000000 in
theorem rFromBlasts_any (A : Option Addr) (n c : Nat) (xs : List Int) (w : World) (h : Row w A n c xs) (hn : n ≤ 1000) :
    Calls Try.prog 53 #[.slice A n c] w fun e w' => ∃ A' n' c', e = .returned (.tuple #[.slice A' n' c', .int .i64 (errF xs)]) ∧ Own w' w.heap.size A' n' c' (okl (errF xs) (expand 1 xs)) ∧ Below w.heap.size w w' := by
  have HR := hide h
  obtain ⟨b, off, q1, hcap, hmax, q2, q3, q4⟩ := h
  have H1 := hide q1
  have H2 := hide q2
  have H3 := hide q3
  have H4 := hide q4
  clear q2 q3 q4
  cases hev : evenB xs with
  | false =>
    have HF := hide (errF_odd hev)
    unfold evenB at hev
    rw [q1] at hev
    clear q1
    by_cases h2 : n < 2
    · clear hev
      go_enter Try.func53, Try.ntmps53
      go_wp2
      go_ret2
      exact ⟨none, 0, 0, ret2_vi HF.out.symm, by rw [okl_ne (by rw [HF.out]; decide)]; exact Own.nil _ _, Below.refl _ _⟩
    · have h2' : 2 ≤ n := by omega
      have hodd : ((n : Int) % 2 != 0) = true := by
        simp [h2'] at hev
        simp; omega
      clear hev h2
      go_enter Try.func53, Try.ntmps53
      go_wp2
      go_ret2
      exact ⟨none, 0, 0, ret2_vi HF.out.symm, by rw [okl_ne (by rw [HF.out]; decide)]; exact Own.nil _ _, Below.refl _ _⟩
  | true =>
    have HEV := hide hev
    unfold evenB at hev
    rw [q1] at hev
    simp at hev
    have h2' : 2 ≤ n := hev.1
    have hodd : ((n : Int) % 2 != 0) = false := by simp; omega
    obtain rfl := H2.out (by omega)
    have q3' := H3.out (by omega)
    clear hev q1
    go_enter Try.func53, Try.ntmps53
    go_wp2
    go_loop [4, 5] (fun s i => ∃ k : Nat, k ≤ n ∧ i = .int .i64 k ∧ s = .int .i64 (sumTo xs k) ∧ LensTo xs k) (fun _ i => n - (intOf i).toNat)
    case atStart => exact ⟨0, Nat.zero_le _, rfl, rfl, lensTo_zero _⟩
    case round =>
      obtain ⟨k, hk, rfl, rfl, hlens⟩ := hrel
      obtain ⟨g1, g2⟩ := sum_lens k hlens
      by_cases hlt : k < n
      · have hcx := H4.out k hlt
        have hsucc := sumTo_succ xs k
        generalize hx : xs.getD k 0 = x at *
        have HX := hide hx
        have HSS := hide hsucc
        clear hx hsucc
        by_cases hx1 : 1 ≤ x ∧ x ≤ 24
        · have hw := withinB_true hx1.1 hx1.2
          have hx1' : 1 ≤ x := by omega
          have hx2' : x ≤ 24 := by omega
          clear hx1
          go_wp2_with (go_at_call 61; refine (within_any _ _ _ _).mono ?_; rintro e w' ⟨rfl, rfl⟩)
          go_round
          case rel => exact ⟨k + 1, by omega, by go_num, by rw [HSS.out], lensTo_succ hlens (by rw [HX.out]; exact hx1') (by rw [HX.out]; exact hx2')⟩
          case measure => simp [intOf]; omega
        · have hw : withinB x 1 24 = false := withinB_false (by omega)
          have HF := hide (errF_bad HEV.out (okLens_false (k := k) (by rw [H1.out]; exact hlt) (by rw [HX.out]; omega)))
          clear hx1
          go_wp2_with (go_at_call 61; refine (within_any _ _ _ _).mono ?_; rintro e w' ⟨rfl, rfl⟩)
          go_ret2
          exact ⟨none, 0, 0, ret2_vi HF.out.symm, by rw [okl_ne (by rw [HF.out]; decide)]; exact Own.nil _ _, Below.refl _ _⟩
      · obtain rfl : k = n := by omega
        have HOK := hide (okLens_true (l := xs) (by rw [H1.out]; exact hlens))
        by_cases hbig : 24 < sumTo xs k
        · have HF := hide (errF_big HEV.out HOK.out (by rw [H1.out]; exact hbig))
          go_wp2
          go_ret2
          exact ⟨none, 0, 0, ret2_vi HF.out.symm, by rw [okl_ne (by rw [HF.out]; decide)]; exact Own.nil _ _, Below.refl _ _⟩
        · have HF := hide (errF_zero HEV.out HOK.out (by rw [H1.out]; exact hbig))
          have hbig' : sumTo xs k ≤ 24 := by omega
          clear hbig
          go_wp2
          go_loopw [6, 7] (fun v j wr => ∃ (i m : Nat) (A' : Option Addr) (c' : Nat), i ≤ k ∧ j = .int .i64 i ∧ v = .slice A' m c' ∧ m ≤ 24 * i ∧ Own wr w.heap.size A' m c' (expTo xs i) ∧ Below w.heap.size w wr) (fun _ j _ => k - (intOf j).toNat)
          case atStart => exact ⟨0, 0, none, 0, Nat.zero_le _, rfl, rfl, Nat.le_refl _, by rw [expTo_zero]; exact Own.nil _ _, Below.refl _ _⟩
          case round =>
            obtain ⟨i, m, A', c', hi, rfl, rfl, hm, hown, hb⟩ := hrel
            by_cases hlt : i < k
            · obtain ⟨hx1, hx2⟩ := hlens i hlt
              have hcx := H4.out i hlt
              have hes := expTo_succ (l := xs) (k := i) (by rw [H1.out]; exact hlt)
              have HES := hide hes
              clear hes
              obtain ⟨t, ht⟩ : ∃ t : Nat, xs.getD i 0 = (t : Int) := ⟨(xs.getD i 0).toNat, by omega⟩
              rw [ht] at hcx hx1 hx2
              have HT := hide ht
              have ht1 : 1 ≤ t := by omega
              have ht2 : t ≤ 24 := by omega
              have HCX := hide hcx
              clear ht hx1 hx2 hcx
              go_wp2
              obtain ⟨wo, rfl⟩ : ∃ wo : World, wo = wr := ⟨_, rfl⟩
              go_loopw [6, 8] (fun v j wi => ∃ (q : Nat) (A2 : Option Addr) (c2 : Nat), q ≤ t ∧ j = .int .i64 q ∧ v = .slice A2 (m + q) c2 ∧ Own wi w.heap.size A2 (m + q) c2 (expTo xs i ++ List.replicate q (1 - (i : Int) % 2)) ∧ Below w.heap.size w wi) (fun _ j _ => t - (intOf j).toNat)
              case atStart => exact ⟨0, A', c', Nat.zero_le _, rfl, rfl, by simpa using hown, hb⟩
              case round =>
                obtain ⟨q, A2, c2, hq, rfl, rfl, hown2, hb2⟩ := hrel
                have hcx := (hb2.cell (p := ⟨b, off + i, none⟩) q3').trans HCX.out
                have hsz := hb2.size
                by_cases hlt2 : q < t
                · go_wp2_with (at_builtin; refine wpList_app1 _ rfl (.tmp 52) (.tmp 56) rfl w.heap.size (m + q) c2 A2 _ _ rfl rfl hown2 (by omega) hsz ?_; intro A3 c3 w3 hown3 hb3 _)
                  go_roundw
                  case rel => exact ⟨q + 1, A3, c3, by omega, by go_num, by go_num, by rw [List.replicate_succ', ← List.append_assoc]; exact hown3, hb2.trans hb3⟩
                  case measure => simp [intOf]; omega
                · obtain rfl : q = t := by omega
                  go_wp2
                  go_roundw
                  case rel => exact ⟨i + 1, m + q, A2, c2, by omega, by go_num, rfl, by omega, by rw [HES.out, HT.out, Int.toNat_natCast]; exact hown2, hb2⟩
                  case measure => simp [intOf]; omega
            · obtain rfl : i = k := by omega
              go_wp2
              go_ret2
              exact ⟨_, _, _, ret2_vi HF.out.symm, by rw [HF.out, okl_zero rfl, ← expTo_all, H1.out]; exact hown, hb⟩

theorem rule_of_bl {xs : List Int} (h : errBl xs = 0) : errOf xs = 0 ∧ ruleB xs = true := by
  unfold errBl at h
  split at h
  · rename_i he
    refine ⟨he, ?_⟩
    cases hr : ruleB xs with
    | true => rfl
    | false => rw [hr] at h; simp at h
  · contradiction
theorem blL_length_le {xs : List Int} (h : errBl xs = 0) : (blL xs).length ≤ 24 := by
  obtain ⟨h1, h2⟩ := rule_of_bl h
  have := (bl_make h1 h2).1
  obtain ⟨_, hok, hs⟩ := errF_ok this
  have := sum_lens _ (lens_of_ok hok)
  omega

set_option maxHeartbeats 1000000 in
theorem ToneBlasts_walk (A : Option Addr) (n c : Nat) (xs : List Int) (w : World) (h : Row w A n c xs) :
    Calls Try.prog 12 #[.slice A n c] w fun e w' => e = .returned (.bool true) ∧ Below w.heap.size w w' := by
  have HR := hide h
  have HL := hide h.length
  clear h
  by_cases hn : 200 < n
  · go_enter Try.func12, Try.ntmps12
    go_wp2_with (first | (go_at_call 15; refine (Long_yes _ _ _ _ hn).mono ?_; rintro e w' ⟨rfl, rfl⟩) | (go_at_call 16; refine (known_any _).mono ?_; rintro e w9 ⟨rfl, hb9⟩))
    go_ret
    exact ⟨rfl, hb9⟩
  · have hn' : n ≤ 200 := by omega
    clear hn
    go_enter Try.func12, Try.ntmps12
    go_wp2_with fail
    refine (Long_no _ _ _ _ hn').mono ?_
    rintro e w' ⟨rfl, rfl⟩
    go_wp2_with fail
    refine (Blasts_any _ _ _ xs _ HR.out (by omega)).mono ?_
    rintro e w1 ⟨A1, n1, c1, rfl, o1, b1⟩
    have z1 := b1.size
    go_wp2_with fail
    refine (rBlasts_any _ _ _ xs _ (HR.out.below b1 (Nat.le_refl _)) (by omega)).mono ?_
    rintro e w2 ⟨A2, n2, c2, rfl, o2, b2⟩
    have B2 := b1.trans (b2.mono z1)
    have z2 := b2.size
    have o1 := o1.below b2 (Nat.le_refl _)
    go_wp2_with fail
    refine (SameInts_any _ _ _ _ _ _ _ _ _ o1.row o2.row).mono ?_
    rintro e w3 ⟨rfl, hd3⟩
    rw [eqL_self]
    have o1 := o1.below (hd3.below _) (Nat.le_refl _)
    have B3 := B2.trans (hd3.below _)
    have z3 := (hd3.below 0).size
    have m1 : n1 ≤ 1000 := by
      have := o1.len
      by_cases he : errBl xs = 0
      · rw [okl_zero he] at this; have := blL_length_le he; omega
      · rw [okl_ne he] at this; simp at this; omega
    clear b1 b2 B2
    go_wp2_with fail
    refine (FromBlasts_any _ _ _ _ _ o1.row m1).mono ?_
    rintro e w4 ⟨A4, n4, c4, rfl, o4, b4⟩
    have B4 := B3.trans (b4.mono (by omega))
    have z4 := b4.size
    by_cases he : errBl xs = 0
    · obtain ⟨e1, e2⟩ := rule_of_bl he
      obtain ⟨g1, g2⟩ := bl_make e1 e2
      rw [okl_zero he, okl_zero g1, g2] at o4
      rw [okl_zero he, g1]
      go_wp2_with fail
      refine (SameInts_any _ _ _ _ _ _ _ xs _ o4.row (HR.out.below B4 (Nat.le_refl _))).mono ?_
      rintro e w5 ⟨rfl, hd5⟩
      rw [eqL_self]
      have B5 := B4.trans (hd5.below _)
      have z5 := (hd5.below 0).size
      go_wp2_with (first | (go_at_call 16; refine (known_any _).mono ?_; rintro e w9 ⟨rfl, hb9⟩))
      go_ret
      exact ⟨rfl, B5.trans (hb9.mono (by omega))⟩
    · have he' := (bne_iff_ne (a := errBl xs) (b := 0)).2 he
      clear he
      go_wp2_with (first | (go_at_call 16; refine (known_any _).mono ?_; rintro e w9 ⟨rfl, hb9⟩))
      go_ret
      exact ⟨rfl, B4.trans (hb9.mono (by omega))⟩

set_option maxHeartbeats 1000000 in
theorem ToneMakes_walk (A : Option Addr) (n c : Nat) (xs : List Int) (w : World) (h : Row w A n c xs) :
    Calls Try.prog 13 #[.slice A n c] w fun e w' => e = .returned (.bool true) ∧ Below w.heap.size w w' := by
  have HR := hide h
  have HL := hide h.length
  clear h
  by_cases hn : 200 < n
  · go_enter Try.func13, Try.ntmps13
    go_wp2_with (first | (go_at_call 15; refine (Long_yes _ _ _ _ hn).mono ?_; rintro e w' ⟨rfl, rfl⟩) | (go_at_call 16; refine (known_any _).mono ?_; rintro e w9 ⟨rfl, hb9⟩))
    go_ret
    exact ⟨rfl, hb9⟩
  · have hn' : n ≤ 200 := by omega
    clear hn
    go_enter Try.func13, Try.ntmps13
    go_wp2_with fail
    refine (Long_no _ _ _ _ hn').mono ?_
    rintro e w' ⟨rfl, rfl⟩
    go_wp2_with fail
    refine (FromBlasts_any _ _ _ xs _ HR.out (by omega)).mono ?_
    rintro e w1 ⟨A1, n1, c1, rfl, o1, b1⟩
    have z1 := b1.size
    go_wp2_with fail
    refine (rFromBlasts_any _ _ _ xs _ (HR.out.below b1 (Nat.le_refl _)) (by omega)).mono ?_
    rintro e w2 ⟨A2, n2, c2, rfl, o2, b2⟩
    have B2 := b1.trans (b2.mono z1)
    have z2 := b2.size
    have o1 := o1.below b2 (Nat.le_refl _)
    go_wp2_with fail
    refine (SameInts_any _ _ _ _ _ _ _ _ _ o1.row o2.row).mono ?_
    rintro e w3 ⟨rfl, hd3⟩
    rw [eqL_self]
    have o1 := o1.below (hd3.below _) (Nat.le_refl _)
    have B3 := B2.trans (hd3.below _)
    have z3 := (hd3.below 0).size
    have m1 : n1 ≤ 1000 := by
      have := o1.len
      by_cases he : errF xs = 0
      · rw [okl_zero he] at this; have := (make_bl he).2.2; omega
      · rw [okl_ne he] at this; simp at this; omega
    clear b1 b2 B2
    go_wp2_with fail
    refine (Blasts_any _ _ _ _ _ o1.row m1).mono ?_
    rintro e w4 ⟨A4, n4, c4, rfl, o4, b4⟩
    have B4 := B3.trans (b4.mono (by omega))
    have z4 := b4.size
    by_cases he : errF xs = 0
    · obtain ⟨g1, g2, g3⟩ := make_bl he
      rw [okl_zero he, okl_zero g1, g2] at o4
      rw [okl_zero he, g1]
      go_wp2_with fail
      refine (SameInts_any _ _ _ _ _ _ _ xs _ o4.row (HR.out.below B4 (Nat.le_refl _))).mono ?_
      rintro e w5 ⟨rfl, hd5⟩
      rw [eqL_self]
      have B5 := B4.trans (hd5.below _)
      have z5 := (hd5.below 0).size
      go_wp2_with (first | (go_at_call 16; refine (known_any _).mono ?_; rintro e w9 ⟨rfl, hb9⟩))
      go_ret
      exact ⟨rfl, B5.trans (hb9.mono (by omega))⟩
    · have he' := (bne_iff_ne (a := errF xs) (b := 0)).2 he
      clear he
      go_wp2_with (first | (go_at_call 16; refine (known_any _).mono ?_; rintro e w9 ⟨rfl, hb9⟩))
      go_ret
      exact ⟨rfl, B4.trans (hb9.mono (by omega))⟩


end Go.Proofs.Ytbehnhhgoeiofaa
