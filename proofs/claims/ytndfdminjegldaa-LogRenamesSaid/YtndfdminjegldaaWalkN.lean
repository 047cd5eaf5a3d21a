/- Walks: other signs for a log's, on both sides. -/
import Derived.Test.YtndfdminjegldaaWalkL
import Derived.Test.YtndfdminjegldaaWalkM
import Derived.Test.YtndfdminjegldaaMQ
import Derived.Ground.NamesProg
import Derived.Shelf.Slices.Turned
namespace Go.Proofs.Ytndfdminjegldaa
open Go.RowKit Go.Shelf
attribute [local go_sem] Oper.semAt_some

def hasRen : Go.Shelf.Ren := ⟨fun | 107 => 82 | 108 => 88 | n => n, fun | 28 => 22 | 3 => 3 | 4 => 4 | 0 => 0 | n => n, fun | n => n⟩
theorem hasLays : Lays.n107 Try.prog hasRen where
  mixed := by kernel_rfl
  f107 := Try.func82.trans (congrArg some (by kernel_rfl))
  f108 := Try.func88.trans (congrArg some (by kernel_rfl))
  t0 := Try.underlying0
  a0 := Try.isAgg0
  z0 := Try.sizeOf0
  v0 := Try.zeroValue0
  t3 := Try.underlying3
  a3 := Try.isAgg3
  z3 := Try.sizeOf3
  v3 := Try.zeroValue3
  t4 := Try.underlying4
  a4 := Try.isAgg4
  z4 := Try.sizeOf4
  v4 := Try.zeroValue4
  t28 := Try.underlying22
  a28 := Try.isAgg22
  z28 := Try.sizeOf22
  v28 := Try.zeroValue22
theorem Contains_any (A : Option Addr) (n c : Nat) (xs : List Int) (x : Int) (w : World) (h : R E1 w A n c xs) (hn : n ≤ 1000000) :
    Calls Try.prog 82 #[.slice A n c, .int .i64 x] w fun e w' => e = .returned (.bool (xs.contains x)) ∧ w' = w := by
  have hl := h.length
  obtain ⟨b, off, h⟩ := h
  by_cases h0 : n = 0
  · subst h0
    obtain rfl := List.eq_nil_of_length_eq_zero hl
    exact Any.slices_Contains_int_empty hasLays A c x w
  · obtain rfl := h.at_ (by omega)
    have := Any.slices_Contains_int hasLays b off n c xs x w (by omega) (by omega) (fun j hj => c1 h (by omega))
    rwa [List.take_of_length_le (by omega)] at this

theorem renL_of {xs tt L : List Int} {n : Nat} (hl : xs.length = n) (hL : L.length = n) (h : ∀ i, i < n → L.getD i 0 = if i < n then renF tt (xs.getD i 0) else xs.getD i 0) : L = renL xs tt := by
  apply List.ext_getElem
  · rw [renL_len, hL, hl]
  · intro i h1 h2
    have := h i (by omega)
    rw [if_pos (by omega), List.getD_eq_getElem?_getD, List.getD_eq_getElem?_getD, List.getElem?_eq_getElem h1, List.getElem?_eq_getElem (by rw [renL_len] at h2; exact h2)] at this
    simpa [renL] using this
theorem renL_take (xs tt : List Int) {t : Nat} (h : t < xs.length) : renL (xs.take (t + 1)) tt = renL (xs.take t) tt ++ [renF tt (xs.getD t 0)] := by
  unfold renL
  rw [take_get h, List.map_append]
  rfl
set_option maxRecDepth 100000 in
set_option maxHeartbeats 8000000 in
theorem Rename_any (A : Option Addr) (n c : Nat) (xs : List Int) (A' : Option Addr) (n' c' : Nat) (tt : List Int) (w : World) (h : R E1 w A n c xs) (h' : R E1 w A' n' c' tt) (hn' : n' ≤ 1000) :
    Calls Try.prog 51 #[.slice A n c, .slice A' n' c'] w (RowPost (renE xs tt) (renV xs tt) w) := by
  have H := hide h
  have H' := hide h'
  have HL := hide h.length
  have HL' := hide h'.length
  by_cases he : errL xs = 0
  · have HE := hide he
    have hn : n ≤ 10 := by rw [← h.length]; exact (errL_ok.1 he).1
    by_cases h6 : n' = 6
    · have HARG := hide (fun s (hs : s < 6) h2 => renE_arg (tt := tt) he (by rw [h'.length]; exact h6) (s := s) hs h2)
      have HFINE := hide (fun h2 => renE_fine (tt := tt) he (by rw [h'.length]; exact h6) h2)
      have HSG := hide (fun t (ht : t < n) => errL_at he (k := t) (by rw [HL.out]; exact ht))
      have HNO := hide (fun h0 : renE xs tt ≠ 0 => renV_no h0)
      have HYE := hide (fun h0 : renE xs tt = 0 => renV_ok h0)
      have hb6 : ((n' : Int) != 6) = false := by simp; omega
      have HN6 := hide h6
      have hnn : (n' : Int) ≤ 6 := by omega
      clear h h' he h6
      go_enter Try.func51, Try.ntmps51
      go_wp2_with (go_at_call 22; refine (Validate_any A n c xs _ H.out).mono ?_; rintro e w1 ⟨rfl, rfl⟩; rw [HE.out])
      go_loop [21] (fun iv => ∃ t : Nat, t ≤ n' ∧ iv = .int .i64 t ∧ Hid (ConTo tt t)) (fun iv => n' - (intOf iv).toNat)
      case atStart => exact ⟨0, Nat.zero_le _, rfl, hide (fun s hs => by omega)⟩
      case round =>
        obtain ⟨t, ht, rfl, HC⟩ := hrel
        by_cases hlt : t < n'
        · have ht6 : t < 6 := by have := HN6.out; omega
          cases hcs : tt.contains (t : Int) with
          | true =>
            have HCS := hide hcs
            clear hcs
            go_wp2_with (go_at_call 82; refine (Contains_any A' n' c' tt (t : Int) _ H'.out (by omega)).mono ?_; rintro e w' ⟨rfl, rfl⟩; rw [HCS.out])
            go_round
            case rel => exact ⟨t + 1, by omega, by go_num, hide (conTo_succ HC.out HCS.out)⟩
            case measure => simp [intOf]; omega
          | false =>
            have HCS := hide hcs
            have HT := hide (HARG.out t ht6 hcs)
            have HTV := hide (HNO.out (by rw [HT.out]; decide))
            clear hcs
            go_wp2_with (go_at_call 82; refine (Contains_any A' n' c' tt (t : Int) _ H'.out (by omega)).mono ?_; rintro e w' ⟨rfl, rfl⟩; rw [HCS.out])
            go_ret2
            exact ⟨none, 0, 0, by rw [HT.out]; rfl, by rw [HTV.out]; exact Own.nil _ _ _ _, Below.refl _ _⟩
        · obtain rfl : t = n' := by omega
          have HCC := hide (show ConTo tt 6 from by have := HC.out; rwa [HN6.out] at this)
          have HT := hide (HFINE.out HCC.out)
          have HTV := hide (HYE.out HT.out)
          have HRB := hide (fun x hx => renF_bd (tt := tt) HT.out (x := x) hx)
          go_wp2_with (go_at_call 79; refine (CloneI_any A n c xs _ H.out (by omega)).mono ?_; rintro e w2 ⟨A2, c2, rfl, o2, b2⟩; have O2 := hide o2; have B2 := hide b2; clear o2 b2)
          go_loopw [33] (fun iv wr => ∃ (u : Nat) (L : List Int), u ≤ n ∧ iv = .int .i64 u ∧ Hid (Own E1 wr w.heap.size 3 A2 n c2 L) ∧ Hid (∀ i, i < n → L.getD i 0 = if i < u then renF tt (xs.getD i 0) else xs.getD i 0) ∧ Hid (Below w.heap.size w wr)) (fun iv _ => n - (intOf iv).toNat)
          case atStart => exact ⟨0, xs, Nat.zero_le _, rfl, O2, hide (fun i hi => by rw [if_neg (by omega)]), B2⟩
          case round =>
            obtain ⟨u, L, hu, rfl, HO, HK, HB⟩ := hrel
            by_cases hlu : u < n
            · obtain ⟨g, rfl, hg, hg2, hg3, hg4⟩ := HO.out.addr (by omega)
              have hg5 : c2 ≤ 9223372036854775807 := hg4
              clear hg4
              obtain ⟨b, off, hr⟩ := H.out
              obtain rfl := hr.at_ (by omega)
              obtain ⟨b', off', hr'⟩ := H'.out
              obtain rfl := hr'.at_ (by have := HN6.out; omega)
              have hsg := HSG.out u hlu
              have a1 := c1 (hr.below HB.out (Nat.le_refl _)) hlu
              have a2 := c1 (hr'.below HB.out (Nat.le_refl _)) (k := (xs.getD u 0).toNat) (by have := HN6.out; omega)
              have o1 := own1 HO.out hlu
              have hfz := HO.out.frozen u
              have hgl : g < wr.heap.size := hg2
              have hLL := HO.out.len
              have HLL := hide hLL
              have HST := hide (show ∀ i, i < n → (L.set u (renF tt (xs.getD u 0))).getD i 0 = if i < u + 1 then renF tt (xs.getD i 0) else xs.getD i 0 from fun i hi => by
                rw [getD_set_pos (by omega)]
                by_cases e : i = u
                · subst e; rw [if_pos rfl, if_pos (by omega)]
                · rw [if_neg e, HK.out i hi]
                  by_cases hit : i < u
                  · rw [if_pos hit, if_pos (by omega)]
                  · rw [if_neg hit, if_neg (by omega)])
              have HRF := hide (show renF tt (xs.getD u 0) = tt.getD (xs.getD u 0).toNat 0 from rfl)
              have hun : (u : Int) < (n : Int) := by omega
              obtain ⟨k, hk⟩ : ∃ k : Nat, xs.getD u 0 = (k : Int) := ⟨(xs.getD u 0).toNat, by omega⟩
              rw [hk] at a1 a2 HRF HST hsg
              rw [Int.toNat_natCast] at a2 HRF
              rw [HRF.out] at HST
              have hkn : (k : Int) < (t : Int) := by have := HN6.out; omega
              clear hk hLL hr hr' hg3
              generalize tt.getD k 0 = y at *
              go_wp2_with fail
              go_roundw
              case rel => exact ⟨u + 1, L.set u y, by omega, by go_num, hide (HO.out.stored1 (by omega) y), HST, hide (HB.out.setCell hg _)⟩
              case measure => simp [intOf]; omega
            · obtain rfl : u = n := by omega
              have hL := renL_of HL.out HO.out.len HK.out
              rw [hL] at HO
              go_wp2_with fail
              go_ret2
              exact ⟨_, _, _, by rw [HT.out]; rfl, by rw [HTV.out]; exact HO.out, HB.out⟩
    · have HT := hide (renE_len (tt := tt) he (by rw [h'.length]; exact h6))
      have HTV := hide (renV_no (l := xs) (tt := tt) (by rw [HT.out]; decide))
      have hb6 : ((n' : Int) != 6) = true := by simp; omega
      clear h h' he h6
      go_enter Try.func51, Try.ntmps51
      go_wp2_with (go_at_call 22; refine (Validate_any A n c xs _ H.out).mono ?_; rintro e w1 ⟨rfl, rfl⟩; rw [HE.out])
      go_ret2
      exact ⟨none, 0, 0, by rw [HT.out]; rfl, by rw [HTV.out]; exact Own.nil _ _ _ _, Below.refl _ _⟩
  · have HT := hide (renE_no (tt := tt) he)
    have HTV := hide (renV_no (l := xs) (tt := tt) (by rw [HT.out]; exact he))
    have hne : (errL xs != 0) = true := by simpa using he
    clear h h' he
    go_enter Try.func51, Try.ntmps51
    go_wp2_with (go_at_call 22; refine (Validate_any A n c xs _ H.out).mono ?_; rintro e w1 ⟨rfl, rfl⟩)
    go_ret2
    exact ⟨none, 0, 0, by rw [HT.out]; rfl, by rw [HTV.out]; exact Own.nil _ _ _ _, Below.refl _ _⟩
set_option maxRecDepth 100000 in
set_option maxHeartbeats 8000000 in
theorem rRename_any (A : Option Addr) (n c : Nat) (xs : List Int) (A' : Option Addr) (n' c' : Nat) (tt : List Int) (w : World) (h : R E1 w A n c xs) (h' : R E1 w A' n' c' tt) (hn' : n' ≤ 1000) :
    Calls Try.prog 52 #[.slice A n c, .slice A' n' c'] w (RowPost (renE xs tt) (renV xs tt) w) := by
  have H := hide h
  have H' := hide h'
  have HL := hide h.length
  have HL' := hide h'.length
  by_cases he : errL xs = 0
  · have HE := hide he
    have hn : n ≤ 10 := by rw [← h.length]; exact (errL_ok.1 he).1
    by_cases h6 : n' = 6
    · have HARG := hide (fun s (hs : s < 6) h2 => renE_arg (tt := tt) he (by rw [h'.length]; exact h6) (s := s) hs h2)
      have HFINE := hide (fun h2 => renE_fine (tt := tt) he (by rw [h'.length]; exact h6) h2)
      have HSG := hide (fun t (ht : t < n) => errL_at he (k := t) (by rw [HL.out]; exact ht))
      have HNO := hide (fun h0 : renE xs tt ≠ 0 => renV_no h0)
      have HYE := hide (fun h0 : renE xs tt = 0 => renV_ok h0)
      have hb6 : ((n' : Int) != 6) = false := by simp; omega
      have HN6 := hide h6
      have hnn : (n' : Int) ≤ 6 := by omega
      clear h h' he h6
      go_enter Try.func52, Try.ntmps52
      go_wp2_with (go_at_call 23; refine (rValidate_any A n c xs _ H.out).mono ?_; rintro e w1 ⟨rfl, rfl⟩; rw [HE.out])
      go_loopw [7] (fun iv wr => ∃ t : Nat, t ≤ 6 ∧ iv = .int .i64 t ∧ Hid (ConTo tt t) ∧ Hid (Below w.heap.size w wr)) (fun iv _ => 6 - (intOf iv).toNat)
      case atStart => exact ⟨0, Nat.zero_le _, rfl, hide (fun s hs => by omega), hide (Below.refl _ _)⟩
      case round =>
        obtain ⟨t, ht, rfl, HC, HB⟩ := hrel
        by_cases hlt : t < 6
        · have ht5 : (t : Int) ≤ 5 := by omega
          cases hcs : tt.contains (t : Int) with
          | true =>
            have HCS := hide hcs
            clear hcs
            go_wp2_with (go_at_call 78; refine (in_any _ 1 1 [(t : Int)] A' n' c' tt _ (lit_row wr [(t : Int)] (by simp [maxLen])) (H'.out.below (HB.out.alloc HB.out.size _) (Nat.le_refl _))).mono ?_; rw [part_one, HCS.out]; rintro e w5 ⟨rfl, q5, hw5⟩; have B5 := hide (show Below w.heap.size w w5 from by rw [hw5]; exact below_drewN (HB.out.alloc HB.out.size _) q5); clear hw5)
            go_roundw
            case rel => exact ⟨t + 1, by omega, by go_num, hide (conTo_succ HC.out HCS.out), B5⟩
            case measure => simp [intOf]; omega
          | false =>
            have HCS := hide hcs
            have HT := hide (HARG.out t hlt hcs)
            have HTV := hide (HNO.out (by rw [HT.out]; decide))
            clear hcs
            go_wp2_with (go_at_call 78; refine (in_any _ 1 1 [(t : Int)] A' n' c' tt _ (lit_row wr [(t : Int)] (by simp [maxLen])) (H'.out.below (HB.out.alloc HB.out.size _) (Nat.le_refl _))).mono ?_; rw [part_one, HCS.out]; rintro e w5 ⟨rfl, q5, hw5⟩; have B5 := hide (show Below w.heap.size w w5 from by rw [hw5]; exact below_drewN (HB.out.alloc HB.out.size _) q5); clear hw5)
            go_ret2
            exact ⟨none, 0, 0, by rw [HT.out]; rfl, by rw [HTV.out]; exact Own.nil _ _ _ _, B5.out⟩
        · have HCC := hide (show ConTo tt 6 from by have := HC.out; rwa [show t = 6 by omega] at this)
          have ht6 : (5 : Int) < (t : Int) := by omega
          have HT := hide (HFINE.out HCC.out)
          have HTV := hide (HYE.out HT.out)
          have HB0 := HB
          go_wp2_with fail
          go_loopw [8, 9] (fun v iv wr => ∃ (u : Nat) (B : Option Addr) (q : Nat), u ≤ n ∧ iv = .int .i64 u ∧ v = .slice B u q ∧ Hid (Own E1 wr w.heap.size 3 B u q (renL (xs.take u) tt)) ∧ Hid (Below w.heap.size w wr)) (fun _ iv _ => n - (intOf iv).toNat)
          case atStart => exact ⟨0, none, 0, Nat.zero_le _, rfl, rfl, hide (Own.nil E1 _ _ _), HB0⟩
          case round =>
            clear HB0
            obtain ⟨u, B, q, hu, rfl, rfl, HO, HB⟩ := hrel
            by_cases hlu : u < n
            · obtain ⟨b, off, hr⟩ := H.out
              obtain rfl := hr.at_ (by omega)
              obtain ⟨b', off', hr'⟩ := H'.out
              obtain rfl := hr'.at_ (by have := HN6.out; omega)
              have hsg := HSG.out u hlu
              have a1 := c1 (hr.below HB.out (Nat.le_refl _)) hlu
              have a2 := c1 (hr'.below HB.out (Nat.le_refl _)) (k := (xs.getD u 0).toNat) (by have := HN6.out; omega)
              have HST := hide (renL_take xs tt (t := u) (by rw [HL.out]; exact hlu))
              have HRF := hide (show renF tt (xs.getD u 0) = tt.getD (xs.getD u 0).toNat 0 from rfl)
              have hun : (u : Int) < (n : Int) := by omega
              have hsz := HB.out.size
              obtain ⟨k, hk⟩ : ∃ k : Nat, xs.getD u 0 = (k : Int) := ⟨(xs.getD u 0).toNat, by omega⟩
              rw [hk] at a1 a2 HRF HST hsg
              rw [Int.toNat_natCast] at a2 HRF
              rw [HRF.out] at HST
              have hkn : (k : Int) < (n' : Int) := by have := HN6.out; omega
              clear hk hr hr'
              generalize tt.getD k 0 = y at *
              go_wp2_with (at_builtin; refine wpList_app1 (E := E1) wr (.int .i64 0) 8 rfl (.tmp 33) (.tmp 41) 22 3 rfl Try.underlying22 info_int rfl (by decide) (by omega) w.heap.size u q B _ (y : Int) _ rfl rfl rfl HO.out (by omega) hsz ?_; intro A5 q5 w5 o5 b5 g5; have HO5 := hide o5; have B5 := hide (HB.out.trans b5); clear o5 b5 g5)
              go_roundw
              case rel => exact ⟨u + 1, A5, q5, by omega, by go_num, rfl, hide (by rw [HST.out]; exact HO5.out), B5⟩
              case measure => simp [intOf]; omega
            · obtain rfl : u = n := by omega
              have hL : xs.take u = xs := by rw [← HL.out]; exact List.take_length
              rw [hL] at HO
              go_wp2_with fail
              go_ret2
              exact ⟨_, _, _, by rw [HT.out]; rfl, by rw [HTV.out]; exact HO.out, HB.out⟩
    · have HT := hide (renE_len (tt := tt) he (by rw [h'.length]; exact h6))
      have HTV := hide (renV_no (l := xs) (tt := tt) (by rw [HT.out]; decide))
      have hb6 : ((n' : Int) != 6) = true := by simp; omega
      clear h h' he h6
      go_enter Try.func52, Try.ntmps52
      go_wp2_with (go_at_call 23; refine (rValidate_any A n c xs _ H.out).mono ?_; rintro e w1 ⟨rfl, rfl⟩; rw [HE.out])
      go_ret2
      exact ⟨none, 0, 0, by rw [HT.out]; rfl, by rw [HTV.out]; exact Own.nil _ _ _ _, Below.refl _ _⟩
  · have HT := hide (renE_no (tt := tt) he)
    have HTV := hide (renV_no (l := xs) (tt := tt) (by rw [HT.out]; exact he))
    have hne : (errL xs != 0) = true := by simpa using he
    clear h h' he
    go_enter Try.func52, Try.ntmps52
    go_wp2_with (go_at_call 23; refine (rValidate_any A n c xs _ H.out).mono ?_; rintro e w1 ⟨rfl, rfl⟩)
    go_ret2
    exact ⟨none, 0, 0, by rw [HT.out]; rfl, by rw [HTV.out]; exact Own.nil _ _ _ _, Below.refl _ _⟩
end Go.Proofs.Ytndfdminjegldaa
