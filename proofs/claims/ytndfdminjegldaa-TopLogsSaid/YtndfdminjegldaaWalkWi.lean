/- Walks: the window, on both sides. -/
import Derived.Test.YtndfdminjegldaaMW
import Derived.Test.YtndfdminjegldaaWalkP
import Derived.Test.YtndfdminjegldaaWalkG
namespace Go.Proofs.Ytndfdminjegldaa
open Go.RowKit Go.Shelf
attribute [local go_sem] Oper.semAt_some

theorem RAt.rest2 {w : World} {n c b off : Nat} {xs : List Int} {t : Nat} (h : RAt E1 w (some ⟨b, off, none⟩) n c xs b off) (ht : t ≤ n) : R E1 w (some ⟨b, off + t, none⟩) (n - t) (c - t) (xs.drop t) := by
  have hl := h.len
  have := h.sub (i := t) (m := n - t) (by omega)
  rw [List.take_of_length_le (by rw [List.length_drop]; omega), show off + t * E1.size = off + t from by show off + t * 1 = _; omega] at this
  exact this
theorem dwi_row {l m : List Int} {c : Cst} {a k : Nat} (hk : a + k ≤ m.length) : dd l (m.drop a) c l.length k = dWi l m c a (a + k) := by
  rw [dd_take (Nat.le_refl _) (by rw [List.length_drop]; omega), List.take_length]
  unfold dWi
  rw [Nat.add_sub_cancel_left]
theorem wst_less {d : Nat → Nat → Int} {s : Nat × Nat × Int} {a b : Nat} (h : d a b < s.2.2) : wst d s a b = (a, b, d a b) := if_pos h
theorem wst_more {d : Nat → Nat → Int} {s : Nat × Nat × Int} {a b : Nat} (h : ¬ d a b < s.2.2) : wst d s a b = s := if_neg h
def WinPost (l m : List Int) (c : Cst) (w : World) (e : Ending) (w' : World) : Prop := e = .returned (.tuple #[.int .i64 (winV l m c).1, .int .i64 (winV l m c).2, .int .i64 (errD l m c)]) ∧ Below w.heap.size w w'
set_option maxRecDepth 100000 in
set_option maxHeartbeats 8000000 in
theorem Window_any (A : Option Addr) (n c : Nat) (xs : List Int) (A' : Option Addr) (n' c' : Nat) (ys : List Int) (o i h : Int) (w : World) (hx : R E1 w A n c xs) (hy : R E1 w A' n' c' ys) :
    Calls Try.prog 45 #[.slice A n c, .slice A' n' c', cV o i h] w (WinPost xs ys ⟨o, i, h⟩ w) := by
  have BX := hide ((Below.refl w.heap.size w).alloc (Nat.le_refl _) (.cells #[.int .i64 o, .int .i64 i, .int .i64 h] 24))
  have HBK := hide (Bk.born w 24 #[.int .i64 o, .int .i64 i, .int .i64 h])
  have HX := hide (hx.below BX.out (Nat.le_refl _))
  have HY := hide (hy.below BX.out (Nat.le_refl _))
  have HLX := hide hx.length
  have HLY := hide hy.length
  have hz : w.heap.size < (w.alloc (.cells #[.int .i64 o, .int .i64 i, .int .i64 h] 24)).heap.size := by simp
  by_cases he : errD xs ys ⟨o, i, h⟩ = 0
  · have HE := hide he
    have HV := hide (winV_ok he)
    rw [HLY.out] at HV
    obtain ⟨h1, h2, h3⟩ := errD_ok.1 he
    have hn : n ≤ 10 := by rw [← hx.length]; exact (errL_ok.1 h1).1
    have hn' : n' ≤ 10 := by rw [← hy.length]; exact (errL_ok.1 h2).1
    obtain ⟨ho, hi, hh⟩ := h3
    simp only at ho hi hh
    have HS0 := hide (show winS xs ys ⟨o, i, h⟩ 0 = (0, 0, dist xs [] ⟨o, i, h⟩) from rfl)
    clear hx hy he h1 h2
    go_enter Try.func45, Try.ntmps45
    go_wp2_with (first
      | (go_at_call 55; refine (validateAll_any A n c xs A' n' c' ys o i h _ HX.out HY.out).mono ?_; rintro e1 w1 ⟨rfl, b1⟩; rw [HE.out]; have B1 := hide b1; clear b1; have k0 := (HBK.out.keep B1.out hz).at_ 0; have k1 := (HBK.out.keep B1.out hz).at_ 1; have k2 := (HBK.out.keep B1.out hz).at_ 2; simp at k0 k1 k2)
      | (go_at_call 61; refine (distance_any A n c xs none 0 0 [] o i h _ (HX.out.below B1.out (Nat.le_refl _)) (R.nil E1 _) hn (by omega) ho hi hh).mono ?_; rintro e2 w2 ⟨rfl, b2⟩; have B2 := hide (B1.out.trans (b2.mono B1.out.size)); clear b2))
    have BW := hide (BX.out.trans (B2.out.mono (Nat.le_of_lt hz)))
    have HX2 := hide (HX.out.below B2.out (Nat.le_refl _))
    have HY2 := hide (HY.out.below B2.out (Nat.le_refl _))
    have HBK2 := hide (HBK.out.keep B2.out hz)
    have hz2 : w.heap.size < w2.heap.size := Nat.lt_of_lt_of_le hz B2.out.size
    clear HX HY HBK BX B1 B2 hz k0 k1 k2
    obtain ⟨d0, hd0⟩ : ∃ d0, dist xs [] ⟨o, i, h⟩ = d0 := ⟨_, rfl⟩
    rw [hd0] at HS0
    rw [hd0]
    have HD0 := hide hd0
    clear hd0
    go_loopw [10, 11, 12, 28] (fun a10 a11 a12 a28 wr => ∃ a : Nat, a ≤ n' ∧ a10 = .int .i64 ((winS xs ys ⟨o, i, h⟩ a).1 : Nat) ∧ a11 = .int .i64 ((winS xs ys ⟨o, i, h⟩ a).2.1 : Nat) ∧ a12 = .int .i64 (winS xs ys ⟨o, i, h⟩ a).2.2 ∧ a28 = .int .i64 a ∧ Hid (Below w2.heap.size w2 wr)) (fun _ _ _ a28 _ => n' - (intOf a28).toNat)
    case atStart => exact ⟨0, Nat.zero_le _, by rw [HS0.out]; rfl, by rw [HS0.out]; rfl, by rw [HS0.out], rfl, hide (Below.refl _ _)⟩
    case round =>
      obtain ⟨a, ha, rfl, rfl, rfl, rfl, HB⟩ := hrel
      by_cases hla : a < n'
      · have han : (a : Int) < (n' : Int) := by omega
        have HSS := hide (show winS xs ys ⟨o, i, h⟩ (a + 1) = wrow (dWi xs ys ⟨o, i, h⟩) (winS xs ys ⟨o, i, h⟩ a) a (n' + 1 - a) from by unfold winS; rw [wall, HLY.out])
        have HSB := hide (show wrow (dWi xs ys ⟨o, i, h⟩) (winS xs ys ⟨o, i, h⟩ a) a 0 = winS xs ys ⟨o, i, h⟩ a from rfl)
        generalize winS xs ys ⟨o, i, h⟩ a = S at *
        obtain ⟨s1, s2, s3⟩ := S
        dsimp only
        obtain ⟨by', oy, hry⟩ := HY2.out.below HB.out (Nat.le_refl _)
        obtain rfl := hry.at_ (by omega)
        have hcy := hry.cap
        have hmy := hry.max
        have HYR := hide (hry.rest2 (t := a) (by omega))
        have kk0 := (HBK2.out.keep HB.out hz2).at_ 0
        have kk1 := (HBK2.out.keep HB.out hz2).at_ 1
        have kk2 := (HBK2.out.keep HB.out hz2).at_ 2
        simp at kk0 kk1 kk2
        have hca : (a : Int) ≤ (c' : Int) := by omega
        have hna : ¬ c' = a := by omega
        have HXR := hide (HX2.out.below HB.out (Nat.le_refl _))
        have HDS := hide (distances_any A n c xs (some ⟨by', oy + a, none⟩) (n' - a) (c' - a) (ys.drop a) o i h wr.drew (HXR.out.drewN 1) (HYR.out.drewN 1) hn (by omega) ho hi hh)
        clear hry
        go_upto_region 8 with fail
        go_cut [28, 40, 41, 42] from 28 to 56 (fun a28 a40 a41 a42 wx => a28 = .int .i64 a ∧ a42 = .int .i64 0 ∧ a41 = .int .i64 (n' - a + 1 : Nat) ∧ ∃ (g off cc : Nat), a40 = .slice (some ⟨g, off, none⟩) (n' - a + 1) cc ∧ n' - a + 1 ≤ cc ∧ cc ≤ 100 ∧ g < wx.heap.size ∧ Hid (∀ k, k < n' - a + 1 → wx.cell? ⟨g, off + k, none⟩ = some (.int .i64 (dWi xs ys ⟨o, i, h⟩ a (a + k)))) ∧ Hid (Below w2.heap.size w2 wx))
        case first =>
          go_region_with (go_at_call 63; refine HDS.out.mono ?_; rintro e5 w5 ⟨gO, gC, L1, rfl, t1, d1, b5⟩; have m1 := t1.head (r := n) (by omega); have HCL := hide (show ∀ k, k < n' - a + 1 → w5.cell? ⟨gC, n * (n' - a + 1) + k, none⟩ = some (.int .i64 (dWi xs ys ⟨o, i, h⟩ a (a + k))) from fun k hk => by rw [t1.cell (r := n) (by omega) hk, d1 n k (Nat.le_refl _) (by omega), ← HLX.out, dwi_row (by rw [HLY.out]; omega)]); have hg5 := t1.gC_lt; have B5 := hide (HB.out.drew.trans (b5.mono HB.out.size)); have hn1 : (n : Int) < (n : Int) + 1 := (by omega); clear t1 d1 b5)
          all_goals
            go_wp2_with fail
            go_meet
            exact ⟨rfl, rfl, by first | rfl | go_num, gC, n * (n' - a + 1), n' - a + 1, rfl, Nat.le_refl _, by omega, hg5, HCL, B5⟩
        case rest =>
        obtain ⟨rfl, rfl, rfl, g, off, cc, rfl, hcc, hcc2, hgx, HCL, HB5⟩ := hcut
        rename World => wm
        have HM := hide (show n' - a + 1 = n' + 1 - a from by omega)
        generalize hM : n' - a + 1 = M at *
        clear HB kk0 kk1 kk2 HXR HYR HDS
        go_wp2_with fail
        go_loopw [10, 11, 12, 42] (fun a10 a11 a12 a42 wr => ∃ t : Nat, t ≤ M ∧ a10 = .int .i64 ((wrow (dWi xs ys ⟨o, i, h⟩) (s1, s2, s3) a t).1 : Nat) ∧ a11 = .int .i64 ((wrow (dWi xs ys ⟨o, i, h⟩) (s1, s2, s3) a t).2.1 : Nat) ∧ a12 = .int .i64 (wrow (dWi xs ys ⟨o, i, h⟩) (s1, s2, s3) a t).2.2 ∧ a42 = .int .i64 t ∧ wm = wr) (fun _ _ _ a42 _ => M - (intOf a42).toNat)
        case atStart => exact ⟨0, Nat.zero_le _, rfl, rfl, rfl, rfl, rfl⟩
        case round =>
          obtain ⟨t, ht, rfl, rfl, rfl, rfl, rfl⟩ := hrel
          by_cases hlt : t < M
          · have htn : (t : Int) < (M : Int) := by omega
            have m1 := HCL.out t hlt
            have HWL := hide (fun (hq : dWi xs ys ⟨o, i, h⟩ a (a + t) < (wrow (dWi xs ys ⟨o, i, h⟩) (s1, s2, s3) a t).2.2) => show wrow (dWi xs ys ⟨o, i, h⟩) (s1, s2, s3) a (t + 1) = (a, a + t, dWi xs ys ⟨o, i, h⟩ a (a + t)) from wst_less hq)
            have HWM := hide (fun (hq : ¬ dWi xs ys ⟨o, i, h⟩ a (a + t) < (wrow (dWi xs ys ⟨o, i, h⟩) (s1, s2, s3) a t).2.2) => show wrow (dWi xs ys ⟨o, i, h⟩) (s1, s2, s3) a (t + 1) = wrow (dWi xs ys ⟨o, i, h⟩) (s1, s2, s3) a t from wst_more hq)
            generalize wrow (dWi xs ys ⟨o, i, h⟩) (s1, s2, s3) a t = S at *
            obtain ⟨p1, p2, p3⟩ := S
            dsimp only at HWL HWM ⊢
            by_cases hq : dWi xs ys ⟨o, i, h⟩ a (a + t) < p3
            · have HW := hide (HWL.out hq)
              clear HWL HWM
              generalize dWi xs ys ⟨o, i, h⟩ a (a + t) = u at *
              go_wp2_with fail
              go_roundw
              case rel => exact ⟨t + 1, by omega, by rw [HW.out], by rw [HW.out]; first | rfl | go_num, by rw [HW.out], by go_num, by trivial⟩
              case measure => simp [intOf]; omega
            · have hq2 : p3 ≤ dWi xs ys ⟨o, i, h⟩ a (a + t) := by omega
              have HW := hide (HWM.out hq)
              clear HWL HWM hq
              generalize dWi xs ys ⟨o, i, h⟩ a (a + t) = u at *
              go_wp2_with fail
              go_roundw
              case rel => exact ⟨t + 1, by omega, by rw [HW.out], by rw [HW.out], by rw [HW.out], by go_num, by trivial⟩
              case measure => simp [intOf]; omega
          · obtain rfl : t = M := by omega
            go_wp2_with fail
            go_roundw
            case rel => exact ⟨a + 1, by omega, by rw [HSS.out, ← HM.out], by rw [HSS.out, ← HM.out], by rw [HSS.out, ← HM.out], by go_num, HB5⟩
            case measure => simp [intOf]; omega
      · obtain rfl : a = n' := by omega
        go_wp2_with fail
        refine bodyPost_ret (v := .tuple #[.int .i64 ((winS xs ys ⟨o, i, h⟩ a).1 : Nat), .int .i64 ((winS xs ys ⟨o, i, h⟩ a).2.1 : Nat), .int .i64 0]) ?_ rfl ⟨by rw [HV.out, HE.out], BW.out.trans (HB.out.mono (Nat.le_of_lt hz2))⟩
        simp [results, Try.results45, go_sem]
  · have HV := hide (winV_no he)
    have hne : (errD xs ys ⟨o, i, h⟩ != 0) = true := by simpa using he
    clear hx hy he
    go_enter Try.func45, Try.ntmps45
    go_wp2_with (go_at_call 55; refine (validateAll_any A n c xs A' n' c' ys o i h _ HX.out HY.out).mono ?_; rintro e1 w1 ⟨rfl, b1⟩; have B1 := hide b1; clear b1)
    refine bodyPost_ret (v := .tuple #[.int .i64 0, .int .i64 0, .int .i64 (errD xs ys ⟨o, i, h⟩)]) ?_ rfl ⟨by rw [HV.out], le_call BX.out B1.out⟩
    simp [results, Try.results45, go_sem]
end Go.Proofs.Ytndfdminjegldaa
