/- How long one must listen to tell all tones of a list apart: both sides. -/
import Derived.Test.YtbadihbcjdibeaaWalkTm
namespace Go.Proofs.Ytbadihbcjdibeaa
open Go.RowKit

def apK (ls : List (List Int)) (i : Nat) : Nat → Option Nat → Option Nat
  | 0, s => s
  | k + 1, s => (apK ls i k s).bind fun g => (lisO (ls.getD i []) (ls.getD k [])).map fun d => max g d
def apI (ls : List (List Int)) : Nat → Option Nat
  | 0 => some 0
  | i + 1 => apK ls i i (apI ls i)
theorem apK_stuck {ls : List (List Int)} {i k : Nat} {s : Option Nat} (h : apK ls i k s = none) : ∀ m, k ≤ m → apK ls i m s = none := by
  intro m hm
  induction m with
  | zero => obtain rfl : k = 0 := by omega
            exact h
  | succ m ih =>
    by_cases e : k = m + 1
    · subst e; exact h
    · show (apK ls i m s).bind _ = none
      rw [ih (by omega)]; rfl
theorem apI_stuck {ls : List (List Int)} {i : Nat} (h : apI ls i = none) : ∀ m, i ≤ m → apI ls m = none := by
  intro m hm
  induction m with
  | zero => obtain rfl : i = 0 := by omega
            exact h
  | succ m ih =>
    by_cases e : i = m + 1
    · subst e; exact h
    · show apK ls m m (apI ls m) = none
      rw [ih (by omega)]
      exact apK_stuck (k := 0) rfl m (by omega)
theorem apK_more {ls : List (List Int)} {i k g d : Nat} {s : Option Nat} (h : apK ls i k s = some g) (e : lisO (ls.getD i []) (ls.getD k []) = some d) : apK ls i (k + 1) s = some (max g d) := by
  show (apK ls i k s).bind _ = _
  rw [h, e]; rfl
theorem apK_none {ls : List (List Int)} {i k : Nat} {s : Option Nat} (e : lisO (ls.getD i []) (ls.getD k []) = none) : apK ls i (k + 1) s = none := by
  show (apK ls i k s).bind _ = _
  rw [e]; cases apK ls i k s <;> rfl
theorem apI_out {ls : List (List Int)} {i k n : Nat} (hk : k < i) (hi : i < n) (e : lisO (ls.getD i []) (ls.getD k []) = none) : apI ls n = none :=
  apI_stuck (i := i + 1) (by
    show apK ls i i (apI ls i) = none
    exact apK_stuck (apK_none e) i (by omega)) n (by omega)
theorem row_ok {ls : List (List Int)} {n k m : Nat} (h : OkTo ls n) (hk : k < n) (hm : (ls.getD k []).length = m) : 1 ≤ m ∧ m ≤ 24 := by
  have := errOf_zero (h k hk)
  omega
theorem lis_le {xs ys : List Int} {d : Nat} (h : errOf xs = 0) (h' : errOf ys = 0) (e : lisO xs ys = some d) : d ≤ 47 := by
  obtain ⟨a1, a2, _⟩ := errOf_zero h
  obtain ⟨b1, b2, _⟩ := errOf_zero h'
  cases hne : eqL (nameL xs) (nameL ys) with
  | true => rw [lis_none hne] at e; cases e
  | false =>
    obtain ⟨d', q1, _, _, q4, _⟩ := lis_spec a1 b1 a2 b2 hne
    rw [q1] at e; injection e with e; omega

set_option maxHeartbeats 4000000 in
theorem Apart_any (A : Option Addr) (n c : Nat) (ls : List (List Int)) (w : World) (h : Grid w A n c ls) (hs : Small ls 200) :
    Calls Try.prog 13 #[.slice A n c] w fun e w' => e = .returned (.tuple #[.int .i64 (okv (errLs ls) (((apI ls n).getD 0 : Nat) : Int)), .bool (okb (errLs ls) (apI ls n).isSome), .int .i64 (errLs ls)]) ∧ Below w.heap.size w w' := by
  have HG := hide h
  have HL := hide h.length
  have HS := hide hs
  clear h hs
  by_cases he : errLs ls = 0
  · have HE := hide he
    obtain ⟨e1, e2⟩ := errLs_zero he
    rw [HL.out] at e1 e2
    have HOK := hide e2
    clear he e2
    go_enter Try.func13, Try.ntmps13
    go_wp2_with fail
    refine (validateList_any _ _ _ ls _ HG.out HS.out).mono ?_
    rintro e w1 ⟨rfl, rfl⟩
    rw [HE.out]
    go_wp2_with fail
    go_loopw [6, 20] (fun s i wr => ∃ k g : Nat, k ≤ n ∧ g ≤ 47 ∧ i = .int .i64 k ∧ s = .int .i64 g ∧ Hid (apI ls k = some g) ∧ Hid (Below w.heap.size w wr)) (fun _ i _ => n - (intOf i).toNat)
    case atStart => exact ⟨0, 0, by omega, by omega, rfl, rfl, hide rfl, hide (Below.refl _ _)⟩
    case round =>
      obtain ⟨k, g, hk, hg, rfl, rfl, HI, HBL⟩ := hrel
      obtain ⟨wa, rfl⟩ : ∃ v : World, v = wr := ⟨_, rfl⟩
      have hsz := HBL.out.size
      by_cases hlt : k < n
      · obtain ⟨b, off, gr⟩ := HG.out
        obtain rfl := gr.at_ (by omega)
        have g1 := gr.cap
        have g2 := gr.max
        have GA := hide (gr.below HBL.out (Nat.le_refl _))
        clear gr
        obtain ⟨A2, m2, c2, hc, hrow⟩ := GA.out.cell k hlt
        have HRow := hide hrow
        obtain ⟨p1, p2⟩ := row_ok HOK.out hlt hrow.length
        clear hrow
        go_wp2_with fail
        go_loopw [6, 29] (fun s i wr => ∃ j g : Nat, j ≤ k ∧ g ≤ 47 ∧ i = .int .i64 j ∧ s = .int .i64 g ∧ Hid (apK ls k j (apI ls k) = some g) ∧ Hid (Below wa.heap.size wa wr)) (fun _ i _ => k - (intOf i).toNat)
        case atStart => exact ⟨0, g, by omega, hg, rfl, rfl, hide HI.out, hide (Below.refl _ _)⟩
        case round =>
          obtain ⟨j, g3, hj, hg3, rfl, rfl, HK, HB2⟩ := hrel
          have hz2 := HB2.out.size
          clear hc
          by_cases hjt : j < k
          · obtain ⟨A3, m3, c3, hc, hrow⟩ := ((GA.out.below HB2.out (Nat.le_refl _)).cell j (by omega))
            have HRow3 := hide hrow
            obtain ⟨r1, r2⟩ := row_ok HOK.out (show j < n by omega) hrow.length
            clear hrow
            cases hl : lisO (ls.getD k []) (ls.getD j []) with
            | none =>
              have HN := hide (apI_out (n := n) hjt hlt hl)
              have HLL := hide hl
              clear hl
              go_wp2_with fail
              refine (listen_any _ _ _ (ls.getD k []) _ _ _ (ls.getD j []) _ (HRow.out.below HB2.out (Nat.le_refl _)) HRow3.out p1 p2 r1 r2).mono ?_
              rintro e w2 ⟨rfl, b2⟩
              rw [HLL.out]
              have B2 := hide ((HBL.out.trans (HB2.out.mono hsz)).trans (b2.mono (Nat.le_trans hsz hz2)))
              clear b2
              go_wp2_with fail
              go_ret3
              exact ⟨ret3_ibi (by rw [okv_zero HE.out, HN.out]; rfl) (by rw [okb_zero HE.out, HN.out]; rfl) HE.out.symm, B2.out⟩
            | some d =>
              have hd := lis_le (HOK.out k hlt) (HOK.out j (by omega)) hl
              have HM := hide (apK_more HK.out hl)
              have HLL := hide hl
              clear hl
              go_wp2_with fail
              refine (listen_any _ _ _ (ls.getD k []) _ _ _ (ls.getD j []) _ (HRow.out.below HB2.out (Nat.le_refl _)) HRow3.out p1 p2 r1 r2).mono ?_
              rintro e w2 ⟨rfl, b2⟩
              rw [HLL.out]
              have B2 := hide (HB2.out.trans (b2.mono hz2))
              clear b2
              by_cases hmx : g3 < d
              · have HX := hide (show max g3 d = d by omega)
                go_wp2_with fail
                go_roundw
                case rel => exact ⟨j + 1, d, by omega, by omega, by go_num, by go_num, hide (by rw [HM.out, HX.out]), B2⟩
                case measure => simp [intOf]; omega
              · have HX := hide (show max g3 d = g3 by omega)
                go_wp2_with fail
                go_roundw
                case rel => exact ⟨j + 1, g3, by omega, by omega, by go_num, by go_num, hide (by rw [HM.out, HX.out]), B2⟩
                case measure => simp [intOf]; omega
          · obtain rfl : j = k := by omega
            have B3 := hide (HBL.out.trans (HB2.out.mono hsz))
            go_wp2_with fail
            go_roundw
            case rel => exact ⟨j + 1, g3, by omega, by omega, by go_num, rfl, hide HK.out, B3⟩
            case measure => simp [intOf]; omega
      · obtain rfl : k = n := by omega
        go_wp2_with fail
        go_ret3
        exact ⟨ret3_ibi (by rw [okv_zero HE.out, HI.out]; rfl) (by rw [okb_zero HE.out, HI.out]; rfl) HE.out.symm, HBL.out⟩
  · have he' : (errLs ls != 0) = true := by simp [he]
    have HE := hide he
    clear he
    go_enter Try.func13, Try.ntmps13
    go_wp2_with fail
    refine (validateList_any _ _ _ ls _ HG.out HS.out).mono ?_
    rintro e w1 ⟨rfl, rfl⟩
    go_wp2_with fail
    go_ret3
    exact ⟨ret3_ibi (okv_ne HE.out _).symm (okb_ne HE.out _).symm rfl, Below.refl _ _⟩

theorem rlisten_below (A : Option Addr) (n c : Nat) (xs : List Int) (A' : Option Addr) (n' c' : Nat) (ys : List Int) (w : World) (h : Row w A n c xs) (h' : Row w A' n' c' ys) (hn1 : 1 ≤ n) (hn : n ≤ 24) (hn1' : 1 ≤ n') (hn' : n' ≤ 24) (hne : eqL (nameL xs) (nameL ys) = false) :
    Calls Try.prog 39 #[.slice A n c, .slice A' n' c'] w fun e w' => e = .returned (.int .i64 (((lisO xs ys).getD 0 : Nat) : Int)) ∧ Below w.heap.size w w' :=
  (rlisten_any A n c xs A' n' c' ys w h h' hn1 hn hn1' hn' hne).mono fun e w' ⟨he, hw⟩ => ⟨he, by rw [← hw]; exact Below.refl _ _⟩

set_option maxHeartbeats 4000000 in
theorem rApart_any (A : Option Addr) (n c : Nat) (ls : List (List Int)) (w : World) (h : Grid w A n c ls) (hs : Small ls 200) :
    Calls Try.prog 14 #[.slice A n c] w fun e w' => e = .returned (.tuple #[.int .i64 (okv (errLs ls) (((apI ls n).getD 0 : Nat) : Int)), .bool (okb (errLs ls) (apI ls n).isSome), .int .i64 (errLs ls)]) ∧ Below w.heap.size w w' := by
  have HG := hide h
  have HL := hide h.length
  have HS := hide hs
  clear h hs
  by_cases he : errLs ls = 0
  · have HE := hide he
    obtain ⟨e1, e2⟩ := errLs_zero he
    rw [HL.out] at e1 e2
    have HOK := hide e2
    clear he e2
    go_enter Try.func14, Try.ntmps14
    go_wp2_with fail
    refine (listed_any _ _ _ ls _ HG.out HS.out).mono ?_
    rintro e w1 ⟨rfl, rfl⟩
    rw [HE.out]
    go_wp2_with fail
    go_loopw [6, 7] (fun s i wr => ∃ k g : Nat, k ≤ n ∧ g ≤ 47 ∧ i = .int .i64 k ∧ s = .int .i64 g ∧ Hid (apI ls k = some g) ∧ Hid (Below w.heap.size w wr)) (fun _ i _ => n - (intOf i).toNat)
    case atStart => exact ⟨0, 0, by omega, by omega, rfl, rfl, hide rfl, hide (Below.refl _ _)⟩
    case round =>
      obtain ⟨k, g, hk, hg, rfl, rfl, HI, HBL⟩ := hrel
      obtain ⟨wa, rfl⟩ : ∃ v : World, v = wr := ⟨_, rfl⟩
      have hsz := HBL.out.size
      by_cases hlt : k < n
      · obtain ⟨b, off, gr⟩ := HG.out
        obtain rfl := gr.at_ (by omega)
        have g1 := gr.cap
        have g2 := gr.max
        have GA := hide (gr.below HBL.out (Nat.le_refl _))
        clear gr
        obtain ⟨A2, m2, c2, hc, hrow⟩ := GA.out.cell k hlt
        have HRow := hide hrow
        obtain ⟨p1, p2⟩ := row_ok HOK.out hlt hrow.length
        have HC := hide hc
        have glt := GA.out.lt (by omega)
        clear hrow
        go_wp2_with fail
        go_loopw [6, 8] (fun s i wr => ∃ j g : Nat, j ≤ k ∧ g ≤ 47 ∧ i = .int .i64 j ∧ s = .int .i64 g ∧ Hid (apK ls k j (apI ls k) = some g) ∧ Hid (Below wa.heap.size wa wr)) (fun _ i _ => k - (intOf i).toNat)
        case atStart => exact ⟨0, g, by omega, hg, rfl, rfl, hide HI.out, hide (Below.refl _ _)⟩
        case round =>
          obtain ⟨j, g3, hj, hg3, rfl, rfl, HK, HB2⟩ := hrel
          have hz2 := HB2.out.size
          clear hc
          by_cases hjt : j < k
          · obtain ⟨A3, m3, c3, hc, hrow⟩ := ((GA.out.below HB2.out (Nat.le_refl _)).cell j (by omega))
            have HRow3 := hide hrow
            obtain ⟨r1, r2⟩ := row_ok HOK.out (show j < n by omega) hrow.length
            clear hrow
            have hck := (GA.out.below HB2.out (Nat.le_refl _)).cell k hlt
            have hc2 : wr.cell? ⟨b, off + k, none⟩ = some (.slice A2 m2 c2) := by rw [HB2.out.cell (p := ⟨b, off + k, none⟩) glt]; exact HC.out
            have hlt2 : b < wr.heap.size := Nat.lt_of_lt_of_le glt hz2
            clear hck
            have l2 : (j : Int) < n := by omega
            have l3 : j < n := by omega
            have HR2 := hide (HRow.out.below HB2.out (Nat.le_refl _))
            cases hne : eqL (nameL (ls.getD k [])) (nameL (ls.getD j [])) with
            | true =>
              have HN := hide (apI_out (n := n) hjt hlt (lis_none hne))
              have HNE := hide hne
              clear hne
              go_wp2_with fail
              go_region_held3 (fun w' => w'.cell? ⟨b, off + k, none⟩ = some (.slice A2 m2 c2) ∧ w'.cell? ⟨b, off + j, none⟩ = some (.slice A3 m3 c3))
                (first
                  | go_keep
                  | (go_split_ands
                     refine ⟨?_, ?_⟩ <;> (rw [hb8.cell (by simp; omega)]; assumption)))
                (first
                  | (go_at_call 38; refine (ralike_below _ _ _ (ls.getD k []) _ _ _ (ls.getD j []) _ (HR2.out.drewN 1) (HRow3.out.drewN 1) p1 (by omega) r1 (by omega)).mono ?_; rintro e8 w8 ⟨rfl, hb8⟩; rw [HNE.out]))
              all_goals
                go_wp2_with fail
                go_ret3
                exact ⟨ret3_ibi (by rw [okv_zero HE.out, HN.out]; rfl) (by rw [okb_zero HE.out, HN.out]; rfl) HE.out.symm, ((HBL.out.trans (HB2.out.mono hsz)).trans ((below_drewN (Below.refl wr.heap.size wr) 1).mono (by omega))).trans (hb8.mono (by simp; omega))⟩
            | false =>
              have q1 := errOf_zero (HOK.out k hlt)
              have q2 := errOf_zero (HOK.out j (by omega))
              obtain ⟨d, hl, _⟩ := lis_spec q1.1 q2.1 q1.2.1 q2.2.1 hne
              clear q1 q2
              have hd := lis_le (HOK.out k hlt) (HOK.out j (by omega)) hl
              have HM := hide (apK_more HK.out hl)
              have HLL := hide hl
              have HNE := hide hne
              clear hl hne
              go_wp2_with fail
              go_region_held3 (fun w' => w'.cell? ⟨b, off + k, none⟩ = some (.slice A2 m2 c2) ∧ w'.cell? ⟨b, off + j, none⟩ = some (.slice A3 m3 c3))
                (first
                  | go_keep
                  | (go_split_ands
                     refine ⟨?_, ?_⟩ <;> (rw [hb8.cell (by simp; omega)]; assumption)))
                (first
                  | (go_at_call 38; refine (ralike_below _ _ _ (ls.getD k []) _ _ _ (ls.getD j []) _ (HR2.out.drewN 1) (HRow3.out.drewN 1) p1 (by omega) r1 (by omega)).mono ?_; rintro e8 w8 ⟨rfl, hb8⟩; rw [HNE.out]))
              all_goals
                have B8 := hide ((below_drewN (Below.refl wr.heap.size wr) 1).trans (hb8.mono (by simp)))
                have z8 := B8.out.size
                have hcj : w8.cell? ⟨b, off + j, none⟩ = some (.slice A3 m3 c3) := by rw [B8.out.cell (p := ⟨b, off + j, none⟩) hlt2]; exact hc
                have hck : w8.cell? ⟨b, off + k, none⟩ = some (.slice A2 m2 c2) := by rw [B8.out.cell (p := ⟨b, off + k, none⟩) hlt2]; exact hc2
                have hlt8 : b < w8.heap.size := Nat.lt_of_lt_of_le hlt2 z8
                have HR8 := hide (HR2.out.below B8.out (Nat.le_refl _))
                have HR9 := hide (HRow3.out.below B8.out (Nat.le_refl _))
                have B9 := hide (HB2.out.trans (B8.out.mono hz2))
                clear hc hc2 hb8
                go_wp2_with fail
                go_region_held3 (fun w' => w'.cell? ⟨b, off + k, none⟩ = some (.slice A2 m2 c2) ∧ w'.cell? ⟨b, off + j, none⟩ = some (.slice A3 m3 c3))
                  (first
                    | go_keep
                    | (go_split_ands
                       refine ⟨?_, ?_⟩ <;> (rw [hb9.cell (by simp; omega)]; assumption)))
                  (first
                    | (go_at_call 39; refine (rlisten_below _ _ _ (ls.getD k []) _ _ _ (ls.getD j []) _ (HR8.out.drewN 1) (HR9.out.drewN 1) p1 p2 r1 r2 HNE.out).mono ?_; rintro e9 w9 ⟨rfl, hb9⟩; rw [HLL.out]))
                all_goals
                  have z9 := hb9.size
                  have B10 := hide (B9.out.trans (((below_drewN (Below.refl w8.heap.size w8) 1).trans (hb9.mono (by simp))).mono (Nat.le_trans hz2 z8)))
                  by_cases hmx : g3 < d
                  · have HX := hide (show max g3 d = d by omega)
                    go_wp2_with fail
                    go_roundw
                    case rel => exact ⟨j + 1, d, by omega, by omega, by go_num, by go_num, hide (by rw [HM.out, HX.out]), B10⟩
                    case measure => simp [intOf]; omega
                  · have HX := hide (show max g3 d = g3 by omega)
                    go_wp2_with fail
                    go_roundw
                    case rel => exact ⟨j + 1, g3, by omega, by omega, by go_num, by go_num, hide (by rw [HM.out, HX.out]), B10⟩
                    case measure => simp [intOf]; omega
          · obtain rfl : j = k := by omega
            have B3 := hide (HBL.out.trans (HB2.out.mono hsz))
            go_wp2_with fail
            go_roundw
            case rel => exact ⟨j + 1, g3, by omega, by omega, by go_num, rfl, hide HK.out, B3⟩
            case measure => simp [intOf]; omega
      · obtain rfl : k = n := by omega
        go_wp2_with fail
        go_ret3
        exact ⟨ret3_ibi (by rw [okv_zero HE.out, HI.out]; rfl) (by rw [okb_zero HE.out, HI.out]; rfl) HE.out.symm, HBL.out⟩
  · have he' : (errLs ls != 0) = true := by simp [he]
    have HE := hide he
    clear he
    go_enter Try.func14, Try.ntmps14
    go_wp2_with fail
    refine (listed_any _ _ _ ls _ HG.out HS.out).mono ?_
    rintro e w1 ⟨rfl, rfl⟩
    go_wp2_with fail
    go_ret3
    exact ⟨ret3_ibi (okv_ne HE.out _).symm (okb_ne HE.out _).symm rfl, Below.refl _ _⟩


end Go.Proofs.Ytbadihbcjdibeaa
