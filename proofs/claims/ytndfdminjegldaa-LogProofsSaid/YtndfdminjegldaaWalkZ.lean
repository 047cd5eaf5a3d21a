/- Walks: the document's table. -/
import Derived.Test.YtndfdminjegldaaWalkY
namespace Go.Proofs.Ytndfdminjegldaa
open Go.RowKit Go.Shelf
attribute [local go_sem] Oper.semAt_some

/-- The headers' row grows: another row stays. -/
theorem own1_hdr {w w' : World} {B B' n c n' c' : Nat} {A A' : Option Addr} {l : List Int} {hs : List Hd} (h : Own E1 w B 3 A n c l) (hh : Own EH w B' 22 A' n' c' hs) (hg : w.grownBy w' (Value.slice A' n' c').ownBlock) : Own E1 w' B 3 A n c l := by
  rcases h.form with ⟨rfl, rfl, rfl, rfl⟩ | ⟨g, rfl, _⟩
  · exact Own.nil _ _ _ _
  · refine h.kept hg ?_
    right
    rcases own_ne hh h (by decide) with e | e
    · rw [e]; simp [Value.ownBlock]
    · intro e'; exact e (e'.symm.trans (by simp [Value.ownBlock]))
def rowD (l m : List Int) (c : Cst) (r s : Nat) : List Int := (List.range s).map fun k => dd l m c r k
theorem rowD_succ (l m : List Int) (c : Cst) (r s : Nat) : rowD l m c r (s + 1) = rowD l m c r s ++ [dd l m c r s] := by
  unfold rowD; rw [List.range_succ, List.map_append]; rfl
theorem bk_three' {w : World} {g : Nat} {t : TypeId} {a b c : Value} (h : Bk w g t #[a, b, c]) : w.cell? ⟨g, 0, none⟩ = some a ∧ w.cell? ⟨g, 1, none⟩ = some b ∧ w.cell? ⟨g, 2, none⟩ = some c := ⟨h.at_ 0, h.at_ 1, h.at_ 2⟩
set_option maxRecDepth 100000 in
set_option maxHeartbeats 8000000 in
theorem rTable_any (A : Option Addr) (n c : Nat) (xs : List Int) (A' : Option Addr) (n' c' : Nat) (ys : List Int) (o i h : Int) (w : World) (hx : R E1 w A n c xs) (hy : R E1 w A' n' c' ys) :
    Calls Try.prog 36 #[.slice A n c, .slice A' n' c', cV o i h] w (TblPost (errD xs ys ⟨o, i, h⟩) (tabV xs ys ⟨o, i, h⟩) w) := by
  have BX := hide ((Below.refl w.heap.size w).alloc (Nat.le_refl _) (.cells #[.int .i64 o, .int .i64 i, .int .i64 h] 24))
  have HBK := hide (Bk.born w 24 #[.int .i64 o, .int .i64 i, .int .i64 h])
  have HX := hide (hx.below BX.out (Nat.le_refl _))
  have HY := hide (hy.below BX.out (Nat.le_refl _))
  have HLX := hide hx.length
  have HLY := hide hy.length
  have hz : w.heap.size < (w.alloc (.cells #[.int .i64 o, .int .i64 i, .int .i64 h] 24)).heap.size := by simp
  by_cases he : errD xs ys ⟨o, i, h⟩ = 0
  · have HE := hide he
    have HV := hide (show tabV xs ys ⟨o, i, h⟩ = tabL xs ys ⟨o, i, h⟩ (n + 1) (n' + 1) from by rw [tabV_ok he, HLX.out, HLY.out])
    obtain ⟨h1, h2, h3⟩ := errD_ok.1 he
    have hn : n ≤ 10 := by rw [← hx.length]; exact (errL_ok.1 h1).1
    have hn' : n' ≤ 10 := by rw [← hy.length]; exact (errL_ok.1 h2).1
    obtain ⟨ho, hi, hh⟩ := h3
    simp only at ho hi hh
    clear hx hy he h1 h2
    go_enter Try.func36, Try.ntmps36
    go_wp2_with (go_at_call 57; refine (rcosted_any A n c xs A' n' c' ys o i h _ HX.out HY.out).mono ?_; rintro e1 w1 ⟨rfl, b1⟩; rw [HE.out]; have B1 := hide b1; clear b1)
    have BW := hide (BX.out.trans (B1.out.mono (Nat.le_of_lt hz)))
    have HX1 := hide (HX.out.below B1.out (Nat.le_refl _))
    have HY1 := hide (HY.out.below B1.out (Nat.le_refl _))
    have HBK1 := hide (HBK.out.keep B1.out hz)
    have hz1 : w.heap.size < w1.heap.size := Nat.lt_of_lt_of_le hz B1.out.size
    have hxc : n ≤ c := by obtain ⟨_, _, hr⟩ := HX.out; exact hr.cap
    have hyc : n' ≤ c' := by obtain ⟨_, _, hr⟩ := HY.out; exact hr.cap
    clear HX HY HBK BX B1 hz
    go_loopw [9, 10] (fun a9 a10 wr => ∃ (t : Nat) (A9 : Option Addr) (c9 : Nat) (hs : List Hd), t ≤ n + 1 ∧ a9 = .slice A9 t c9 ∧ a10 = .int .i64 t ∧ Hid (Own EH wr w1.heap.size 22 A9 t c9 hs) ∧ Hid (∀ k, k < t → Own E1 wr w1.heap.size 3 (hs.getD k EH.d).1 (hs.getD k EH.d).2.1 (hs.getD k EH.d).2.2 (rowD xs ys ⟨o, i, h⟩ k (n' + 1))) ∧ Hid (Below w1.heap.size w1 wr)) (fun _ a10 _ => n + 1 - (intOf a10).toNat)
    case atStart => exact ⟨0, none, 0, [], Nat.zero_le _, rfl, rfl, hide (Own.nil _ _ _ _), hide (fun k hk => by omega), hide (Below.refl _ _)⟩
    case round =>
      obtain ⟨t, A9, c9, hs, ht, rfl, rfl, HH, HR, HB⟩ := hrel
      by_cases hlt : t < n + 1
      · have htn : (t : Int) ≤ (n : Int) := by omega
        rename World => wm
        have HXM := hide (HX1.out.below HB.out (Nat.le_refl _))
        have HYM := hide (HY1.out.below HB.out (Nat.le_refl _))
        have HBM := hide (HBK1.out.keep HB.out hz1)
        have hzm : w.heap.size < wm.heap.size := Nat.lt_of_lt_of_le hz1 HB.out.size
        go_wp2_with fail
        go_loopg [11, 12] (n' + 1) (fun gg a11 a12 wr => ∃ (s : Nat) (Ar : Option Addr) (cr : Nat), s ≤ n' + 1 ∧ n' + 1 - s ≤ gg ∧ a11 = .slice Ar s cr ∧ a12 = .int .i64 s ∧ Hid (Own E1 wr wm.heap.size 3 Ar s cr (rowD xs ys ⟨o, i, h⟩ t s)) ∧ Hid (Below wm.heap.size wm wr))
        case atStart => exact ⟨0, none, 0, Nat.zero_le _, by omega, rfl, rfl, hide (Own.nil _ _ _ _), hide (Below.refl _ _)⟩
        case round =>
          obtain ⟨s, Ar, cr, hs', hgg, rfl, rfl, HO, HBr⟩ := hrel
          by_cases hls : s < n' + 1
          · have hsn : (s : Int) ≤ (n' : Int) := by omega
            have htc : (t : Int) ≤ (c : Int) := by omega
            have hsc : (s : Int) ≤ (c' : Int) := by omega
            have HXT := hide (show R E1 wr.drew A t c (xs.take t) from ((HXM.out.below HBr.out (Nat.le_refl _)).drewN 1).front (by omega))
            have HYT := hide (show R E1 wr.drew A' s c' (ys.take s) from ((HYM.out.below HBr.out (Nat.le_refl _)).drewN 1).front (by omega))
            have HDT := hide (dd_take (c := ⟨o, i, h⟩) (show t ≤ xs.length from by rw [HLX.out]; omega) (show s ≤ ys.length from by rw [HLY.out]; omega))
            have HRS := hide (rowD_succ xs ys ⟨o, i, h⟩ t s)
            have HBW := hide (HBM.out.keep HBr.out hzm)
            have hzw : w.heap.size < wr.heap.size := Nat.lt_of_lt_of_le hzm HBr.out.size
            have hrl := HO.out.len
            have HRL := hide hrl
            have hszr := HBr.out.size
            clear hrl
            cases A <;> cases A'
            all_goals
              go_wp2_with fail
              go_region_held_law (fun w' => w'.cell? ⟨w.heap.size, 0, none⟩ = some (.int .i64 o) ∧ w'.cell? ⟨w.heap.size, 1, none⟩ = some (.int .i64 i) ∧ w'.cell? ⟨w.heap.size, 2, none⟩ = some (.int .i64 h))
                (first
                  | exact bk_three' K7.out
                  | exact bk_three' K5.out
                  | exact bk_three' (K5.out.more _)
                  | exact bk_three' HBW.out
                  | go_keep)
                (first
                  | (have hgd := K5; clear hgd; refine step_app1 (E := E1) w5 (.int .i64 0) 8 rfl (.tmp 32) (.tmp 41) 22 3 rfl Try.underlying22 info_int rfl (by decide) (by omega) wm.heap.size s cr Ar (rowD xs ys ⟨o, i, h⟩ t s) (dd xs ys ⟨o, i, h⟩ t s) _ rfl rfl rfl O5.out (by omega) B5.out.size ?_; intro A7 c7 w7 o7 b7; have O7 := hide (show Own E1 w7 wm.heap.size 3 A7 (s + 1) c7 (rowD xs ys ⟨o, i, h⟩ t (s + 1)) from by rw [HRS.out]; exact o7); have B7 := hide (B5.out.trans b7); have K7 := hide (HBM.out.keep B7.out hzm); clear o7 b7)
                  | (go_at_call 62; refine (rdistance_any _ t c (xs.take t) _ s c' (ys.take s) o i h wr.drew HXT.out HYT.out (by omega) (by omega) ho hi hh).mono ?_; rw [← HDT.out]; rintro e5 w5 ⟨rfl, b5⟩; have O5 := hide (HO.out.drew.below b5 (Nat.le_refl _)); have B5 := hide (HBr.out.drew.trans (b5.mono hszr)); have K5 := hide (HBM.out.keep B5.out hzm); clear b5))
              all_goals
                go_wp2_with fail
                go_roundg (n' + 1 - (s + 1))
                case measure => omega
                case rel => exact ⟨s + 1, A7, c7, by omega, by omega, rfl, by go_num, O7, B7⟩
          · obtain rfl : s = n' + 1 := by omega
            have hsn : (n' : Int) < ((n' + 1 : Nat) : Int) := by omega
            have HH1 := hide (HH.out.below HBr.out (Nat.le_refl _))
            have BWR := hide (HB.out.trans (HBr.out.mono HB.out.size))
            go_wp2_with (at_builtin; refine wpList_app1 (E := EH) wr (.slice none 0 0) 24 rfl (.tmp 43) (.tmp 45) 40 22 rfl Try.underlying40 info_row rfl (by decide) (by omega) w1.heap.size t c9 A9 hs (Ar, n' + 1, cr) _ rfl rfl rfl HH1.out (by omega) BWR.out.size ?_; intro A7 c7 w7 o7 b7 r7; have O7 := hide o7; have B7 := hide (BWR.out.trans b7); have R7 := hide r7; clear o7 b7 r7)
            have HR7 := hide (show ∀ k, k < t + 1 → Own E1 w7 w1.heap.size 3 ((hs ++ [((Ar, n' + 1, cr) : Hd)]).getD k EH.d).1 ((hs ++ [((Ar, n' + 1, cr) : Hd)]).getD k EH.d).2.1 ((hs ++ [((Ar, n' + 1, cr) : Hd)]).getD k EH.d).2.2 (rowD xs ys ⟨o, i, h⟩ k (n' + 1)) from fun k hk => by
              have hl := HH.out.len
              by_cases e : k = t
              · subst e
                have e1 : (hs ++ [((Ar, n' + 1, cr) : Hd)]).getD k EH.d = (Ar, n' + 1, cr) := by rw [List.getD_eq_getElem?_getD, List.getElem?_append_right (by omega), hl]; simp
                rw [e1]
                exact (own1_hdr HO.out HH1.out R7.out).more HB.out.size
              · have e1 : (hs ++ [((Ar, n' + 1, cr) : Hd)]).getD k EH.d = hs.getD k EH.d := by rw [List.getD_eq_getElem?_getD, List.getD_eq_getElem?_getD, List.getElem?_append_left (by omega)]
                rw [e1]
                exact own1_hdr ((HR.out k (by omega)).below HBr.out (Nat.le_refl _)) HH1.out R7.out)
            go_roundw
            case rel => exact ⟨t + 1, A7, c7, _, by omega, rfl, by go_num, O7, HR7, B7⟩
            case measure => simp [intOf]; omega
      · obtain rfl : t = n + 1 := by omega
        have htn : (n : Int) < ((n + 1 : Nat) : Int) := by omega
        go_wp2_with fail
        go_ret2
        refine ⟨A9, n + 1, c9, by rw [HE.out]; rfl, by
          rw [HV.out]
          exact ⟨hs, HH.out.row, tabL_len _ _, fun k hk => by rw [tabL_row hk]; exact (HR.out k hk).row⟩, BW.out.trans (HB.out.mono (Nat.le_of_lt hz1))⟩
  · have HV := hide (tabV_no he)
    have hne : (errD xs ys ⟨o, i, h⟩ != 0) = true := by simpa using he
    clear hx hy he
    go_enter Try.func36, Try.ntmps36
    go_wp2_with (go_at_call 57; refine (rcosted_any A n c xs A' n' c' ys o i h _ HX.out HY.out).mono ?_; rintro e1 w1 ⟨rfl, b1⟩; have B1 := hide b1; clear b1)
    go_ret2
    exact ⟨none, 0, 0, rfl, by rw [HV.out]; exact RR.nil _, le_call BX.out B1.out⟩
end Go.Proofs.Ytndfdminjegldaa
