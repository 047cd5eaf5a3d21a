/- Weights with one more: the document. -/
import Derived.Test.YtlhlcchimammlaaWalkW
import Derived.Deep.Cut
import Derived.Deep.CutRange
namespace Go.Proofs.Ytlhlcchimammlaa
open Go.RowKit Go.Shelf
attribute [local go_sem] Oper.semAt_some

theorem RAt.rest {w : World} {n c b off : Nat} {xs : List Int} {t : Nat} (h : RAt E1 w (some ⟨b, off, none⟩) n c xs b off) (ht : t ≤ n) (hc : ¬ c = t) : R E1 w (some ⟨b, off + t, none⟩) (n - t) (c - t) (xs.drop t) := by
  have hl := h.len
  have := h.sub (i := t) (m := n - t) (by omega)
  rw [List.take_of_length_le (by rw [List.length_drop]; omega), show off + t * E1.size = off + t from by show off + t * 1 = _; omega] at this
  exact this
set_option maxRecDepth 100000 in
set_option maxHeartbeats 8000000 in
theorem rWith_any (A : Option Addr) (n c : Nat) (xs : List Int) (x : Int) (w : World) (h : R E1 w A n c xs) :
    Calls Try.prog 55 #[.slice A n c, .int .i64 x] w (RowPost (withE xs x) (withV xs x) w) := by
  have H := hide h
  by_cases he : errW xs = 0
  · have HE := hide he
    have hV := errW_vw.1 he
    have hl := h.length
    have hn1 : 1 ≤ n := by rw [← hl]; exact hV.1
    have hn4 : n ≤ 4 := by rw [← hl]; exact hV.2.1
    have HL := hide hl
    have HAS := hide hV.2.2.2
    have hps := posW_le xs x
    rw [hl] at hps
    obtain ⟨b, off, hr⟩ := h
    obtain rfl := hr.at_ (by omega)
    have hbl := hr.lt (by omega)
    have hcn := hr.cap
    have hcm := hr.max
    have HRR := hide hr
    by_cases hx : x ∈ xs
    · have HC := hide (show hasB xs x = true from by unfold hasB; simpa using hx)
      have HT := hide (withE_in he hx)
      have HTV := hide (withV_no (xs := xs) (x := x) (by rw [withE_in he hx]; decide))
      clear he hV hl hps hr hx
      go_enter Try.func55, Try.ntmps55
      go_wp2_with (first
        | (go_at_call 26; refine (rValidate_any _ _ _ xs _ H.out).mono ?_; rintro e w1 ⟨rfl, q1, rfl⟩; rw [HE.out])
        | (go_at_call 41; refine (Has_any _ _ _ xs x _ (H.out.drewN q1)).mono ?_; rintro e w2 ⟨rfl, rfl⟩; rw [HC.out]))
      go_ret2
      exact ⟨none, 0, 0, by rw [HT.out]; rfl, by rw [HTV.out]; exact Own.nil _ _ _ _, below_drewN (Below.refl _ _) q1⟩
    · have HC := hide (show hasB xs x = false from by unfold hasB; simpa using hx)
      have HT := hide (withE_new he hx)
      have HTV1 := hide (fun h0 : errW (withL xs x) = 0 => withV_ok (xs := xs) (x := x) (by rw [withE_new he hx]; exact h0))
      have HTV2 := hide (fun h0 : errW (withL xs x) ≠ 0 => withV_no (xs := xs) (x := x) (by rw [withE_new he hx]; exact h0))
      have HWD := hide (show withL xs x = xs.take (posW xs x) ++ [x] ++ xs.drop (posW xs x) from by unfold withL; simp)
      have HPI := hide (fun i (hi : i < n) => asc_pos (x := x) HAS.out i (by rw [HL.out]; exact hi))
      generalize posW xs x = p at *
      clear he hV hl hr hx
      go_enter Try.func55, Try.ntmps55
      go_wp2_with (first
        | (go_at_call 26; refine (rValidate_any _ _ _ xs _ H.out).mono ?_; rintro e w1 ⟨rfl, q1, rfl⟩; rw [HE.out])
        | (go_at_call 41; refine (Has_any _ _ _ xs x _ (H.out.drewN q1)).mono ?_; rintro e w2 ⟨rfl, rfl⟩; rw [HC.out]))
      go_loopw [7, 8] (fun v i wr => ∃ (t : Nat) (B : Option Addr) (q : Nat), t ≤ p ∧ i = .int .i64 t ∧ v = .slice B t q ∧ Hid (Own E1 wr w.heap.size 3 B t q (xs.take t)) ∧ Hid (Below w.heap.size w wr)) (fun _ i _ => n - (intOf i).toNat)
      case atStart => exact ⟨0, none, 0, Nat.zero_le _, rfl, rfl, hide (Own.nil E1 _ _ _), hide (below_drewN (Below.refl _ _) q1)⟩
      case round =>
        obtain ⟨t, B, q, ht, rfl, rfl, HO, HB⟩ := hrel
        by_cases hlt : t < n
        · have a1 := c1 (HRR.out.under HB.out fun _ => hbl) (k := t) (by omega)
          have hpi := HPI.out t hlt
          have HST := hide (take_get (xs := xs) (k := t) (by rw [HL.out]; exact hlt))
          generalize xs.getD t 0 = y at *
          by_cases hyx : y < x
          · have htp := hpi.1 hyx
            have hsz := HB.out.size
            clear hpi
            go_wp2_with (at_builtin; refine wpList_app1 (E := E1) wr (.int .i64 0) 8 rfl (.tmp 32) (.tmp 37) 22 3 rfl Try.underlying22 info_int rfl (by decide) (by omega) w.heap.size t q B _ (y : Int) _ rfl rfl rfl HO.out (by omega) hsz ?_; intro A5 c5 w5 o5 b5 g5; have HO5 := hide o5; have B5 := hide (HB.out.trans b5); clear o5 b5 g5)
            go_roundw
            case rel => exact ⟨t + 1, A5, c5, by omega, by go_num, rfl, hide (by rw [HST.out]; exact HO5.out), B5⟩
            case measure => simp [intOf]; omega
          · obtain rfl : t = p := by omega
            have htc : ¬ c = t := by omega
            have HPR := hide (HRR.out.rest (t := t) (by omega) htc)
            have HWL := HWD
            have htn : (t : Int) ≤ (n : Int) := by omega
            have htc2 : (t : Int) ≤ (c : Int) := by omega
            have hyx2 : x ≤ y := by omega
            clear hpi HST
            have hsz := HB.out.drew.size
            go_upto_region 12 with fail
            go_cut [7] from 10 (fun v wx => ∃ (A6 : Option Addr) (m6 c6 : Nat), v = .slice A6 m6 c6 ∧ Hid (Own E1 wx w.heap.size 3 A6 m6 c6 (withL xs x)) ∧ Hid (Below w.heap.size w wx))
            case first =>
              go_region_law (first
                | (refine step_app1 (E := E1) wr.drew (.int .i64 0) 8 rfl (.tmp 41) (.tmp 43) 22 3 rfl Try.underlying22 info_int rfl (by decide) (by omega) w.heap.size _ _ _ _ (x : Int) _ rfl rfl rfl (HO.out.drew) (by omega) hsz ?_; intro A5 c5 w5 o5 b5; have O5 := hide o5; have B5 := hide (HB.out.drew.trans b5); have hz5 : w.heap.size ≤ w5.heap.size := Nat.le_trans hsz b5.size; have HP5 := hide (HPR.out.below B5.out (Nat.le_refl _)); clear o5 b5)
                | (refine step_appG (E := E1) w5 (.int .i64 0) 8 rfl (.tmp 44) (.tmp 47) 22 3 rfl Try.underlying22 info_int rfl (by decide) (by omega) w.heap.size _ _ _ _ _ _ _ (xs.drop t) rfl rfl O5.out HP5.out (by omega) (by omega) hz5 ?_; intro A6 c6 w6 o6 b6; have O6 := hide (show Own E1 w6 w.heap.size 3 A6 _ c6 (withL xs x) from by rw [HWL.out]; exact o6); have B6 := hide (B5.out.trans b6); clear o6 b6))
              all_goals (go_wp2_with fail; go_meet; exact ⟨_, _, _, rfl, O6, B6⟩)
            case rest =>
            obtain ⟨A6, m6, c6, rfl, O6, B6⟩ := hcut
            by_cases h0 : errW (withL xs x) = 0
            · have H0 := hide h0
              have HTV := hide (HTV1.out h0)
              clear h0
              go_wp2_with (go_at_call 26; refine (rValidate_any _ _ _ (withL xs x) _ O6.out.row).mono ?_; rintro e w7 ⟨rfl, q7, rfl⟩; rw [H0.out])
              go_ret2
              exact ⟨_, _, _, by rw [HT.out, H0.out]; rfl, by rw [HTV.out]; exact O6.out.drewN _, below_drewN B6.out q7⟩
            · have H0 := hide h0
              have HTV := hide (HTV2.out h0)
              have hne : (errW (withL xs x) != 0) = true := by simpa using h0
              clear h0
              go_wp2_with (go_at_call 26; refine (rValidate_any _ _ _ (withL xs x) _ O6.out.row).mono ?_; rintro e w7 ⟨rfl, q7, rfl⟩)
              go_ret2
              exact ⟨none, 0, 0, by rw [HT.out]; rfl, by rw [HTV.out]; exact Own.nil _ _ _ _, below_drewN B6.out q7⟩
        · obtain rfl : t = n := by omega
          obtain rfl : t = p := by omega
          have HWL := HWD
          by_cases hct : c = t
          · obtain rfl : t = c := hct.symm
            clear hct
            have HPR := hide (show R E1 w (some ⟨b, off, none⟩) (t - t) (t - t) (xs.drop t) from by
              rw [Nat.sub_self, show xs.drop t = [] by rw [List.drop_eq_nil_iff, HL.out]; exact Nat.le_refl _]
              exact ⟨0, 0, rfl, by omega, by omega, fun h => by omega, fun h => by omega, fun k hk => by omega⟩)
            rw [Nat.sub_self] at HPR
            have hsz := HB.out.drew.size
            go_upto_region 12 with fail
            go_cut [7] from 10 (fun v wx => ∃ (A6 : Option Addr) (m6 c6 : Nat), v = .slice A6 m6 c6 ∧ Hid (Own E1 wx w.heap.size 3 A6 m6 c6 (withL xs x)) ∧ Hid (Below w.heap.size w wx))
            case first =>
              go_region_law (first
                | (refine step_app1 (E := E1) wr.drew (.int .i64 0) 8 rfl (.tmp 41) (.tmp 43) 22 3 rfl Try.underlying22 info_int rfl (by decide) (by omega) w.heap.size _ _ _ _ (x : Int) _ rfl rfl rfl (HO.out.drew) (by omega) hsz ?_; intro A5 c5 w5 o5 b5; have O5 := hide o5; have B5 := hide (HB.out.drew.trans b5); have hz5 : w.heap.size ≤ w5.heap.size := Nat.le_trans hsz b5.size; have HP5 := hide (HPR.out.below B5.out (Nat.le_refl _)); clear o5 b5)
                | (refine step_appG (E := E1) w5 (.int .i64 0) 8 rfl (.tmp 44) (.tmp 47) 22 3 rfl Try.underlying22 info_int rfl (by decide) (by omega) w.heap.size _ _ _ _ _ _ _ (xs.drop t) rfl rfl O5.out HP5.out (by omega) (by omega) hz5 ?_; intro A6 c6 w6 o6 b6; have O6 := hide (show Own E1 w6 w.heap.size 3 A6 _ c6 (withL xs x) from by rw [HWL.out]; exact o6); have B6 := hide (B5.out.trans b6); clear o6 b6))
              all_goals (go_wp2_with fail; go_meet; exact ⟨_, _, _, rfl, O6, B6⟩)
            case rest =>
            obtain ⟨A6, m6, c6, rfl, O6, B6⟩ := hcut
            by_cases h0 : errW (withL xs x) = 0
            · have H0 := hide h0
              have HTV := hide (HTV1.out h0)
              clear h0
              go_wp2_with (go_at_call 26; refine (rValidate_any _ _ _ (withL xs x) _ O6.out.row).mono ?_; rintro e w7 ⟨rfl, q7, rfl⟩; rw [H0.out])
              go_ret2
              exact ⟨_, _, _, by rw [HT.out, H0.out]; rfl, by rw [HTV.out]; exact O6.out.drewN _, below_drewN B6.out q7⟩
            · have H0 := hide h0
              have HTV := hide (HTV2.out h0)
              have hne : (errW (withL xs x) != 0) = true := by simpa using h0
              clear h0
              go_wp2_with (go_at_call 26; refine (rValidate_any _ _ _ (withL xs x) _ O6.out.row).mono ?_; rintro e w7 ⟨rfl, q7, rfl⟩)
              go_ret2
              exact ⟨none, 0, 0, by rw [HT.out]; rfl, by rw [HTV.out]; exact Own.nil _ _ _ _, below_drewN B6.out q7⟩
          · have HPR := hide (HRR.out.rest (t := t) (by omega) hct)
            have htc2 : (t : Int) ≤ (c : Int) := by omega
            rw [Nat.sub_self] at HPR
            have hsz := HB.out.drew.size
            go_upto_region 12 with fail
            go_cut [7] from 10 (fun v wx => ∃ (A6 : Option Addr) (m6 c6 : Nat), v = .slice A6 m6 c6 ∧ Hid (Own E1 wx w.heap.size 3 A6 m6 c6 (withL xs x)) ∧ Hid (Below w.heap.size w wx))
            case first =>
              go_region_law (first
                | (refine step_app1 (E := E1) wr.drew (.int .i64 0) 8 rfl (.tmp 41) (.tmp 43) 22 3 rfl Try.underlying22 info_int rfl (by decide) (by omega) w.heap.size _ _ _ _ (x : Int) _ rfl rfl rfl (HO.out.drew) (by omega) hsz ?_; intro A5 c5 w5 o5 b5; have O5 := hide o5; have B5 := hide (HB.out.drew.trans b5); have hz5 : w.heap.size ≤ w5.heap.size := Nat.le_trans hsz b5.size; have HP5 := hide (HPR.out.below B5.out (Nat.le_refl _)); clear o5 b5)
                | (refine step_appG (E := E1) w5 (.int .i64 0) 8 rfl (.tmp 44) (.tmp 47) 22 3 rfl Try.underlying22 info_int rfl (by decide) (by omega) w.heap.size _ _ _ _ _ _ _ (xs.drop t) rfl rfl O5.out HP5.out (by omega) (by omega) hz5 ?_; intro A6 c6 w6 o6 b6; have O6 := hide (show Own E1 w6 w.heap.size 3 A6 _ c6 (withL xs x) from by rw [HWL.out]; exact o6); have B6 := hide (B5.out.trans b6); clear o6 b6))
              all_goals (go_wp2_with fail; go_meet; exact ⟨_, _, _, rfl, O6, B6⟩)
            case rest =>
            obtain ⟨A6, m6, c6, rfl, O6, B6⟩ := hcut
            by_cases h0 : errW (withL xs x) = 0
            · have H0 := hide h0
              have HTV := hide (HTV1.out h0)
              clear h0
              go_wp2_with (go_at_call 26; refine (rValidate_any _ _ _ (withL xs x) _ O6.out.row).mono ?_; rintro e w7 ⟨rfl, q7, rfl⟩; rw [H0.out])
              go_ret2
              exact ⟨_, _, _, by rw [HT.out, H0.out]; rfl, by rw [HTV.out]; exact O6.out.drewN _, below_drewN B6.out q7⟩
            · have H0 := hide h0
              have HTV := hide (HTV2.out h0)
              have hne : (errW (withL xs x) != 0) = true := by simpa using h0
              clear h0
              go_wp2_with (go_at_call 26; refine (rValidate_any _ _ _ (withL xs x) _ O6.out.row).mono ?_; rintro e w7 ⟨rfl, q7, rfl⟩)
              go_ret2
              exact ⟨none, 0, 0, by rw [HT.out]; rfl, by rw [HTV.out]; exact Own.nil _ _ _ _, below_drewN B6.out q7⟩
  · have HT := hide (withE_no (x := x) he)
    have HTV := hide (withV_no (xs := xs) (x := x) (by rw [withE_no he]; exact he))
    have hne : (errW xs != 0) = true := by simpa using he
    clear he h
    go_enter Try.func55, Try.ntmps55
    go_wp2_with (go_at_call 26; refine (rValidate_any _ _ _ xs _ H.out).mono ?_; rintro e w1 ⟨rfl, q1, rfl⟩)
    go_ret2
    exact ⟨none, 0, 0, by rw [HT.out]; rfl, by rw [HTV.out]; exact Own.nil _ _ _ _, below_drewN (Below.refl _ _) q1⟩
end Go.Proofs.Ytlhlcchimammlaa
