/- With on both sides; the delays of cliffs with one more place. -/
import Derived.Test.YtllfkhcpdgdmnaaWkAmong
namespace Go.Proofs.Ytllfkhcpdgdmnaa
open Go.RowKit

def witE (p : Int) (xs : List Int) : Int := if errC xs = 0 then errM (xs ++ [p]) else errC xs
def witV (p : Int) (xs : List Int) : List Int := if errC xs = 0 then madV (xs ++ [p]) else []
theorem wit_nodup {p : Int} {xs : List Int} (h : errC xs = 0) : twoB (sortZ (xs ++ [p])) = xs.contains p := by
  have hx := okTo_nodup (errC_ok.1 h).2.2.1
  have e := twoB_sort (xs ++ [p])
  cases hc : xs.contains p with
  | true =>
    rw [← Bool.not_eq_false]
    intro hh
    have := List.nodup_append.1 (e.1 hh)
    exact this.2.2 p (List.contains_iff_mem.1 hc) p (by simp) rfl
  | false =>
    refine e.2 (List.nodup_append.2 ⟨hx, by simp, fun a ha b hb => ?_⟩)
    have : b = p := by simpa using hb
    subst this
    intro e2
    subst e2
    rw [List.contains_iff_mem.2 ha] at hc
    cases hc
theorem wit_twice {p : Int} {xs : List Int} (h : errC xs = 0) (hc : xs.contains p = true) : witE p xs = 5 ∧ witV p xs = [] := by
  have e : errM (xs ++ [p]) = 5 := errM_two (by rw [wit_nodup h, hc])
  refine ⟨(if_pos h).trans e, (if_pos h).trans ?_⟩
  exact madV_no (by rw [e]; decide)
theorem wit_new {p : Int} {xs : List Int} (h : errC xs = 0) (hc : xs.contains p = false) : witE p xs = errC (sortZ (xs ++ [p])) ∧ witV p xs = chkV (sortZ (xs ++ [p])) := by
  have e : errM (xs ++ [p]) = errC (sortZ (xs ++ [p])) := errM_one (by rw [wit_nodup h, hc])
  refine ⟨(if_pos h).trans e, (if_pos h).trans ?_⟩
  unfold madV chkV
  rw [e]
theorem witV_len (p : Int) (xs : List Int) : (witV p xs).length ≤ 36 := by
  unfold witV
  split
  · rename_i h
    have := (errC_ok.1 h).2.1
    unfold madV
    split
    · rw [sortZ_len]; simp; omega
    · simp
  · simp
set_option maxHeartbeats 2000000 in
theorem With_any (A : Option Addr) (n c : Nat) (xs : List Int) (p : Int) (w : World) (h : R E1 w A n c xs) (hn : n ≤ 1000) :
    Calls Try.prog 56 #[.slice A n c, .int .i64 p] w (RowPost (witE p xs) (witV p xs) w) := by
  have HX := hide h
  have HL := hide h.length
  clear h
  by_cases he : errC xs = 0
  · have HE := hide he
    have hn6 := (errC_ok.1 he).2.1
    rw [HL.out] at hn6
    cases hct : xs.contains p with
    | true =>
      have HCT := hide hct
      obtain ⟨a1, a2⟩ := wit_twice he hct
      have HS := hide a1
      have HV := hide a2
      clear he hct a1 a2
      go_enter Try.func56, Try.ntmps56
      go_wp2_with (first
        | (go_at_call 24; refine (Validate_any _ _ _ xs _ HX.out (by omega)).mono ?_; rintro e w1 ⟨rfl, b1⟩; rw [HE.out]; have D1 := hide b1; clear b1)
        | (go_at_call 82; refine (Contains_any A n c xs p _ (HX.out.below D1.out (Nat.le_refl _)) (by omega)).mono ?_; rintro e w2 ⟨rfl, hw2⟩; rw [HCT.out]; obtain rfl := hw2))
      go_ret2
      exact ⟨none, 0, 0, by rw [HS.out]; rfl, by rw [HV.out]; exact Own.nil _ _ _ _, D1.out⟩
    | false =>
      have HCT := hide hct
      obtain ⟨a1, a2⟩ := wit_new he hct
      have HS := hide a1
      have HV := hide a2
      clear he hct a1 a2
      go_enter Try.func56, Try.ntmps56
      go_wp2_with (first
        | (go_at_call 24; refine (Validate_any _ _ _ xs _ HX.out (by omega)).mono ?_; rintro e w1 ⟨rfl, b1⟩; rw [HE.out]; have D1 := hide b1; clear b1)
        | (go_at_call 82; refine (Contains_any A n c xs p _ (HX.out.below D1.out (Nat.le_refl _)) (by omega)).mono ?_; rintro e w2 ⟨rfl, hw2⟩; rw [HCT.out]; obtain rfl := hw2)
        | (go_at_call 92; refine (CloneI_any A n c xs _ (HX.out.below D1.out (Nat.le_refl _)) (by omega)).mono ?_; rintro e w3 ⟨A3, c3, rfl, o3, b3⟩; have HO3 := hide o3; have D3 := hide b3; have hsz3 := b3.size; clear o3 b3)
        | (at_builtin; refine wpList_app1 (E := E1) _ (.int .i64 0) 8 rfl (.tmp 17) (.tmp 19) 22 3 rfl Try.underlying22 info_int rfl (by decide) (by omega) _ _ _ _ _ (p) _ rfl rfl rfl HO3.out (by omega) hsz3 ?_; intro A5 c5 w5 o5 b5 g5)
        | (go_at_call 84; refine (Sort_any _ _ _ _ _ _ o5 (by omega)).mono ?_; rintro e w6 ⟨rfl, o6, g6⟩; have HO6 := hide o6; have D6 := hide ((D3.out.trans b5).trans (own_grown_below o5 (D3.out.trans b5).size g6)); clear o6 g6)
        | (go_at_call 90; refine (checked_any _ _ _ (sortZ (xs ++ [p])) _ _ HO6.out (by omega)).mono ?_; rintro e w7 ⟨A7, n7, c7, rfl, o7, b7⟩; have HO7 := hide o7; have D7 := hide b7; clear o7 b7))
      go_ret2
      exact ⟨A7, n7, c7, by rw [HS.out]; rfl, by rw [HV.out]; exact HO7.out.more D1.out.size, (D1.out.trans (D6.out.mono D1.out.size)).trans (D7.out.mono (le_call D1.out D6.out).size)⟩
  · have hne : (errC xs != 0) = true := by simpa using he
    have HS := hide (show witE p xs = errC xs from if_neg he)
    have HV := hide (show witV p xs = [] from if_neg he)
    clear he
    go_enter Try.func56, Try.ntmps56
    go_wp2_with (go_at_call 24; refine (Validate_any _ _ _ xs _ HX.out (by omega)).mono ?_; rintro e w1 ⟨rfl, b1⟩; have D1 := hide b1; clear b1)
    go_ret2
    exact ⟨none, 0, 0, by rw [HS.out]; rfl, by rw [HV.out]; exact Own.nil _ _ _ _, D1.out⟩
set_option maxHeartbeats 2000000 in
theorem rWith_any (A : Option Addr) (n c : Nat) (xs : List Int) (p : Int) (w : World) (h : R E1 w A n c xs) (hn : n ≤ 1000) :
    Calls Try.prog 57 #[.slice A n c, .int .i64 p] w (RowPost (witE p xs) (witV p xs) w) := by
  have HX := hide h
  have HL := hide h.length
  clear h
  by_cases he : errC xs = 0
  · have HE := hide he
    have hn6 := (errC_ok.1 he).2.1
    rw [HL.out] at hn6
    have HS := hide (show witE p xs = errM (xs ++ [p]) from if_pos he)
    have HV := hide (show witV p xs = madV (xs ++ [p]) from if_pos he)
    clear he
    go_enter Try.func57, Try.ntmps57
    go_wp2_with (first
      | (go_at_call 25; refine (rValidate_any _ _ _ xs _ HX.out (by omega)).mono ?_; rintro e w1 ⟨rfl, b1⟩; rw [HE.out]; have D1 := hide b1; clear b1)
      | (at_builtin; refine wpList_appX (E := E1) _ (.int .i64 0) 8 rfl (.tmp 12) (.tmp 13) 22 3 rfl Try.underlying22 info_int rfl (by decide) (by omega) w1.heap.size w1.heap.size A n c xs rfl rfl (Own.lit w1 [] (Nat.le_refl _) (by simp)) ((HX.out.below D1.out (Nat.le_refl _)).below ((Below.refl _ w1).alloc (Nat.le_refl _) _) (Nat.le_refl _)) (by omega) (by simp) ?_; intro A3 c3 w3 o3 b3; have HO3 := hide o3; have D3 := hide (((Below.refl _ w1).alloc (Nat.le_refl _) (.cells #[] 3)).trans b3); have hsz3 := D3.out.size; clear o3 b3)
      | (at_builtin; refine wpList_app1 (E := E1) _ (.int .i64 0) 8 rfl (.tmp 14) (.tmp 16) 22 3 rfl Try.underlying22 info_int rfl (by decide) (by omega) _ _ _ _ _ (p) _ rfl rfl rfl HO3.out (by omega) hsz3 ?_; intro A5 c5 w5 o5 b5 g5)
      | (go_at_call 88; refine (made_any _ _ _ (xs ++ [p]) _ _ o5 (by omega)).mono ?_; rintro e w7 ⟨A7, n7, c7, rfl, o7, b7⟩; have HO7 := hide o7; have D7 := hide b7; clear o7 b7))
    go_ret2
    exact ⟨A7, n7, c7, by rw [HS.out]; rfl, by rw [HV.out]; exact HO7.out.more (le_call D1.out (D3.out.trans b5)).size, le_call (le_call D1.out (D3.out.trans b5)) D7.out⟩
  · have hne : (errC xs != 0) = true := by simpa using he
    have HS := hide (show witE p xs = errC xs from if_neg he)
    have HV := hide (show witV p xs = [] from if_neg he)
    clear he
    go_enter Try.func57, Try.ntmps57
    go_wp2_with (go_at_call 25; refine (rValidate_any _ _ _ xs _ HX.out (by omega)).mono ?_; rintro e w1 ⟨rfl, b1⟩; have D1 := hide b1; clear b1)
    go_ret2
    exact ⟨none, 0, 0, by rw [HS.out]; rfl, by rw [HV.out]; exact Own.nil _ _ _ _, D1.out⟩
end Go.Proofs.Ytllfkhcpdgdmnaa
