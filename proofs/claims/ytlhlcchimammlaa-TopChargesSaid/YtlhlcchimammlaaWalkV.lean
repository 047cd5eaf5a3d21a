/- So many times as great: on both sides. -/
import Derived.Test.YtlhlcchimammlaaWalkP
import Derived.Test.YtlhlcchimammlaaWalkR
import Derived.Test.YtlhlcchimammlaaMY
namespace Go.Proofs.Ytlhlcchimammlaa
open Go.RowKit Go.Shelf
attribute [local go_sem] Oper.semAt_some

set_option maxHeartbeats 400000 in
theorem CloneI_any (A : Option Addr) (n c : Nat) (xs : List (Int)) (w : World) (h : R E1 w A n c xs) (hn : n ≤ 1000) :
    Calls Try.prog 77 #[.slice A n c] w (ClonePostI xs n w) := by
  have HR := hide h
  have HL := hide h.length
  have hq := fun W : World => Lib.run_eql_slice_nil (P := Try.prog) W 22 3 A n c 0 0 Try.underlying22
  cases A with
  | none =>
    have hn0 : n = 0 := by
      obtain ⟨b, off, hr⟩ := h
      rcases Nat.eq_zero_or_pos n with e | e
      · exact e
      · have := hr.at_ e; cases this
    subst hn0
    have hx0 := h.zero rfl
    have HX := hide hx0
    clear hx0 h
    go_enter Try.func77, Try.ntmps77
    go_wp2_with fail
    go_ret
    exact ⟨none, 0, rfl, by rw [HX.out]; exact Own.nil _ _ _ _, Below.refl _ _⟩
  | some ad =>
    clear h
    go_enter Try.func77, Try.ntmps77
    go_wp2_with (at_builtin; refine wpList_appN (E := E1) _ (.int .i64 0) 8 rfl (.tmp 5) (.tmp 6) 22 3 rfl Try.underlying22 info_int rfl (by decide) (by omega) w.heap.size 0 0 (some ⟨w.heap.size, 0, none⟩) [] ad n c xs rfl rfl (Own.lit w [] (Nat.le_refl _) (by simp)) (HR.out.below ((Below.refl _ w).alloc (Nat.le_refl _) _) (Nat.le_refl _)) (by omega) (by omega) (by simp) ?_; intro A1 c1 w1 hown hb hg; rw [Nat.zero_add] at hown ⊢)
    go_ret
    exact ⟨A1, c1, rfl, by simpa using hown, ((Below.refl _ _).alloc (Nat.le_refl _) _).trans hb⟩

def timL (xs : List Int) (k : Int) : List Int := xs.map fun x => k * x
def timE (xs : List Int) (k : Int) : Int := if errW xs = 0 then (if 1 ≤ k ∧ k ≤ 30 then errW (timL xs k) else 1) else errW xs
def timV (xs : List Int) (k : Int) : List Int := if timE xs k = 0 then timL xs k else []
theorem timE_no {xs : List Int} {k : Int} (h : errW xs ≠ 0) : timE xs k = errW xs := if_neg h
theorem timE_arg {xs : List Int} {k : Int} (h : errW xs = 0) (hk : ¬ (1 ≤ k ∧ k ≤ 30)) : timE xs k = 1 := by unfold timE; rw [if_pos h, if_neg hk]
theorem timE_fine {xs : List Int} {k : Int} (h : errW xs = 0) (hk : 1 ≤ k ∧ k ≤ 30) : timE xs k = errW (timL xs k) := by unfold timE; rw [if_pos h, if_pos hk]
theorem timV_ok {xs : List Int} {k : Int} (h : timE xs k = 0) : timV xs k = timL xs k := if_pos h
theorem timV_no {xs : List Int} {k : Int} (h : timE xs k ≠ 0) : timV xs k = [] := if_neg h
theorem timE_ok {xs : List Int} {k : Int} (h : timE xs k = 0) : errW xs = 0 ∧ (1 ≤ k ∧ k ≤ 30) ∧ errW (timL xs k) = 0 := by
  unfold timE at h
  split at h
  · rename_i h1
    split at h
    · rename_i h2; exact ⟨h1, h2, h⟩
    · omega
  · contradiction
theorem timL_len (xs : List Int) (k : Int) : (timL xs k).length = xs.length := by simp [timL]
theorem timL_of {xs L : List Int} {k : Int} {n : Nat} (hl : xs.length = n) (hL : L.length = n) (h : ∀ i, i < n → L.getD i 0 = if i < n then k * xs.getD i 0 else xs.getD i 0) : L = timL xs k := by
  apply List.ext_getElem
  · rw [timL_len, hL, hl]
  · intro i h1 h2
    have := h i (by omega)
    rw [if_pos (by omega), List.getD_eq_getElem?_getD, List.getD_eq_getElem?_getD, List.getElem?_eq_getElem h1, List.getElem?_eq_getElem (by rw [timL_len] at h2; exact h2)] at this
    simpa [timL] using this
theorem timL_take (xs : List Int) (k : Int) {t : Nat} (h : t < xs.length) : timL (xs.take (t + 1)) k = timL (xs.take t) k ++ [k * xs.getD t 0] := by
  unfold timL
  rw [take_get h, List.map_append]
  rfl
theorem mul30 {k x : Int} (hk : 1 ≤ k ∧ k ≤ 30) (hx : 1 ≤ x ∧ x ≤ 30) : 0 ≤ k * x ∧ k * x ≤ 900 :=
  ⟨Int.mul_nonneg (by omega) (by omega), Int.le_trans (Int.mul_le_mul hk.2 hx.2 (by omega) (by omega)) (by decide)⟩
set_option maxRecDepth 100000 in
set_option maxHeartbeats 4000000 in
theorem Times_any (A : Option Addr) (n c : Nat) (xs : List Int) (k : Int) (w : World) (h : R E1 w A n c xs) :
    Calls Try.prog 52 #[.slice A n c, .int .i64 k] w (RowPost (timE xs k) (timV xs k) w) := by
  have H := hide h
  by_cases he : errW xs = 0
  · have HE := hide he
    have hV := errW_vw.1 he
    by_cases hk : 1 ≤ k ∧ k ≤ 30
    · have HT := hide (timE_fine he hk)
      have hl := h.length
      have hn1 : 1 ≤ n := by rw [← hl]; exact hV.1
      have hn4 : n ≤ 4 := by rw [← hl]; exact hV.2.1
      have HW := hide hV.wt
      have HL := hide hl
      obtain ⟨hk1, hk2⟩ := hk
      clear he hV hl h
      go_enter Try.func52, Try.ntmps52
      go_wp2_with (first
        | (go_at_call 25; refine (Validate_any _ _ _ xs _ H.out).mono ?_; rintro e w1 ⟨rfl, rfl⟩; rw [HE.out])
        | (go_at_call 77; refine (CloneI_any A n c xs _ H.out (by omega)).mono ?_; rintro e w2 ⟨A2, c2, rfl, o2, b2⟩; obtain ⟨g, rfl, hg, hg2, hg3, hg4⟩ := o2.addr (by omega); have O2 := hide o2; have B2 := hide b2; clear o2 b2))
      have hg5 : c2 ≤ 9223372036854775807 := hg4
      clear hg4
      go_loopw [25] (fun i wr => ∃ (t : Nat) (L : List Int), t ≤ n ∧ i = .int .i64 t ∧ Hid (Own E1 wr w.heap.size 3 (some ⟨g, 0, none⟩) n c2 L) ∧ Hid (∀ i, i < n → L.getD i 0 = if i < t then k * xs.getD i 0 else xs.getD i 0) ∧ Hid (Below w.heap.size w wr)) (fun i _ => n - (intOf i).toNat)
      case atStart => exact ⟨0, xs, Nat.zero_le _, rfl, O2, hide (fun i hi => by rw [if_neg (by omega)]), B2⟩
      case round =>
        obtain ⟨t, L, ht, rfl, HO, HK, HB⟩ := hrel
        by_cases hlt : t < n
        · have o1 := own1 HO.out (k := t) (by omega)
          rw [HK.out t hlt, if_neg (by omega)] at o1
          have hfz := HO.out.frozen t
          have hgl := gtl HO.out
          have hLL := HO.out.len
          have HLL := hide hLL
          have hx := HW.out.at_ (k := t) (by rw [HL.out]; exact hlt)
          have hm := mul30 ⟨hk1, hk2⟩ hx
          have HST := hide (show ∀ i, i < n → (L.set t (k * xs.getD t 0)).getD i 0 = if i < t + 1 then k * xs.getD i 0 else xs.getD i 0 from fun i hi => by
            rw [getD_set_pos (by omega)]
            by_cases e : i = t
            · subst e; rw [if_pos rfl, if_pos (by omega)]
            · rw [if_neg e, HK.out i hi]
              by_cases hit : i < t
              · rw [if_pos hit, if_pos (by omega)]
              · rw [if_neg hit, if_neg (by omega)])
          have hwr : IntKind.i64.wrap (xs.getD t 0 * k) = k * xs.getD t 0 := by rw [Int.mul_comm]; exact IntWalk.i64_in _ (by omega)
          have htn : (t : Int) < (n : Int) := by omega
          generalize xs.getD t 0 = x at *
          generalize k * x = kx at *
          clear hLL hx
          go_wp2_with fail
          go_roundw
          case rel => exact ⟨t + 1, L.set t kx, by omega, by go_num, hide (HO.out.stored1 (by omega) kx), HST, hide (HB.out.setCell hg _)⟩
          case measure => simp [intOf]; omega
        · obtain rfl : t = n := by omega
          have hL := timL_of HL.out HO.out.len HK.out
          rw [hL] at HO
          by_cases ht0 : errW (timL xs k) = 0
          · have HT0 := hide ht0
            have HTV := hide (timV_ok (HT.out.trans ht0))
            clear ht0
            go_wp2_with (go_at_call 25; refine (Validate_any _ _ _ (timL xs k) _ HO.out.row).mono ?_; rintro e w1 ⟨rfl, rfl⟩; rw [HT0.out])
            go_ret2
            exact ⟨_, _, _, by rw [HT.out, HT0.out]; rfl, by rw [HTV.out]; exact HO.out, HB.out⟩
          · have HTV := hide (timV_no (xs := xs) (k := k) (by rw [HT.out]; exact ht0))
            have hne : (errW (timL xs k) != 0) = true := by simpa using ht0
            clear ht0
            go_wp2_with (go_at_call 25; refine (Validate_any _ _ _ (timL xs k) _ HO.out.row).mono ?_; rintro e w1 ⟨rfl, rfl⟩)
            go_ret2
            exact ⟨none, 0, 0, by rw [HT.out]; rfl, by rw [HTV.out]; exact Own.nil _ _ _ _, HB.out⟩
    · have HT := hide (timE_arg he hk)
      have HTV := hide (timV_no (xs := xs) (k := k) (by rw [timE_arg he hk]; decide))
      clear he hV h
      by_cases hk1 : k < 1
      · clear hk
        go_enter Try.func52, Try.ntmps52
        go_wp2_with (go_at_call 25; refine (Validate_any _ _ _ xs _ H.out).mono ?_; rintro e w1 ⟨rfl, rfl⟩; rw [HE.out])
        go_ret2
        exact ⟨none, 0, 0, by rw [HT.out]; rfl, by rw [HTV.out]; exact Own.nil _ _ _ _, Below.refl _ _⟩
      · have hk2 : 30 < k := by omega
        clear hk
        go_enter Try.func52, Try.ntmps52
        go_wp2_with (go_at_call 25; refine (Validate_any _ _ _ xs _ H.out).mono ?_; rintro e w1 ⟨rfl, rfl⟩; rw [HE.out])
        go_ret2
        exact ⟨none, 0, 0, by rw [HT.out]; rfl, by rw [HTV.out]; exact Own.nil _ _ _ _, Below.refl _ _⟩
  · have HT := hide (timE_no (k := k) he)
    have HTV := hide (timV_no (xs := xs) (k := k) (by rw [timE_no he]; exact he))
    have hne : (errW xs != 0) = true := by simpa using he
    clear he h
    go_enter Try.func52, Try.ntmps52
    go_wp2_with (go_at_call 25; refine (Validate_any _ _ _ xs _ H.out).mono ?_; rintro e w1 ⟨rfl, rfl⟩)
    go_ret2
    exact ⟨none, 0, 0, by rw [HT.out]; rfl, by rw [HTV.out]; exact Own.nil _ _ _ _, Below.refl _ _⟩
set_option maxRecDepth 100000 in
set_option maxHeartbeats 4000000 in
theorem rTimes_any (A : Option Addr) (n c : Nat) (xs : List Int) (k : Int) (w : World) (h : R E1 w A n c xs) :
    Calls Try.prog 53 #[.slice A n c, .int .i64 k] w (RowPost (timE xs k) (timV xs k) w) := by
  have H := hide h
  by_cases he : errW xs = 0
  · have HE := hide he
    have hV := errW_vw.1 he
    by_cases hk : 1 ≤ k ∧ k ≤ 30
    · have HT := hide (timE_fine he hk)
      have HWI := hide (show withinB k 1 30 = true from by simp [withinB, hk])
      have hl := h.length
      have hn1 : 1 ≤ n := by rw [← hl]; exact hV.1
      have hn4 : n ≤ 4 := by rw [← hl]; exact hV.2.1
      have HW := hide hV.wt
      have HL := hide hl
      have HRG := hide (errW_times he k)
      obtain ⟨hk1, hk2⟩ := hk
      obtain ⟨b, off, hr⟩ := h
      obtain rfl := hr.at_ (by omega)
      have hbl := hr.lt (by omega)
      have HRR := hide hr
      clear he hV hl hr
      go_enter Try.func53, Try.ntmps53
      go_wp2_with (first
        | (go_at_call 26; refine (rValidate_any _ _ _ xs _ H.out).mono ?_; rintro e w1 ⟨rfl, q1, rfl⟩; rw [HE.out])
        | (go_at_call 59; refine (within_any k 1 30 _).mono ?_; rintro e w2 ⟨rfl, rfl⟩; rw [HWI.out]))
      go_loopw [7, 8] (fun v i wr => ∃ (t : Nat) (B : Option Addr) (q : Nat), t ≤ n ∧ i = .int .i64 t ∧ v = .slice B t q ∧ Hid (Own E1 wr w.heap.size 3 B t q (timL (xs.take t) k)) ∧ Hid (Below w.heap.size w wr)) (fun _ i _ => n - (intOf i).toNat)
      case atStart => exact ⟨0, none, 0, Nat.zero_le _, rfl, rfl, hide (Own.nil E1 _ _ _), hide (below_drewN (Below.refl _ _) q1)⟩
      case round =>
        obtain ⟨t, B, q, ht, rfl, rfl, HO, HB⟩ := hrel
        by_cases hlt : t < n
        · have a1 := c1 (HRR.out.under HB.out fun _ => hbl) (k := t) (by omega)
          have hx := HW.out.at_ (k := t) (by rw [HL.out]; exact hlt)
          have hm := mul30 ⟨hk1, hk2⟩ hx
          have HST := hide (timL_take xs k (t := t) (by rw [HL.out]; exact hlt))
          have hwr : IntKind.i64.wrap (k * xs.getD t 0) = k * xs.getD t 0 := IntWalk.i64_in _ (by omega)
          have htn : (t : Int) < (n : Int) := by omega
          have hsz := HB.out.size
          generalize xs.getD t 0 = x at *
          clear hx
          go_wp2_with (at_builtin; refine wpList_app1 (E := E1) wr (.int .i64 0) 8 rfl (.tmp 23) (.tmp 30) 22 3 rfl Try.underlying22 info_int rfl (by decide) (by omega) w.heap.size t q B _ (k * x : Int) _ rfl rfl rfl HO.out (by omega) hsz ?_; intro A5 c5 w5 o5 b5 g5; have HO5 := hide o5; have B5 := hide (HB.out.trans b5); clear o5 b5 g5)
          go_roundw
          case rel => exact ⟨t + 1, A5, c5, by omega, by go_num, rfl, hide (by rw [HST.out]; exact HO5.out), B5⟩
          case measure => simp [intOf]; omega
        · obtain rfl : t = n := by omega
          have hL : xs.take t = xs := by rw [← HL.out]; exact List.take_length
          rw [hL] at HO
          by_cases ht0 : errW (timL xs k) = 0
          · have HT0 := hide ht0
            have HTV := hide (timV_ok (HT.out.trans ht0))
            clear ht0
            go_wp2_with (go_at_call 26; refine (rValidate_any _ _ _ (timL xs k) _ HO.out.row).mono ?_; rintro e w1 ⟨rfl, q2, rfl⟩; rw [HT0.out])
            go_ret2
            exact ⟨_, _, _, by rw [HT.out, HT0.out]; rfl, by rw [HTV.out]; exact HO.out.drewN _, below_drewN HB.out q2⟩
          · have HTV := hide (timV_no (xs := xs) (k := k) (by rw [HT.out]; exact ht0))
            have h1 : errW (timL xs k) = 1 := by
              rcases HRG.out with h | h
              · exact absurd h ht0
              · exact h
            have H1 := hide h1
            clear ht0 h1
            go_wp2_with (go_at_call 26; refine (rValidate_any _ _ _ (timL xs k) _ HO.out.row).mono ?_; rintro e w1 ⟨rfl, q2, rfl⟩; rw [H1.out])
            go_ret2
            exact ⟨none, 0, 0, by rw [HT.out, H1.out]; rfl, by rw [HTV.out]; exact Own.nil _ _ _ _, below_drewN HB.out q2⟩
    · have HT := hide (timE_arg he hk)
      have HTV := hide (timV_no (xs := xs) (k := k) (by rw [timE_arg he hk]; decide))
      have HWI := hide (show withinB k 1 30 = false from by simp [withinB]; omega)
      clear he hV h
      go_enter Try.func53, Try.ntmps53
      go_wp2_with (first
        | (go_at_call 26; refine (rValidate_any _ _ _ xs _ H.out).mono ?_; rintro e w1 ⟨rfl, q1, rfl⟩; rw [HE.out])
        | (go_at_call 59; refine (within_any k 1 30 _).mono ?_; rintro e w2 ⟨rfl, rfl⟩; rw [HWI.out]))
      go_ret2
      exact ⟨none, 0, 0, by rw [HT.out]; rfl, by rw [HTV.out]; exact Own.nil _ _ _ _, below_drewN (Below.refl _ _) q1⟩
  · have HT := hide (timE_no (k := k) he)
    have HTV := hide (timV_no (xs := xs) (k := k) (by rw [timE_no he]; exact he))
    have hne : (errW xs != 0) = true := by simpa using he
    clear he h
    go_enter Try.func53, Try.ntmps53
    go_wp2_with (go_at_call 26; refine (rValidate_any _ _ _ xs _ H.out).mono ?_; rintro e w1 ⟨rfl, q1, rfl⟩)
    go_ret2
    exact ⟨none, 0, 0, by rw [HT.out]; rfl, by rw [HTV.out]; exact Own.nil _ _ _ _, below_drewN (Below.refl _ _) q1⟩
end Go.Proofs.Ytlhlcchimammlaa
