/- The document's Covered and Spells. -/
import Derived.Test.YtpkjgnllkaafkaaWalkMw
import Derived.Test.YtpkjgnllkaafkaaMA
namespace Go.Proofs.Ytpkjgnllkaafkaa
open Go.RowKit

def covV (xs : Ls) : Int := if errV xs = 0 then (covN xs 1000 : Nat) else 0
theorem covV_ok {xs : Ls} (h : errV xs = 0) : covV xs = (covN xs 1000 : Nat) := by unfold covV; rw [if_pos h]
theorem covV_no {xs : Ls} (h : errV xs ≠ 0) : covV xs = 0 := by unfold covV; rw [if_neg h]
def CvPost (xs : Ls) (w : World) (e : Ending) (w' : World) : Prop := e = .returned (.tuple #[.int .i64 (covV xs), .int .i64 (errV xs)]) ∧ Below w.heap.size w w'
theorem covB_pos {xs : Ls} {m : Int} (h : 0 < cnt xs m) : covB xs m = true := by rw [covB_cnt]; exact decide_eq_true h
theorem covB_nil {xs : Ls} {m : Int} (h : ¬ 0 < cnt xs m) : covB xs m = false := by rw [covB_cnt]; exact decide_eq_false h

set_option maxHeartbeats 1000000 in
theorem rCovered_any (A : Option Addr) (n c : Nat) (xs : Ls) (w : World) (h : R E3 w A n c xs) (hn : n ≤ 1000) :
    Calls Try.prog 46 #[.slice A n c] w (CvPost xs w) := by
  by_cases he : errV xs = 0
  · have HE := hide he
    clear he
    go_enter Try.func46, Try.ntmps46
    go_wp2_with (first | (go_at_call 24; refine (rValidate_any _ _ _ xs _ h hn).mono ?_; rintro e w1 ⟨rfl, b1⟩; rw [HE.out]; have HB1 := hide b1; clear b1))
    go_loopw [5, 6] (fun a i wr => ∃ k : Nat, k ≤ 1000 ∧ i = .int .i64 k ∧ a = .int .i64 (covN xs k : Nat) ∧ Hid (Below w.heap.size w wr)) (fun _ i _ => 1000 - (intOf i).toNat)
    case atStart => exact ⟨0, by omega, rfl, rfl, HB1⟩
    case round =>
      clear HB1
      obtain ⟨k, hk, rfl, rfl, HB⟩ := hrel
      by_cases hlt : k < 1000
      · have hlt' : (k : Int) < 1000 := by omega
        have hsz := HB.out.size
        have HC := hide (runIx_len xs k)
        have hcl := covN_le xs k
        by_cases hc : 0 < cnt xs k
        · have HS1 := hide (covN_yes (l := xs) (n := k) (covB_pos hc))
          generalize covN xs k = cv at *
          go_wp2_with (first | (go_at_call 65; refine (rrunning_any _ _ _ xs _ _ (h.below HB.out (Nat.le_refl _)) hn).mono ?_; rintro e w2 ⟨A2, n2, c2, rfl, o2, b2⟩; have hl := o2.len; rw [HC.out] at hl; subst hl))
          all_goals first
            | omega
            | (go_roundw
               case rel => exact ⟨k + 1, by omega, by go_num, by rw [HS1.out]; rfl, hide (HB.out.trans (b2.mono hsz))⟩
               case measure => simp [intOf]; omega)
        · have HS1 := hide (covN_no (l := xs) (n := k) (covB_nil hc))
          generalize covN xs k = cv at *
          go_wp2_with (first | (go_at_call 65; refine (rrunning_any _ _ _ xs _ _ (h.below HB.out (Nat.le_refl _)) hn).mono ?_; rintro e w2 ⟨A2, n2, c2, rfl, o2, b2⟩; have hl := o2.len; rw [HC.out] at hl; subst hl))
          all_goals first
            | omega
            | (go_roundw
               case rel => exact ⟨k + 1, by omega, by go_num, by rw [HS1.out], hide (HB.out.trans (b2.mono hsz))⟩
               case measure => simp [intOf]; omega)
      · obtain rfl : k = 1000 := by omega
        have HV := hide (covV_ok HE.out)
        generalize covN xs 1000 = cv at *
        go_wp2_with fail
        go_ret2
        exact ⟨by rw [HV.out, HE.out]; rfl, HB.out⟩
  · have HV := hide (covV_no he)
    have hne : (errV xs != 0) = true := by simpa using he
    clear he
    go_enter Try.func46, Try.ntmps46
    go_wp2_with (first | (go_at_call 24; refine (rValidate_any _ _ _ xs _ h hn).mono ?_; rintro e w1 ⟨rfl, b1⟩))
    go_ret2
    exact ⟨by rw [HV.out]; rfl, b1⟩

/-- The spells, and an error. -/
def SpPost (xs : Ls) (w : World) (e : Ending) (w' : World) : Prop :=
  ∃ (A : Option Addr) (n c : Nat) (P : Ls), e = .returned (.tuple #[.slice A n c, .int .i64 (errV xs)]) ∧ (errV xs = 0 → ∀ Q, SpellsOf xs Q → P = Q) ∧ (errV xs ≠ 0 → P = []) ∧ Own E3 w' w.heap.size 57 A n c P ∧ Below w.heap.size w w'
theorem set_last {Q : Ls} {s t : Sh} : (Q ++ [s]).set Q.length t = Q ++ [t] := by
  rw [List.set_append_right _ _ (Nat.le_refl _), Nat.sub_self]; rfl
theorem get_last {Q : Ls} {s : Sh} : (Q ++ [s]).getD Q.length sh0 = s := by
  rw [List.getD_eq_getElem?_getD, List.getElem?_append_right (Nat.le_refl _), Nat.sub_self]; rfl
theorem Own.ended {w : World} {B n c g : Nat} {e : TypeId} {Q : Ls} {f v : Int} (h : Own E3 w B e (some ⟨g, 0, none⟩) n c (Q ++ [(f, 0, 0)])) :
    Own E3 (w.setCell ⟨g, Q.length * 3 + 1, none⟩ (.int .i64 v)) B e (some ⟨g, 0, none⟩) n c (Q ++ [(f, v, 0)]) := by
  have hl := h.len
  rw [List.length_append] at hl
  have h1 := h.stored (k := Q.length) (j := 1) (by simp at hl; omega) (by decide) (.int .i64 v) (f, v, 0) (by
    have e : (Q ++ [(f, (0 : Int), (0 : Int))]).getD Q.length E3.d = (f, 0, 0) := get_last
    rw [e]; rfl)
  rw [set_last] at h1
  exact h1

set_option maxHeartbeats 3000000 in
theorem rSpells_any (A : Option Addr) (n c : Nat) (xs : Ls) (w : World) (h : R E3 w A n c xs) (hn : n ≤ 1000) :
    Calls Try.prog 48 #[.slice A n c] w (SpPost xs w) := by
  by_cases he : errV xs = 0
  · have HE := hide he
    have HOK := hide (errV_ok.1 he).2
    clear he
    go_enter Try.func48, Try.ntmps48
    go_wp2_with (first | (go_at_call 24; refine (rValidate_any _ _ _ xs _ h hn).mono ?_; rintro e w1 ⟨rfl, b1⟩; rw [HE.out]; have HB1 := hide b1; clear b1))
    go_loopw [5, 6, 7] (fun v b i wr => ∃ (k : Nat) (Ap : Option Addr) (p q : Nat) (P : Ls) (now : Bool), k ≤ 1001 ∧ i = .int .i64 k ∧ v = .slice Ap p q ∧ b = .bool now ∧ Hid (SpTo xs k P now) ∧ Hid (Own E3 wr w.heap.size 57 Ap p q P) ∧ Hid (Below w.heap.size w wr)) (fun _ _ i _ => 1001 - (intOf i).toNat)
    case atStart => exact ⟨0, none, 0, 0, [], false, by omega, rfl, rfl, rfl, hide (spTo_zero HOK.out), hide (Own.nil _ _ _ _), HB1⟩
    case round =>
      clear HB1
      obtain ⟨k, Ap, p, q, P, now, hk, rfl, rfl, rfl, HT, HO, HB⟩ := hrel
      by_cases hlt : k < 1001
      · have hlt' : (k : Int) ≤ 1000 := by omega
        have hsz := HB.out.size
        have HC := hide (runIx_len xs k)
        have hp2 : p ≤ 2000 := by have h1 := spTo_len HT.out; have h2 := HO.out.len; omega
        by_cases hc : 0 < cnt xs k
        · have HCB := hide (covB_pos hc)
          cases now with
          | true =>
            have HT1 := hide (spTo_go HT.out HCB.out)
            go_wp2_with (first | (go_at_call 65; refine (rrunning_any _ _ _ xs _ _ (h.below HB.out (Nat.le_refl _)) hn).mono ?_; rintro e w2 ⟨A2, n2, c2, rfl, o2, b2⟩; have hl := o2.len; rw [HC.out] at hl; subst hl))
            all_goals first
              | omega
              | (go_roundw
                 case rel => exact ⟨k + 1, Ap, p, q, P, true, by omega, by go_num, rfl, rfl, HT1, hide (HO.out.below b2 (Nat.le_refl _)), hide (HB.out.trans (b2.mono hsz))⟩
                 case measure => simp [intOf]; omega)
          | false =>
            have HT1 := hide (spTo_start HT.out HCB.out)
            go_wp2_with (first
              | (go_at_call 65; refine (rrunning_any _ _ _ xs _ _ (h.below HB.out (Nat.le_refl _)) hn).mono ?_; rintro e w2 ⟨A2, n2, c2, rfl, o2, b2⟩; have hl := o2.len; rw [HC.out] at hl; subst hl; have HO2 := hide (HO.out.below b2 (Nat.le_refl _)); have HB2 := hide (HB.out.trans (b2.mono hsz)); have hs2 := HB2.out.size; clear b2 o2)
              | (at_builtin; refine wpList_app1 (E := E3) _ (.agg #[.int .i64 0, .int .i64 0, .int .i64 0]) 24 rfl (.tmp 28) (.tmp 31) 22 57 rfl Try.underlying22 info_shift rfl (by decide) (by omega) w.heap.size _ _ _ _ (((k : Int), 0, 0) : Sh) _ rfl rfl rfl HO2.out (by omega) hs2 ?_; intro A5 c5 w5 o5 b5 g5))
            all_goals first
              | omega
              | (go_roundw
                 case rel => exact ⟨k + 1, A5, p + 1, c5, _, true, by omega, by go_num, rfl, rfl, HT1, hide o5, hide (HB2.out.trans b5)⟩
                 case measure => simp [intOf]; omega)
        · have HCB := hide (covB_nil hc)
          cases now with
          | true =>
            obtain ⟨Q, f, rfl, ht⟩ := spTo_end (by omega) HT.out HCB.out
            have HT1 := hide ht
            clear ht
            have hpl := HO.out.len
            rw [List.length_append] at hpl
            simp only [List.length_cons, List.length_nil] at hpl
            obtain ⟨u, hu⟩ : ∃ u, u = Q.length := ⟨_, rfl⟩
            obtain ⟨g, rfl, hg1, hg2, hg3, hg4⟩ := HO.out.addr (by omega)
            have hg4' : q ≤ 9223372036854775807 := hg4
            have HEN := hide (fun W (hh : Own E3 W w.heap.size 57 (some ⟨g, 0, none⟩) p q (Q ++ [(f, 0, 0)])) (v : Int) => hh.ended (v := v))
            rw [← hu] at HEN hpl
            obtain rfl : p = u + 1 := by omega
            clear hpl hu hg4
            have hw1 : ((u + 1 : Nat) : Int) - 1 = (u : Int) := by omega
            go_wp2_with (first | (go_at_call 65; refine (rrunning_any _ _ _ xs _ _ (h.below HB.out (Nat.le_refl _)) hn).mono ?_; rintro e w2 ⟨A2, n2, c2, rfl, o2, b2⟩; have hl := o2.len; rw [HC.out] at hl; subst hl; have HO2 := hide (HO.out.below b2 (Nat.le_refl _)); have HB2 := hide (HB.out.trans (b2.mono hsz)); have hs2 := HB2.out.size; have hgl2 : g < w2.heap.size := (by have := b2.size; omega); obtain ⟨d1, d2, d3⟩ := own3 HO2.out (k := u) (by omega); have f3 := HO2.out.frozen (u * 3 + 1); clear b2 o2))
            all_goals first
              | omega
              | (go_roundw
                 case rel => exact ⟨k + 1, _, u + 1, q, _, false, by omega, by go_num, rfl, rfl, HT1, hide (HEN.out _ HO2.out _), hide (HB2.out.setCell (by simp; omega) _)⟩
                 case measure => simp [intOf]; omega)
          | false =>
            have HT1 := hide (spTo_out HT.out HCB.out)
            go_wp2_with (first | (go_at_call 65; refine (rrunning_any _ _ _ xs _ _ (h.below HB.out (Nat.le_refl _)) hn).mono ?_; rintro e w2 ⟨A2, n2, c2, rfl, o2, b2⟩; have hl := o2.len; rw [HC.out] at hl; subst hl))
            all_goals first
              | omega
              | (go_roundw
                 case rel => exact ⟨k + 1, Ap, p, q, P, false, by omega, by go_num, rfl, rfl, HT1, hide (HO.out.below b2 (Nat.le_refl _)), hide (HB.out.trans (b2.mono hsz))⟩
                 case measure => simp [intOf]; omega)
      · obtain rfl : k = 1001 := by omega
        go_wp2_with fail
        go_ret2
        exact ⟨Ap, p, q, P, by rw [HE.out]; rfl, fun _ Q hQ => spTo_done HOK.out HT.out hQ, fun h => absurd HE.out h, HO.out, HB.out⟩
  · have HE := hide he
    have hne : (errV xs != 0) = true := by simpa using he
    clear he
    go_enter Try.func48, Try.ntmps48
    go_wp2_with (first | (go_at_call 24; refine (rValidate_any _ _ _ xs _ h hn).mono ?_; rintro e w1 ⟨rfl, b1⟩))
    go_ret2
    exact ⟨none, 0, 0, [], rfl, fun h => absurd h HE.out, fun _ => rfl, Own.nil _ _ _ _, b1⟩
end Go.Proofs.Ytpkjgnllkaafkaa
