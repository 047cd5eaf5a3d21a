/- Walks: places of sets are looked for in rows. -/
import Derived.Test.YtkjnhdkbojcojaaWalkJ
namespace Go.Proofs.Ytkjnhdkbojcojaa
open Go.RowKit Go.Shelf
attribute [local go_sem] Oper.semAt_some

set_option maxRecDepth 100000 in
set_option maxHeartbeats 4000000 in
theorem idxS_find (g : Nat) (q : Nat) (p : Nat → Bool) (P : Nat → Prop) {w : World} {B n c : Nat} {A : Option Addr} {hs : List (Nat × Hd)} {V : Pl Nat} (h : Pls (ESet g) w B 127 A n c hs V) (hn : n ≤ 1000) (hP : ∀ k, k < n → P (V.getD k (0, [])).1)
    (HF : ∀ x hd w', P x → Below w.heap.size w w' → Calls Try.prog 127 #[.agg (placeA g x hd), .pointer (some ⟨q, 0, none⟩)] w' fun e w'' => e = .returned (.bool (p x)) ∧ Below w'.heap.size w' w'') :
    Calls Try.prog 104 #[.slice A n c, .func (.func 127) #[] #[.pointer (some ⟨q, 0, none⟩)]] w fun e w' => e = .returned (.int .i64 (idxP V p)) ∧ Below w.heap.size w w' := by
  have HFF := hide HF
  have HH := hide h
  have HPP := hide hP
  have HLV := hide h.len
  have hlc : n ≤ c ∧ c ≤ 9223372036854775807 := by
    obtain ⟨b0, o0, hr0⟩ := h.own.row
    exact ⟨hr0.cap, hr0.max⟩
  have hc1 := hlc.1
  have hc2 := hlc.2
  clear h hP HF hlc
  go_enter Try.func104, Try.ntmps104
  go_wp2_with fail
  go_loopw [8] (fun i wr => ∃ k : Nat, k ≤ n ∧ i = .int .i64 k ∧ Hid (Below w.heap.size w wr) ∧ Hid (∀ j, j < k → p (V.getD j (0, [])).1 = false)) (fun i _ => n - (intOf i).toNat)
  case atStart => exact ⟨0, Nat.zero_le _, rfl, hide (Below.refl _ _), hide (by omega)⟩
  case round =>
    obtain ⟨k, hk, rfl, HBL, HJ⟩ := hrel
    by_cases hlt : k < n
    · have i1 : (k : Int) < (n : Int) := by omega
      obtain ⟨g0, rfl, _⟩ := HH.out.own.addr (by omega)
      have hcs := cPlS (HH.out.own.rowAt.below HBL.out (Nat.le_refl _)) hlt
      simp only [Nat.zero_add] at hcs
      have HX := hide (show (hs.getD k (EPl (ESet g)).d).1 = (V.getD k (0, [])).1 from HH.out.node hlt)
      have HPK := hide (HPP.out k hlt)
      rw [← HX.out] at HPK
      have HS := hide (fun (hp : p (V.getD k (0, [])).1 = true) => idx_some (p := p) (d := 0) (by rw [HLV.out]; exact hlt) hp HJ.out)
      have HSJ := hide (fun (hp : p (V.getD k (0, [])).1 = false) => (show ∀ j, j < k + 1 → p (V.getD j (0, [])).1 = false from fun j hj => by
        by_cases e : j = k
        · subst e; exact hp
        · exact HJ.out j (by omega)))
      rw [← HX.out] at HS HSJ
      generalize hs.getD k (EPl (ESet g)).d = y at *
      cases hpy : p y.1 with
      | true =>
        have HPY := hide hpy
        clear hpy
        go_wp2_with (go_at_call 127; refine (HFF.out y.1 y.2 _ HPK.out HBL.out).mono ?_; rintro e w5 ⟨rfl, b5⟩; rw [HPY.out])
        go_ret
        exact ⟨ret_i64 (HS.out HPY.out).symm, HBL.out.trans (b5.mono HBL.out.size)⟩
      | false =>
        have HPY := hide hpy
        clear hpy
        go_wp2_with (go_at_call 127; refine (HFF.out y.1 y.2 _ HPK.out HBL.out).mono ?_; rintro e w5 ⟨rfl, b5⟩; rw [HPY.out])
        go_roundw
        case rel => exact ⟨k + 1, by omega, by go_num, hide (HBL.out.trans (b5.mono HBL.out.size)), hide (HSJ.out HPY.out)⟩
        case measure => simp [intOf]; omega
    · obtain rfl : k = n := by omega
      have HNO := hide (idx_none (p := p) (d := 0) (V := V) (by rw [HLV.out]; exact HJ.out))
      go_wp2_with fail
      go_ret
      exact ⟨ret_i64 HNO.out.symm, HBL.out⟩
set_option maxRecDepth 100000 in
set_option maxHeartbeats 4000000 in
theorem idxS_first (g : Nat) (q : Nat) (p : Nat → Bool) (P : Nat → Prop) {w : World} {B n c : Nat} {A : Option Addr} {hs : List (Nat × Hd)} {V : Pl Nat} (h : Pls (ESet g) w B 127 A n c hs V) (hn : n ≤ 1000) (hP : ∀ k, k < n → P (V.getD k (0, [])).1)
    (HF : ∀ x hd w', P x → Below w.heap.size w w' → Calls Try.prog 105 #[.agg (placeA g x hd), .pointer (some ⟨q, 0, none⟩)] w' fun e w'' => e = .returned (.bool (p x)) ∧ Below w'.heap.size w' w'') :
    Calls Try.prog 104 #[.slice A n c, .func (.func 105) #[] #[.pointer (some ⟨q, 0, none⟩)]] w fun e w' => e = .returned (.int .i64 (idxP V p)) ∧ Below w.heap.size w w' := by
  have HFF := hide HF
  have HH := hide h
  have HPP := hide hP
  have HLV := hide h.len
  have hlc : n ≤ c ∧ c ≤ 9223372036854775807 := by
    obtain ⟨b0, o0, hr0⟩ := h.own.row
    exact ⟨hr0.cap, hr0.max⟩
  have hc1 := hlc.1
  have hc2 := hlc.2
  clear h hP HF hlc
  go_enter Try.func104, Try.ntmps104
  go_wp2_with fail
  go_loopw [8] (fun i wr => ∃ k : Nat, k ≤ n ∧ i = .int .i64 k ∧ Hid (Below w.heap.size w wr) ∧ Hid (∀ j, j < k → p (V.getD j (0, [])).1 = false)) (fun i _ => n - (intOf i).toNat)
  case atStart => exact ⟨0, Nat.zero_le _, rfl, hide (Below.refl _ _), hide (by omega)⟩
  case round =>
    obtain ⟨k, hk, rfl, HBL, HJ⟩ := hrel
    by_cases hlt : k < n
    · have i1 : (k : Int) < (n : Int) := by omega
      obtain ⟨g0, rfl, _⟩ := HH.out.own.addr (by omega)
      have hcs := cPlS (HH.out.own.rowAt.below HBL.out (Nat.le_refl _)) hlt
      simp only [Nat.zero_add] at hcs
      have HX := hide (show (hs.getD k (EPl (ESet g)).d).1 = (V.getD k (0, [])).1 from HH.out.node hlt)
      have HPK := hide (HPP.out k hlt)
      rw [← HX.out] at HPK
      have HS := hide (fun (hp : p (V.getD k (0, [])).1 = true) => idx_some (p := p) (d := 0) (by rw [HLV.out]; exact hlt) hp HJ.out)
      have HSJ := hide (fun (hp : p (V.getD k (0, [])).1 = false) => (show ∀ j, j < k + 1 → p (V.getD j (0, [])).1 = false from fun j hj => by
        by_cases e : j = k
        · subst e; exact hp
        · exact HJ.out j (by omega)))
      rw [← HX.out] at HS HSJ
      generalize hs.getD k (EPl (ESet g)).d = y at *
      cases hpy : p y.1 with
      | true =>
        have HPY := hide hpy
        clear hpy
        go_wp2_with (go_at_call 105; refine (HFF.out y.1 y.2 _ HPK.out HBL.out).mono ?_; rintro e w5 ⟨rfl, b5⟩; rw [HPY.out])
        go_ret
        exact ⟨ret_i64 (HS.out HPY.out).symm, HBL.out.trans (b5.mono HBL.out.size)⟩
      | false =>
        have HPY := hide hpy
        clear hpy
        go_wp2_with (go_at_call 105; refine (HFF.out y.1 y.2 _ HPK.out HBL.out).mono ?_; rintro e w5 ⟨rfl, b5⟩; rw [HPY.out])
        go_roundw
        case rel => exact ⟨k + 1, by omega, by go_num, hide (HBL.out.trans (b5.mono HBL.out.size)), hide (HSJ.out HPY.out)⟩
        case measure => simp [intOf]; omega
    · obtain rfl : k = n := by omega
      have HNO := hide (idx_none (p := p) (d := 0) (V := V) (by rw [HLV.out]; exact HJ.out))
      go_wp2_with fail
      go_ret
      exact ⟨ret_i64 HNO.out.symm, HBL.out⟩
end Go.Proofs.Ytkjnhdkbojcojaa
