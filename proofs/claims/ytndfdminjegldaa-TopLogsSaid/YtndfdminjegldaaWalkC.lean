/- Walks: a new table. -/
import Derived.Test.YtndfdminjegldaaWalkB
namespace Go.Proofs.Ytndfdminjegldaa
open Go.RowKit Go.Shelf
attribute [local go_sem] Oper.semAt_some

theorem Own.storedH {w : World} {B n c g : Nat} {e : TypeId} {L : List Hd} (h : Own EH w B e (some ⟨g, 0, none⟩) n c L) {k : Nat} (hk : k < n) (A : Option Addr) (a b : Nat) :
    Own EH (w.setCell ⟨g, k, none⟩ (.slice A a b)) B e (some ⟨g, 0, none⟩) n c (L.set k (A, a, b)) := by
  have h1 := h.stored (j := 0) hk (by decide) (.slice A a b) (A, a, b) rfl
  rw [show k * EH.size + 0 = k from Nat.mul_one k] at h1
  exact h1
theorem hdrs_of {L : List Hd} {gC R C : Nat} (hl : L.length = R) (h : ∀ k, k < R → L.getD k EH.d = hdr gC C k) : L = hdrs gC R C := by
  apply List.ext_getElem (by rw [hl, hdrs_len])
  intro i h1 h2
  have := h i (by omega)
  rw [List.getD_eq_getElem?_getD, List.getElem?_eq_getElem h1] at this
  simpa [hdrs] using this
def ZerPost (Rw C : Nat) (w : World) (e : Ending) (w' : World) : Prop :=
  ∃ gO gC, e = .returned (.slice (some ⟨gO, 0, none⟩) Rw Rw) ∧ Tab w' w.heap.size gO gC Rw C (List.replicate (Rw * C) 0) ∧ Below w.heap.size w w'
set_option maxRecDepth 100000 in
set_option maxHeartbeats 4000000 in
theorem zeros_any (Rw C : Nat) (w : World) (hR : 1 ≤ Rw) (hR2 : Rw ≤ 11) (hC : 1 ≤ C) (hC2 : C ≤ 11) :
    Calls Try.prog 67 #[.int .i64 Rw, .int .i64 C] w (ZerPost Rw C w) := by
  have hRC : Rw * C ≤ 11 * 11 := Nat.mul_le_mul hR2 hC2
  obtain ⟨N, hN⟩ : ∃ N, Rw * C = N := ⟨_, rfl⟩
  have HN := hide hN
  rw [hN] at hRC
  have hmw : IntKind.i64.wrap ((Rw : Int) * (C : Int)) = (N : Int) := by rw [← Int.natCast_mul, hN]; exact IntWalk.i64_in _ (by omega)
  go_enter Try.func67, Try.ntmps67
  go_wp2_with (first
    | (at_make; refine wpList_mkE (E := E1) _ rfl (.tmp 12) (.tmp 12) 22 3 rfl Try.underlying22 (.int .i64 0) 0 8 info_int (by decide) rfl rfl rfl w.heap.size N rfl rfl (by omega) (Nat.le_refl _) ?_; intro w1 o1 b1 s1; have O1 := hide o1; have B1 := hide b1; clear o1 b1)
    | (at_make; refine wpList_mkE (E := EH) w1 rfl (.tmp 14) (.tmp 14) 40 22 rfl Try.underlying40 (.slice none 0 0) (none, 0, 0) 24 info_row (by decide) rfl rfl rfl w.heap.size Rw rfl rfl (by omega) B1.out.size ?_; intro w2 o2 b2 s2; have O2 := hide o2; have B2 := hide (le_call B1.out b2); have O12 := hide (O1.out.below b2 (Nat.le_refl _)); clear o2 b2))
  have hgC : w.heap.size < w1.heap.size := s1
  clear hmw
  go_loopw [18] (fun i wr => ∃ (t : Nat) (L : List Hd), t ≤ Rw ∧ i = .int .i64 t ∧ Hid (Own EH wr w.heap.size 22 (some ⟨w1.heap.size, 0, none⟩) Rw Rw L) ∧ Hid (Own E1 wr w.heap.size 3 (some ⟨w.heap.size, 0, none⟩) N N (List.replicate N 0)) ∧ Hid (∀ k, k < t → L.getD k EH.d = hdr w.heap.size C k) ∧ Hid (Below w.heap.size w wr)) (fun i _ => Rw - (intOf i).toNat)
  case atStart => exact ⟨0, _, Nat.zero_le _, rfl, O2, O12, hide (fun k hk => by omega), B2⟩
  case round =>
    obtain ⟨t, L, ht, rfl, HO, HC, HK, HB⟩ := hrel
    by_cases hlt : t < Rw
    · have hfz := HO.out.frozen t
      have hgl := gtl HO.out
      have hLL := HO.out.len
      have old := ownH HO.out hlt
      have htC : (t + 1) * C ≤ Rw * C := Nat.mul_le_mul_right _ hlt
      rw [HN.out, Nat.add_mul, Nat.one_mul] at htC
      obtain ⟨q, hq⟩ : ∃ q, t * C = q := ⟨_, rfl⟩
      rw [hq] at htC
      have HQ := hide hq
      have hw1 : IntKind.i64.wrap ((t : Int) * (C : Int)) = (q : Int) := by rw [← Int.natCast_mul, hq]; exact IntWalk.i64_in _ (by omega)
      have hw2 : IntKind.i64.wrap ((q : Int) + (C : Int)) = ((q + C : Nat) : Int) := IntWalk.i64_in _ (by omega)
      have hqN : ((q + C : Nat) : Int) ≤ (N : Int) := by omega
      have hqC : (q : Int) ≤ ((q + C : Nat) : Int) := by omega
      have hNq : ¬ (N = q) := by omega
      have htn : (t : Int) < (Rw : Int) := by omega
      have hz : ((q + C : Nat) : Int) - (q : Int) = (C : Int) := by omega
      have hz2 : q + C - q = C := by omega
      have hz3 : ¬ (q + C = q) := by omega
      clear hq
      go_wp2_with fail
      go_roundw
      case rel => exact ⟨t + 1, L.set t (hdr w.heap.size C t), by omega, by go_num, hide (by rw [hdr, HQ.out]; exact HO.out.storedH hlt _ _ _), hide (own_set_other HC.out HO.out (by decide) _ _), hide (fun k hk => by
        rw [getD_set_pos (by omega)]
        by_cases e : k = t
        · subst e; rw [if_pos rfl]
        · rw [if_neg e]; exact HK.out k (by omega)), hide (HB.out.setCell (Nat.le_of_lt hgC) _)⟩
      case measure => simp [intOf]; omega
    · obtain rfl : t = Rw := by omega
      have hL := hdrs_of HO.out.len HK.out
      go_wp2_with fail
      go_ret
      refine ⟨w1.heap.size, w.heap.size, rfl, ⟨?_, ?_⟩, HB.out⟩
      · rw [← hL]; exact HO.out
      · rw [HN.out]; exact HC.out
end Go.Proofs.Ytndfdminjegldaa
