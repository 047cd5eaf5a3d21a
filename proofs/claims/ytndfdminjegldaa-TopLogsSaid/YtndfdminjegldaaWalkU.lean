/- Walks: the comparison that has the distance. -/
import Derived.Test.YtndfdminjegldaaWalkR
import Derived.Test.YtndfdminjegldaaWalkH
namespace Go.Proofs.Ytndfdminjegldaa
open Go.RowKit Go.Shelf
attribute [local go_sem] Oper.semAt_some

theorem info_pair : (Try.prog.info? 62).map (fun i => (i.zero, i.size, i.bytes)) = some (some (.agg #[.int .i64 0, .int .i64 0]), 2, 16) := by kernel_rfl
theorem Own.storedP {w : World} {B n c g : Nat} {e : TypeId} {L : List Pr} (h : Own EP w B e (some ⟨g, 0, none⟩) n c L) {k : Nat} (hk : k < n) (p : Pr) :
    Own EP ((w.setCell ⟨g, k * 2, none⟩ (.int .i64 p.1)).setCell ⟨g, k * 2 + 1, none⟩ (.int .i64 p.2)) B e (some ⟨g, 0, none⟩) n c (L.set k p) := by
  have hl := h.len
  have h1 := h.stored (j := 0) hk (by decide) (.int .i64 p.1) (p.1, (L.getD k pr0).2) rfl
  have e1 : (L.set k (p.1, (L.getD k pr0).2)).getD k EP.d = (p.1, (L.getD k pr0).2) := by rw [getD_set_pos (by omega), if_pos rfl]
  have h2 := h1.stored (j := 1) hk (by decide) (.int .i64 p.2) p (by rw [e1]; rfl)
  rw [List.set_set] at h2
  exact h2
theorem ownP {w : World} {B n c g : Nat} {e : TypeId} {L : List Pr} (h : Own EP w B e (some ⟨g, 0, none⟩) n c L) {k : Nat} (hk : k < n) : w.cell? ⟨g, k * 2, none⟩ = some (.int .i64 (L.getD k pr0).1) ∧ w.cell? ⟨g, k * 2 + 1, none⟩ = some (.int .i64 (L.getD k pr0).2) :=
  ⟨h.cell hk (j := 0) (by decide), h.cell hk (j := 1) (by decide)⟩
def RvTo (l L : List Pr) (t : Nat) : Prop := ∀ k, k < l.length → L.getD k pr0 = if k < t ∨ l.length - t ≤ k then l.getD (l.length - 1 - k) pr0 else l.getD k pr0
theorem rv_step {l L : List Pr} {t u : Nat} (h : RvTo l L t) (hL : L.length = l.length) (hu : t + u + 1 = l.length) (htu : t < u) : RvTo l ((L.set t (l.getD u pr0)).set u (l.getD t pr0)) (t + 1) := fun k hk => by
  rw [getD_set_pos (by rw [List.length_set]; omega), getD_set_pos (by omega)]
  by_cases e1 : k = u
  · rw [if_pos e1, if_pos (by omega), show l.length - 1 - k = t by omega]
  · rw [if_neg e1]
    by_cases e2 : k = t
    · rw [if_pos e2, if_pos (by omega), show l.length - 1 - k = u by omega]
    · rw [if_neg e2, h k hk]
      by_cases e3 : k < t ∨ l.length - t ≤ k
      · rw [if_pos e3, if_pos (by omega)]
      · rw [if_neg e3, if_neg (by omega)]
theorem rv_end {l L : List Pr} {t : Nat} (h : RvTo l L t) (hL : L.length = l.length) (ht : l.length ≤ 2 * t + 1) : L = l.reverse := by
  apply List.ext_getElem (by simp [hL])
  intro k h1 h2
  have := h k (by omega)
  rw [List.getD_eq_getElem?_getD, List.getElem?_eq_getElem h1] at this
  rw [List.getElem_reverse]
  have e : ∀ q (hq : q < l.length), l.getD q pr0 = l[q] := fun q hq => by rw [List.getD_eq_getElem?_getD, List.getElem?_eq_getElem hq]; rfl
  show (some L[k]).getD pr0 = _
  rw [this]
  by_cases e3 : k < t ∨ l.length - t ≤ k
  · rw [if_pos e3, e _ (by omega)]
  · rw [if_neg e3, e _ (by omega)]
    congr 1
    omega
theorem rv_at {l L : List Pr} {t u : Nat} (h : RvTo l L t) (hu : t + u + 1 = l.length) (htu : t < u) : L.getD t pr0 = l.getD t pr0 ∧ L.getD u pr0 = l.getD u pr0 := by
  refine ⟨?_, ?_⟩
  · rw [h t (by omega), if_neg (by omega)]
  · rw [h u (by omega), if_neg (by omega)]
set_option maxRecDepth 100000 in
set_option maxHeartbeats 4000000 in
theorem ReverseP_any (A : Option Addr) (B n c : Nat) (l : List Pr) (w : World) (h : Own EP w B 62 A n c l) (hB : B ≤ w.heap.size) (hn : n ≤ 1000000) :
    Calls Try.prog 66 #[.slice A n c] w fun e w' => e = .returned (.tuple #[]) ∧ Own EP w' B 62 A n c l.reverse ∧ Below B w w' := by
  have hl := h.len
  have HL := hide hl
  have H := hide h
  have wn : IntKind.i64.wrap ((n : Int) - 1) = (n : Int) - 1 := IntWalk.i64_in _ (by omega)
  clear h hl
  go_enter Try.func66, Try.ntmps66
  go_wp2_with fail
  go_loopw [2, 3] (fun a2 a3 wr => ∃ (t : Nat) (v : Int) (L : List Pr), v + t + 1 = (n : Int) ∧ a2 = .int .i64 t ∧ a3 = .int .i64 v ∧ t ≤ n ∧ Hid (RvTo l L t) ∧ Hid (Own EP wr B 62 A n c L) ∧ Hid (Below B w wr)) (fun _ a3 _ => (intOf a3 + 1).toNat)
  case atStart => exact ⟨0, (n : Int) - 1, l, by omega, rfl, rfl, by omega, hide (fun k hk => by rw [if_neg (by omega)]), H, hide (Below.refl _ _)⟩
  case round =>
    clear H wn
    obtain ⟨t, v, L, hv, rfl, rfl, htn, HR, HO, HBl⟩ := hrel
    by_cases hlt : (t : Int) < v
    · obtain ⟨u, rfl⟩ : ∃ u : Nat, v = u := ⟨v.toNat, by omega⟩
      obtain ⟨g, rfl, hg, hg2, hg3, hg4⟩ := HO.out.addr (by omega)
      have hg5 : c ≤ 9223372036854775807 := hg4
      have hLl := HO.out.len
      have hrv := rv_at HR.out (u := u) (by rw [HL.out]; omega) (by omega)
      obtain ⟨a1, a2⟩ := ownP HO.out (k := t) (by omega)
      obtain ⟨b1, b2⟩ := ownP HO.out (k := u) (by omega)
      rw [hrv.1] at a1 a2
      rw [hrv.2] at b1 b2
      have f1 := HO.out.frozen (t * 2)
      have f2 := HO.out.frozen (t * 2 + 1)
      have f3 := HO.out.frozen (u * 2)
      have f4 := HO.out.frozen (u * 2 + 1)
      have hne1 : ¬ (u * 2 = t * 2) := by omega
      have hne2 : ¬ (u * 2 = t * 2 + 1) := by omega
      have hne3 : ¬ (u * 2 + 1 = t * 2) := by omega
      have hne4 : ¬ (u * 2 + 1 = t * 2 + 1) := by omega
      have HR2 := hide (rv_step HR.out (u := u) (by rw [hLl, HL.out]) (by rw [HL.out]; omega) (by omega))
      have HO2 := hide ((HO.out.drew.storedP (k := t) (by omega) (l.getD u pr0)).storedP (k := u) (by omega) (l.getD t pr0))
      have HB2 := hide ((((HBl.out.drew.setCell (p := ⟨g, t * 2, none⟩) hg (.int .i64 (l.getD u pr0).1)).setCell (p := ⟨g, t * 2 + 1, none⟩) hg (.int .i64 (l.getD u pr0).2)).setCell (p := ⟨g, u * 2, none⟩) hg (.int .i64 (l.getD t pr0).1)).setCell (p := ⟨g, u * 2 + 1, none⟩) hg (.int .i64 (l.getD t pr0).2))
      have hvu : (u : Int) + (t : Int) + 1 = (n : Int) := hv
      have i1 : (u : Int) < (n : Int) := by omega
      have i2 : (t : Int) < (n : Int) := by omega
      clear hrv HR HO HBl hg4 hLl hv
      generalize l.getD u pr0 = p at *
      generalize l.getD t pr0 = q at *
      obtain ⟨p1, p2⟩ := p
      obtain ⟨q1, q2⟩ := q
      dsimp only at a1 a2 b1 b2 HO2 HB2
      have w1 : IntKind.i64.wrap ((u : Int) - 1) = (u : Int) - 1 := IntWalk.i64_in _ (by omega)
      go_wp2_with fail
      go_region
      all_goals
        go_wp2_with fail
        go_roundw
        case rel => exact ⟨t + 1, (u : Int) - 1, _, by omega, by go_num, by first | rfl | go_num, by omega, HR2, HO2, HB2⟩
        case measure => simp [intOf]
    · have HE := hide (rv_end HR.out (by rw [HO.out.len, HL.out]) (by rw [HL.out]; omega))
      go_wp2_with fail
      go_end0
      exact ⟨rfl, by rw [← HE.out]; exact HO.out, HBl.out⟩
end Go.Proofs.Ytndfdminjegldaa
