/- The shifts paid alike, and the largest set that is alone. -/
import Derived.Test.YtpkjgnllkaafkaaWalkCa
namespace Go.Proofs.Ytpkjgnllkaafkaa
open Go.RowKit

def al1 (s : Sh) : Sh := (s.1, s.2.1, 1)
def ones (xs : Ls) : Ls := xs.map al1
def alTo (xs : Ls) (k : Nat) : Ls := (xs.take k).map al1 ++ xs.drop k
theorem ones_len (xs : Ls) : (ones xs).length = xs.length := by simp [ones]
theorem alTo_zero (xs : Ls) : alTo xs 0 = xs := by simp [alTo]
theorem alTo_all {xs : Ls} {n : Nat} (h : xs.length = n) : alTo xs n = ones xs := by
  subst h
  simp [alTo, ones]
theorem alTo_get {xs : Ls} {k : Nat} (h : k < xs.length) : (alTo xs k).getD k sh0 = xs.getD k sh0 := by
  unfold alTo
  have hl : ((xs.take k).map al1).length = k := by rw [List.length_map, List.length_take]; omega
  rw [List.getD_eq_getElem?_getD, List.getElem?_append_right (by omega), hl, Nat.sub_self, List.getElem?_drop, Nat.add_zero, List.getD_eq_getElem?_getD]
theorem alTo_set {xs : Ls} {k : Nat} (h : k < xs.length) : (alTo xs k).set k (al1 (xs.getD k sh0)) = alTo xs (k + 1) := by
  unfold alTo
  have hl : ((xs.take k).map al1).length = k := by rw [List.length_map, List.length_take]; omega
  rw [List.set_append, if_neg (by omega), hl, Nat.sub_self, List.drop_eq_getElem_cons h, List.set_cons_zero, List.take_succ_eq_append_getElem h]
  have e : xs.getD k sh0 = xs[k] := by simp [List.getD_eq_getElem?_getD, h]
  rw [e, List.map_append, List.append_assoc]
  rfl
theorem errV_ones {xs : Ls} (h : errV xs = 0) : errV (ones xs) = 0 := by
  obtain ⟨h1, h2⟩ := errV_ok.1 h
  refine errV_ok.2 ⟨by rw [ones_len]; exact h1, fun s hs => ?_⟩
  obtain ⟨t, ht, rfl⟩ := List.mem_map.1 hs
  have := okS_iff.1 (h2 t ht)
  exact okS_iff.2 (by simp only [al1]; omega)
theorem own3 {w : World} {B n c g : Nat} {e : TypeId} {L : Ls} (h : Own E3 w B e (some ⟨g, 0, none⟩) n c L) {k : Nat} (hk : k < n) : w.cell? ⟨g, k * 3, none⟩ = some (.int .i64 (L.getD k sh0).1) ∧ w.cell? ⟨g, k * 3 + 1, none⟩ = some (.int .i64 (L.getD k sh0).2.1) ∧ w.cell? ⟨g, k * 3 + 2, none⟩ = some (.int .i64 (L.getD k sh0).2.2) :=
  ⟨h.cell (j := 0) hk (by decide), h.cell (j := 1) hk (by decide), h.cell (j := 2) hk (by decide)⟩
theorem Own.alike {w : World} {B n c g : Nat} {e : TypeId} {xs : Ls} {k : Nat} (h : Own E3 w B e (some ⟨g, 0, none⟩) n c (alTo xs k)) (hk : k < n) (hl : xs.length = n) :
    Own E3 (w.setCell ⟨g, k * 3 + 2, none⟩ (.int .i64 1)) B e (some ⟨g, 0, none⟩) n c (alTo xs (k + 1)) := by
  have h1 := h.stored (j := 2) hk (by decide) (.int .i64 1) (al1 (xs.getD k sh0)) (by
    have e : (alTo xs k).getD k E3.d = xs.getD k sh0 := alTo_get (by omega)
    rw [e]; rfl)
  rw [alTo_set (by omega)] at h1
  exact h1
def ShsPost (ys : Ls) (n : Nat) (w : World) (e : Ending) (w' : World) : Prop :=
  ∃ (A : Option Addr) (c : Nat), e = .returned (.slice A n c) ∧ Own E3 w' w.heap.size 57 A n c ys ∧ Below w.heap.size w w'

set_option maxHeartbeats 1000000 in
theorem paidAlike_any (A : Option Addr) (n c : Nat) (xs : Ls) (w : World) (h : R E3 w A n c xs) (hn : n ≤ 1000) :
    Calls Try.prog 78 #[.slice A n c] w (ShsPost (ones xs) n w) := by
  have HL := hide h.length
  have HX := hide h
  clear h
  go_enter Try.func78, Try.ntmps78
  go_wp2_with (go_at_call 86; refine (CloneS_any _ _ _ xs _ HX.out hn).mono ?_; rintro e w1 ⟨A1, c1, rfl, o1, b1⟩; have HO1 := hide o1; have HB1 := hide b1; clear o1 b1)
  go_loopw [9] (fun i wr => ∃ k : Nat, k ≤ n ∧ i = .int .i64 k ∧ Hid (Own E3 wr w.heap.size 57 A1 n c1 (alTo xs k)) ∧ Hid (Below w.heap.size w wr)) (fun i _ => n - (intOf i).toNat)
  case atStart => exact ⟨0, Nat.zero_le _, rfl, hide (by rw [alTo_zero]; exact HO1.out), HB1⟩
  case round =>
    obtain ⟨k, hk, rfl, HO, HB⟩ := hrel
    by_cases hlt : k < n
    · obtain ⟨g, rfl, hg1, hg2, hg3, hg4⟩ := HO.out.addr (by omega)
      have hg4' : c1 ≤ 9223372036854775807 := hg4
      obtain ⟨a1, a2, a3⟩ := own3 HO.out hlt
      have f3 := HO.out.frozen (k * 3 + 2)
      have HO2 := hide (HO.out.alike hlt HL.out)
      generalize (alTo xs k).getD k sh0 = x at *
      obtain ⟨x1, x2, x3⟩ := x
      dsimp only at a1 a2 a3
      clear hg4
      go_wp2_with fail
      go_roundw
      case rel => exact ⟨k + 1, by omega, by go_num, HO2, hide (HB.out.setCell (by simp; omega) _)⟩
      case measure => simp [intOf]; omega
    · obtain rfl : k = n := by omega
      have HA := hide (alTo_all HL.out)
      go_wp2_with fail
      go_ret
      exact ⟨A1, c1, rfl, by rw [← HA.out]; exact HO.out, HB.out⟩

/-- A largest set that is alone, and an error. -/
def AlPost (xs : Ls) (w : World) (e : Ending) (w' : World) : Prop :=
  ∃ (A : Option Addr) (n c : Nat) (I : List Int), e = .returned (.tuple #[.slice A n c, .int .i64 (errV xs)]) ∧ (errV xs = 0 → ∃ L, Ord kt (ones xs) L ∧ Chosen (ones xs) L I) ∧ (errV xs ≠ 0 → I = []) ∧ Own E1 w' w.heap.size 3 A n c I ∧ Below w.heap.size w w'

set_option maxHeartbeats 2000000 in
theorem Alone_any (A : Option Addr) (n c : Nat) (xs : Ls) (w : World) (h : R E3 w A n c xs) (hn : n ≤ 1000) :
    Calls Try.prog 35 #[.slice A n c] w (AlPost xs w) := by
  by_cases he : errV xs = 0
  · have HE := hide he
    have HH := hide h
    have hn12 : n ≤ 12 := by have := errV_le he; have := h.length; omega
    have HLX := hide h.length
    have HE1 := hide (errV_ones he)
    clear he h
    go_enter Try.func35, Try.ntmps35
    go_wp2_with (first
      | (go_at_call 23; refine (Validate_any _ _ _ xs _ HH.out hn).mono ?_; rintro e w1 ⟨rfl, b1⟩; rw [HE.out]; have HB1 := hide b1; clear b1)
      | (go_at_call 78; refine (paidAlike_any _ _ _ xs _ (HH.out.below HB1.out (Nat.le_refl _)) hn).mono ?_; rintro e w2 ⟨A2, c2, rfl, o2, b2⟩; have HO2 := hide o2; have HB2 := hide (HB1.out.trans (b2.mono HB1.out.size)); clear o2 b2)
      | (go_at_call 77; refine (rests_any _ _ _ (ones xs) _ HO2.out.row HE1.out).mono ?_; rintro e w3 ⟨A3, n3, c3, l3, rfl, ⟨L, hL, rfl⟩, o3, b3⟩; have HO := hide hL; have HO3 := hide o3; have HB3 := hide (HB2.out.trans (b3.mono HB2.out.size)); clear hL o3 b3)
      | (go_at_call 76; refine (chosen_any _ _ _ _ _ HO3.out.row (by have h1 := HO3.out.len; have h2 := (rsts_bd (L := L) (fun s hs => shift_ok HE1.out HO.out hs)).2; have h3 := HO.out.len; rw [List.length_map] at h1; have h4 := HLX.out; rw [ones_len] at h3; omega)).mono ?_; rintro e w4 ⟨A4, n4, k4, I, rfl, ⟨hp, hs⟩, o4, b4⟩; rw [chs_chn] at hp; have HCH := hide (chosen_ok (errV_ok.1 HE1.out).2 HO.out hp hs); have HO4 := hide o4; have HB4 := hide (HB3.out.trans (b4.mono HB3.out.size)); clear hp hs b4 o4))
    go_ret2
    exact ⟨A4, n4, k4, I, by rw [HE.out]; rfl, fun _ => ⟨L, HO.out, HCH.out⟩, fun h => absurd HE.out h, HO4.out.more HB3.out.size, HB4.out⟩
  · have hne : (errV xs != 0) = true := by simpa using he
    have HNE := hide he
    clear he
    go_enter Try.func35, Try.ntmps35
    go_wp2_with (first | (go_at_call 23; refine (Validate_any _ _ _ xs _ h hn).mono ?_; rintro e w1 ⟨rfl, b1⟩))
    go_ret2
    exact ⟨none, 0, 0, [], rfl, fun h => absurd h HNE.out, fun _ => rfl, Own.nil _ _ _ _, b1⟩
end Go.Proofs.Ytpkjgnllkaafkaa
