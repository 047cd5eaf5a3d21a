/- The document's sort. -/
import Derived.Test.YtllfkhcpdgdmnaaApp
import Derived.Test.YtllfkhcpdgdmnaaMB
import Derived.Laws.AppendOwnNone
namespace Go.Proofs.Ytllfkhcpdgdmnaa
open Go.RowKit

section
variable {α : Type} {E : Enc α} {P : Program} (w : World) {ops : Array Oper} {rest : List Oper} {o : Oper} {a : Act} {Q : Exit → Act → World → Prop}
/-- out = append(out, xs...), xs a row of our own, nil or not. -/
theorem wpList_appR (z : Value) (bytes : Nat) (hgd : o.guard = none) (s x : Operand) (t e : TypeId) (ho : o.op = .call { callee := .builtin .append, args := #[s, x], argTypes := #[t, t] })
    (hu : P.underlying t = some (.slice e)) (hinfo : (P.info? e).map (fun i => (i.zero, i.size, i.bytes)) = some (some z, E.size, bytes)) (hz : z.cells.size = E.size) (hE : 0 < E.size) (hby : bytes ≤ 64)
    (B n c : Nat) (A : Option Addr) (l : List α) (A2 : Option Addr) (m c2 : Nat) (ys : List α) (hs : a.eval s = .slice A n c) (hx : a.eval x = .slice A2 m c2)
    (hown : Own E w B e A n c l) (B2 : Nat) (hrow : Own E w B2 e A2 m c2 ys) (hm2 : m ≤ 1000000) (hn : n ≤ 1000000) (hB : B ≤ w.heap.size)
    (h : ∀ A' c' w', Own E w' B e A' (n + m) c' (l ++ ys) → Below B w w' → w.grownBy w' (Value.slice A n c).ownBlock → wpList P ops Q rest (a.put o.dst (.slice A' (n + m) c')) w') :
    wpList P ops Q (o :: rest) a w := by
  cases A2 with
  | some ad => exact wpList_appN w z bytes hgd s x t e ho hu hinfo hz hE hby B n c A l ad m c2 ys hs hx hown hrow.row hm2 hn hB h
  | none =>
    rcases hrow.form with ⟨_, rfl, rfl, rfl⟩ | ⟨g, hh, _⟩
    · obtain ⟨i0, hi, hz0, hz1, hz2⟩ := info_parts hinfo
      refine wpList_append_own_none hgd s x t ho B e i0 E.size hu hi _ n (E.cells l) hs hown.2 hx ?_
      exact h A c w (by rw [List.append_nil]; exact hown) (Below.refl _ _) (gb_refl _ _)
    · cases hh
end

theorem own1 {w : World} {B n c g : Nat} {e : TypeId} {L : List Int} (h : Own E1 w B e (some ⟨g, 0, none⟩) n c L) {k : Nat} (hk : k < n) : w.cell? ⟨g, k, none⟩ = some (.int .i64 (gi L k)) := by
  have h1 := h.cell (j := 0) hk (by decide)
  rw [show k * E1.size + 0 = k from Nat.mul_one k] at h1
  exact h1
theorem Own.stored1 {w : World} {B n c g : Nat} {e : TypeId} {L : List Int} (h : Own E1 w B e (some ⟨g, 0, none⟩) n c L) {k : Nat} (hk : k < n) (a : Int) :
    Own E1 (w.setCell ⟨g, k, none⟩ (.int .i64 a)) B e (some ⟨g, 0, none⟩) n c (L.set k a) := by
  have h1 := h.stored (j := 0) hk (by decide) (.int .i64 a) a rfl
  rw [show k * E1.size + 0 = k from Nat.mul_one k] at h1
  exact h1
theorem swi_gi {L : List Int} {j : Nat} {x y : Int} (hx : gi L j = x) (hy : gi L (j - 1) = y) : swi L j = (L.set j y).set (j - 1) x := by unfold swi; rw [hx, hy]
theorem gb_drewN {W X : World} {row : Option Nat} (h : W.grownBy X row) (k : Nat) : W.grownBy (X.drewN k) row := ⟨h.os, h.tape, h.output, h.size, h.block⟩
theorem sortZ_of {L l : List Int} (hp : L.Perm l) (hu : UptoI L L.length) : L = sortZ l :=
  sorted_unique (hp.trans (sortZ_perm l).symm) (uptoi_sorted hu) (sortZ_sorted l)
set_option maxRecDepth 100000 in
set_option maxHeartbeats 4000000 in
theorem rsorted_any (A : Option Addr) (n c : Nat) (l : List Int) (B0 : Nat) (w : World) (h : Own E1 w B0 3 A n c l) (hn : n ≤ 100000) :
    Calls Try.prog 85 #[.slice A n c] w (IntsPost (sortZ l) w) := by
  have HX := hide h
  have HLX := hide h.len
  clear h
  go_enter Try.func85, Try.ntmps85
  go_wp2_with (at_builtin; refine wpList_appR (E := E1) _ (.int .i64 0) 8 rfl (.tmp 7) (.tmp 8) 22 3 rfl Try.underlying22 info_int rfl (by decide) (by omega) w.heap.size 0 0 (some ⟨w.heap.size, 0, none⟩) [] A n c l rfl rfl (Own.lit w [] (Nat.le_refl _) (by simp)) B0 (HX.out.alloc _) (by omega) (by omega) (by simp) ?_; intro A5 c5 w5 o5 b5 g5; rw [Nat.zero_add, List.nil_append] at o5; rw [Nat.zero_add]; have HO5 := hide o5; have HB5 := hide (((Below.refl w.heap.size w).alloc (Nat.le_refl _) (.cells #[] 3)).trans b5); have hs5 := HB5.out.size; clear o5 b5 g5)
  go_loopw [4] (fun i wr => ∃ (k : Nat) (L' : List Int), k ≤ n ∧ i = .int .i64 k ∧ Hid (Own E1 wr w.heap.size 3 A5 n c5 L') ∧ Hid (L'.Perm l) ∧ Hid (UptoI L' k) ∧ Hid (Below w.heap.size w wr)) (fun i _ => n - (intOf i).toNat)
  case atStart => exact ⟨0, l, Nat.zero_le _, rfl, HO5, hide (List.Perm.refl _), hide (uptoi_one _ (by omega)), HB5⟩
  case round =>
    obtain ⟨k, L', hk, rfl, HO, HP, HU, HB⟩ := hrel
    by_cases hlt : k < n
    · obtain ⟨g, rfl, hBg, hgl, hnc, hcm⟩ := HO5.out.addr (by omega)
      have hcm' : c5 ≤ 9223372036854775807 := hcm
      clear hcm
      go_wp2_with fail
      go_loopw [5] (fun j wr => ∃ (m : Nat) (M : List Int), m ≤ k ∧ j = .int .i64 m ∧ Hid (Own E1 wr w.heap.size 3 (some ⟨g, 0, none⟩) n c5 M) ∧ Hid (M.Perm l) ∧ Hid (NearI M k m) ∧ Hid (Below w.heap.size w wr)) (fun j _ => (intOf j).toNat)
      case atStart => exact ⟨k, L', Nat.le_refl _, rfl, HO, HP, hide (neari_start HU.out), HB⟩
      case round =>
        clear HO HP HU HB
        obtain ⟨m, M, hm, rfl, HO, HP, HN, HB⟩ := hrel
        by_cases hm0 : m = 0
        · subst hm0
          go_wp2_with fail
          go_quiet (fail)
          go_wp2_with fail
          go_roundw
          case rel => exact ⟨k + 1, M, by omega, by go_num, hide (HO.out.drewN _), HP, hide (neari_stop HN.out hm (.inl rfl)), hide (below_drewN HB.out _)⟩
          case measure => simp [intOf]; omega
        · obtain ⟨m, rfl⟩ : ∃ m', m = m' + 1 := ⟨m - 1, by omega⟩
          have a1 := own1 HO.out (k := m + 1) (by omega)
          have b1 := own1 HO.out (k := m) (by omega)
          have q1 : (0 : Int) < (m : Int) + 1 := by omega
          have q2 : (0 : Int) ≤ (m : Int) + 1 := by omega
          have q4 : (m : Int) + 1 < (n : Int) := by omega
          have q5 : (m : Int) < (n : Int) := by omega
          have q6 : ((m : Int) + 1).toNat = m + 1 := by omega
          have q3 : IntKind.i64.wrap ((m : Int) + 1 - 1) = (m : Int) := by rw [show (m : Int) + 1 - 1 = (m : Int) by omega]; exact IntWalk.i64_in _ (by omega)
          have q7 : IntKind.i64.wrap (m : Int) = (m : Int) := IntWalk.i64_in _ (by omega)
          have q8 : (0 : Int) ≤ (m : Int) := by omega
          generalize hx : gi M (m + 1) = x at *
          generalize hy : gi M m = y at *
          have HX := hide hx
          have HY := hide hy
          clear hx hy
          have HGS := hide (swi_gi (L := M) (j := m + 1) HX.out HY.out)
          have HPM := hide ((swi_perm (L := M) (j := m + 1) (by omega) (by rw [HO.out.len]; omega)).trans HP.out)
          by_cases hc : x < y
          · have HNS := hide (neari_swi HN.out (by omega) hm (by rw [HO.out.len]; omega) (by rw [HX.out, show m + 1 - 1 = m from rfl, HY.out]; exact hc))
            go_wp2_with fail
            have f1 := HO.out.frozen (m + 1)
            have f2 := HO.out.frozen m
            go_quiet (fail)
            go_wp2_with fail
            go_roundw
            case rel => exact ⟨m, swi M (m + 1), by omega, rfl, hide (by rw [HGS.out]; exact ((HO.out.drewN _).stored1 (by omega) y).stored1 (k := m) (by omega) x), HPM, HNS, hide (((below_drewN HB.out _).setCell hBg _).setCell hBg _)⟩
            case measure => simp [intOf]
          · have HNS := hide (neari_stop HN.out hm (.inr (by rw [HX.out, show m + 1 - 1 = m from rfl, HY.out]; omega)))
            have hc' : ¬ x < y := hc
            go_wp2_with fail
            go_quiet (fail)
            go_wp2_with fail
            go_roundw
            case rel => exact ⟨k + 1, M, by omega, by go_num, hide (HO.out.drewN _), HP, HNS, hide (below_drewN HB.out _)⟩
            case measure => simp [intOf]; omega
    · obtain rfl : k = n := by omega
      go_wp2_with fail
      go_ret
      exact ⟨A5, k, c5, rfl, by rw [← sortZ_of HP.out (by rw [HO.out.len]; exact HU.out)]; exact HO.out, HB.out⟩
end Go.Proofs.Ytllfkhcpdgdmnaa
