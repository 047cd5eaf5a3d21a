/- The walk of the best row by pooling. -/
import Derived.Test.YtlmmkaadoicogaaOwn
namespace Go.Proofs.Ytlmmkaadoicogaa
open Go.RowKit

/-- The runs in the order of the hours, from hour i to hour n, with the row that they make. -/
def Sq (xs : Rd) (row : List Rat) : List Rn → Nat → Nat → Prop
  | [], i, n => i = n
  | r :: rest, i, n => r.a = i ∧ Good xs r ∧ (∀ j, r.a ≤ j → j ≤ r.b → row.getD j 0 = rt r.n r.d) ∧ Sq xs row rest (r.b + 1) n
theorem Sq.snoc {xs : Rd} {row row' : List Rat} {r : Rn} : ∀ {l : List Rn} {i : Nat}, Sq xs row l i r.a → (∀ j, j < r.a → row'.getD j 0 = row.getD j 0) → Good xs r → (∀ j, r.a ≤ j → j ≤ r.b → row'.getD j 0 = rt r.n r.d) → i ≤ r.a → Sq xs row' (l ++ [r]) i (r.b + 1)
  | [], i, h, _, g, hr, _ => ⟨h.symm, g, hr, rfl⟩
  | s :: l, i, h, hrow, g, hr, hi => by
    obtain ⟨h1, h2, h3, h4⟩ := h
    have hle : s.b + 1 ≤ r.a := Sq.le h4
    exact ⟨h1, h2, fun j a b => by rw [hrow j (by omega)]; exact h3 j a b, Sq.snoc h4 hrow g hr hle⟩
where
  Sq.le {xs : Rd} {row : List Rat} : ∀ {l : List Rn} {i n : Nat}, Sq xs row l i n → i ≤ n
  | [], i, n, h => Nat.le_of_eq h
  | s :: l, i, n, h => by
    obtain ⟨h1, h2, h3, h4⟩ := h
    have := Sq.le h4
    have := h2.le
    omega
theorem Sq.mono {xs : Rd} {row : List Rat} : ∀ {l : List Rn} {i n : Nat}, Sq xs row l i n → i ≤ n
  | [], i, n, h => Nat.le_of_eq h
  | s :: l, i, n, h => by
    obtain ⟨h1, h2, h3, h4⟩ := h
    have := Sq.mono h4
    have := h2.le
    omega
theorem sq_of_stk {xs : Rd} : ∀ {st : List Rn} {n : Nat}, Stk xs st n → Sq xs (rowS st) st.reverse 0 n
  | [], n, h => Eq.symm h
  | r :: rest, n, h => by
    have hs := h
    obtain ⟨e, g, _, h'⟩ := h
    rw [e, List.reverse_cons]
    exact Sq.snoc (sq_of_stk h') (fun j hj => rowS_old hs hj) g (fun j a b => rowS_new hs a b) (Nat.zero_le _)

def best (xs : Rd) : Rd := (bestR xs).map rq
theorem best_len (xs : Rd) : (best xs).length = xs.length := by simp [best, bestR_len]

theorem RunsAt.apart {w : World} {g : Nat} {l : List Rn} (h : RunsAt w g l) {p : Addr} (hp : g ≠ p.block) (u : Value) : RunsAt (w.setCell p u) g l := by
  refine ⟨by simpa using h.lt, fun k r hk => ?_⟩
  obtain ⟨h0, h1, h2, h3⟩ := h.cell k r hk
  have e : ∀ i, (w.setCell p u).cell? ⟨g, i, none⟩ = w.cell? ⟨g, i, none⟩ := fun i => World.cell?_setCell_other _ _ _ _ fun e => hp (by rw [e])
  rw [e, e, e, e]
  exact ⟨h0, h1, h2, h3⟩
/-- What is known of the list of numbers up to hour i. -/
def Upto (row : List Rat) (L : Rd) (i : Nat) : Prop := ∀ j, j < i → L.getD j (0, 0) = rq (row.getD j 0)
theorem upto_set {row : List Rat} {L : Rd} {i : Nat} (h : Upto row L i) (hi : i < L.length) {q : Rat} (e : row.getD i 0 = q) : Upto row (L.set i (nu q, de q)) (i + 1) := by
  intro j hj
  by_cases hji : j = i
  · subst hji
    rw [e]
    simp [List.getD_eq_getElem?_getD, hi, rq]
  · rw [← h j (by omega)]
    simp [List.getD_eq_getElem?_getD, Ne.symm hji]
theorem upto_all {row : List Rat} {L : Rd} {n : Nat} (h : Upto row L n) (h1 : L.length = n) (h2 : row.length = n) : L = row.map rq := by
  refine List.ext_getElem (by simp [h1, h2]) fun j ha hb => ?_
  have := h j (by omega)
  simp [List.getD_eq_getElem?_getD, show j < L.length by omega, show j < row.length by omega] at this
  simpa using this

set_option maxHeartbeats 2000000 in
theorem best_any (A : Option Addr) (n c : Nat) (xs : Rd) (w : World) (h : Row w A n c xs) (o : okH xs = true) (hn1 : 1 ≤ n) (hn2 : n ≤ 12) :
    Calls Try.prog 65 #[.slice A n c] w fun e w' => ∃ A' c', e = .returned (.slice A' n c') ∧ Own w' w.heap.size 26 A' n c' (best xs) ∧ Below w.heap.size w w' := by
  have hlen := h.length
  have HR := hide h
  have O := hide o
  have HL := hide hlen
  clear h o hlen
  go_enter Try.func65, Try.ntmps65
  go_wp2_with (at_make; refine wpList_mk _ rfl (.tmp 8) (.tmp 8) 34 26 rfl Try.underlying34 info_rat w.heap.size n rfl rfl (by omega) (Nat.le_refl _) ?_; intro w1 hown1 hb1 hsz1)
  have HROW1 := hide (HR.out.below hb1 (Nat.le_refl _))
  refine (runs_any _ _ _ xs _ HROW1.out O.out hn1 hn2).mono ?_
  rintro e w2 ⟨g, l, rfl, hst, hruns, hg, hb2⟩
  have hsq := sq_of_stk hst
  rw [List.reverse_reverse] at hsq
  have hrb : rowS l.reverse = bestR xs := rowS_best O.out (by rw [HL.out]; exact hst)
  rw [hrb] at hsq
  have hll : l.length ≤ n := by have := stk_len hst; simpa using this
  have hown2 := hown1.below hb2 (Nat.le_refl _)
  have hbel2 := hb1.trans (hb2.mono hb1.size)
  have HSQ := hide hsq
  have HOWN := hide hown2
  have HRUNS := hide hruns
  have hgl := hruns.lt
  clear hsq hown2 hruns hrb hst hown1 hb1 hb2 HROW1
  generalize hlm : l.length = m at *
  have HLM := hide hlm
  clear hlm
  go_wp2_with fail
  go_loopw [13] (fun s wr => ∃ (k i : Nat) (L : Rd), k ≤ m ∧ s = .int .i64 k ∧ Sq xs (bestR xs) (l.drop k) i n ∧ Own wr w.heap.size 26 (some ⟨w.heap.size, 0, none⟩) n n L ∧ Upto (bestR xs) L i ∧ RunsAt wr g l ∧ Below w.heap.size w wr) (fun s _ => m - (intOf s).toNat)
  case atStart => exact ⟨0, 0, _, Nat.zero_le _, rfl, HSQ.out, HOWN.out, fun j hj => absurd hj (Nat.not_lt_zero _), HRUNS.out, hbel2⟩
  case round =>
    obtain ⟨k, i, L, hk, rfl, hsq, hown, hup, hruns, hbel⟩ := hrel
    by_cases hlt : k < m
    · have hlt' : k < l.length := by rw [HLM.out]; exact hlt
      rw [List.drop_eq_getElem_cons hlt'] at hsq
      have hgetk : l[k]? = some l[k] := List.getElem?_eq_getElem hlt'
      generalize l[k] = r at hsq hgetk
      obtain ⟨hra, hgood, hval, hsq'⟩ := hsq
      subst hra
      obtain ⟨c0, c1, c2, c3⟩ := hruns.cell k r hgetk
      have hbd := hgood.bd O.out (by rw [HL.out]; exact hn2)
      have hle := hgood.le
      have hltb : r.b < n := by have := hgood.lt; rw [HL.out] at this; exact this
      have hgw := hruns.lt
      have HSQ' := hide hsq'
      have HVAL := hide hval
      have HUP := hide hup
      have HOWN' := hide hown
      have HRUNS' := hide hruns
      clear hsq' hval hup hown hruns hgetk hgood HOWN HRUNS HSQ
      go_wp2_with fail
      obtain ⟨wo, rfl⟩ : ∃ wo : World, wo = wr := ⟨_, rfl⟩
      go_loopw [6] (fun s wi => ∃ (i : Nat) (L' : Rd), r.a ≤ i ∧ i ≤ r.b + 1 ∧ s = .int .i64 i ∧ Own wi w.heap.size 26 (some ⟨w.heap.size, 0, none⟩) n n L' ∧ Upto (bestR xs) L' i ∧ RunsAt wi g l ∧ Bk wi wo.heap.size 79 #[.int .i64 r.a, .int .i64 r.b, .int .i64 r.n, .int .i64 r.d] ∧ Below w.heap.size w wi) (fun s _ => r.b + 1 - (intOf s).toNat)
      case atStart => exact ⟨r.a, L, Nat.le_refl _, by omega, rfl, HOWN'.out.alloc _, HUP.out, HRUNS'.out.below ((Below.refl wo.heap.size wo).alloc (Nat.le_refl _) _) hgw, Bk.born _ _ _, hbel.alloc hbel.size _⟩
      case round =>
        obtain ⟨i, L', hi1, hi2, rfl, hown', hup', hruns', hblk, hbel'⟩ := hrel
        obtain ⟨b0, b1, b2, b3, _, _, _, _⟩ := hblk.four
        have hz1 := hblk.in_
        have HO := hide hown'
        have HU := hide hup'
        have HRN := hide hruns'
        have HBK := hide hblk
        have hz2 := hruns'.lt
        have hwlt : w.heap.size < wr.heap.size := by
          rcases hown'.form with ⟨hh, _⟩ | ⟨gg, hA, _, hlt, _⟩
          · cases hh
          · injection hA with hA; injection hA with hA; omega
        clear hown' hup' hruns' hblk
        by_cases hib : i ≤ r.b
        · go_wp2_with fail
          refine (lowest_any _ _ _ (by omega) (by omega) (by omega) (by omega)).mono ?_
          rintro e w3 ⟨rfl, hb3⟩
          have hv := HVAL.out i hi1 hib
          rw [← hv]
          have HV := hide hv
          clear hv
          have hown3 := HO.out.below hb3 (Nat.le_refl _)
          obtain ⟨o0, o1⟩ := hown3.cell (k := i) (by omega)
          have f0 := hown3.frozen (i * 2)
          have f1 := hown3.frozen (i * 2 + 1)
          have HO3 := hide hown3
          have hin : (i : Int) < n := by omega
          have hz3 := hb3.size
          clear hown3 b0 b1 b2 b3
          generalize hq : (bestR xs).getD i 0 = q
          have HQ := hide hq
          clear hq
          go_wp2_with fail
          go_roundw
          case rel =>
            refine ⟨i + 1, L'.set i (nu q, de q), by omega, by omega, by go_num, HO3.out.stored (by omega) _ _, upto_set HU.out (by rw [HO.out.len]; omega) HQ.out, ?_, ((HBK.out.keep hb3 hz1).apart (by simp; omega) _).apart (by simp; omega) _, ((hbel'.trans (hb3.mono hbel'.size)).setCell (by simp) _).setCell (by simp) _⟩
            exact ((HRN.out.below hb3 hz2).apart (by simp; omega) _).apart (by simp; omega) _
          case measure => simp [intOf]; omega
        · go_wp2_with fail
          go_roundw
          case rel => exact ⟨k + 1, r.b + 1, L', by omega, by go_num, HSQ'.out, HO.out, by rw [show r.b + 1 = i by omega]; exact HU.out, HRN.out, hbel'⟩
          case measure => simp [intOf]; omega
    · obtain rfl : k = m := by omega
      have hd : l.drop k = [] := List.drop_eq_nil_of_le (by rw [HLM.out]; exact Nat.le_refl _)
      rw [hd] at hsq
      have hi : i = n := hsq
      subst hi
      have hL := upto_all hup hown.len (by rw [bestR_len, HL.out])
      subst hL
      have HOWN' := hide hown
      clear hown hup hsq hd
      go_wp2_with fail
      go_ret
      exact ⟨_, _, rfl, HOWN'.out, hbel⟩

end Go.Proofs.Ytlmmkaadoicogaa
