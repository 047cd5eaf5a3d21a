/- Appends of whole rows, and copies of rows. -/
import Derived.Test.YtllfkhcpdgdmnaaWalkE
import Derived.Laws.IdiomCopy
namespace Go.Proofs.Ytllfkhcpdgdmnaa
open Go.RowKit

theorem Own.addr {α : Type} {E : Enc α} {w : World} {B n c : Nat} {e : TypeId} {A : Option Addr} {xs : List α} (h : Own E w B e A n c xs) (hn : 1 ≤ n) : ∃ g, A = some ⟨g, 0, none⟩ ∧ B ≤ g ∧ g < w.heap.size ∧ n ≤ c ∧ c ≤ maxLen := by
  rcases h.form with ⟨_, h1, _⟩ | h
  · omega
  · exact h
section
variable {α : Type} {E : Enc α} {P : Program} (w : World) {ops : Array Oper} {rest : List Oper} {o : Oper} {a : Act} {Q : Exit → Act → World → Prop}
/-- out = append(out, xs...), xs a row that is not nil. -/
theorem wpList_appN (z : Value) (bytes : Nat) (hgd : o.guard = none) (s x : Operand) (t e : TypeId) (ho : o.op = .call { callee := .builtin .append, args := #[s, x], argTypes := #[t, t] })
    (hu : P.underlying t = some (.slice e)) (hinfo : (P.info? e).map (fun i => (i.zero, i.size, i.bytes)) = some (some z, E.size, bytes)) (hz : z.cells.size = E.size) (hE : 0 < E.size) (hby : bytes ≤ 64)
    (B n c : Nat) (A : Option Addr) (l : List α) (ad : Addr) (m c2 : Nat) (ys : List α) (hs : a.eval s = .slice A n c) (hx : a.eval x = .slice (some ad) m c2)
    (hown : Own E w B e A n c l) (hrow : R E w (some ad) m c2 ys) (hm2 : m ≤ 1000000) (hn : n ≤ 1000000) (hB : B ≤ w.heap.size)
    (h : ∀ A' c' w', Own E w' B e A' (n + m) c' (l ++ ys) → Below B w w' → w.grownBy w' (Value.slice A n c).ownBlock → wpList P ops Q rest (a.put o.dst (.slice A' (n + m) c')) w') :
    wpList P ops Q (o :: rest) a w := by
  obtain ⟨i0, hi, hz0, hz1, hz2⟩ := info_parts hinfo
  obtain ⟨b, off, hr⟩ := hrow
  have hrl := hr.len
  refine wpList_append_own (P := P) _ hgd s x t ho B e i0 z E.size bytes hu hi hz0 hz1 hz2 hz hE _ n (E.cells l) hs hown.2
    ad m c2 (E.cells ys) hx (by rw [E.cells_len, hrl]) ?_ (E.cells_one ys) (by unfold maxLen; omega) ?_ hB ?_
  · intro j u hu'
    have hj := (List.getElem?_eq_some_iff.1 hu').1
    rw [E.cells_len, hrl] at hj
    have hm : 0 < m := by
      rcases Nat.eq_zero_or_pos m with e0 | e0
      · subst e0; omega
      · exact e0
    have e1 := hr.at_ hm
    injection e1 with e1
    subst e1
    have hadd : (⟨b, off, none⟩ : Addr).add j = ⟨b, off + j, none⟩ := by unfold Addr.add; split <;> simp_all
    have hq : j / E.size < m := Nat.div_lt_of_lt_mul (by rw [Nat.mul_comm]; exact hj)
    have hrr : j % E.size < E.size := Nat.mod_lt _ hE
    have ej : j / E.size * E.size + j % E.size = j := by rw [Nat.mul_comm]; exact Nat.div_add_mod _ _
    have g1 := E.cells_get ys (k := j / E.size) (j := j % E.size) (by omega) hrr
    have g2 := hr.cell (j / E.size) hq (j % E.size) hrr
    rw [ej] at g1 g2
    rw [hadd, g2, ← g1]
    exact hu'
  · have : (n + m) * bytes ≤ (n + m) * 64 := Nat.mul_le_mul_left _ hby
    omega
  · intro v' w' hown' hg hnil
    have hown2 : w'.ownsRow B e E.size v' (n + m) (E.cells (l ++ ys)) := by rw [E.cells_app]; exact hown'
    have hv : ∃ A' c', v' = .slice A' (n + m) c' := by
      rcases hown2.2 with ⟨hv0, hn0⟩ | ⟨g, cap, cur, hv, _⟩
      · exact ⟨none, 0, by rw [hv0, show n + m = 0 from hn0]⟩
      · exact ⟨_, _, hv⟩
    obtain ⟨A', c', rfl⟩ := hv
    have hl := hown.len
    refine h A' c' w' ⟨by simp [hl, hrl], hown2⟩ ((Below.refl B w).grown hg hB fun k hk => ?_) hg
    rcases hown.form with ⟨rfl, _⟩ | ⟨g, rfl, hbg, _⟩
    · simp [Value.ownBlock] at hk
    · simp [Value.ownBlock] at hk; omega
end

def ClonePostI (xs : List (Int)) (n : Nat) (w : World) (e : Ending) (w' : World) : Prop :=
  ∃ (A' : Option Addr) (c' : Nat), e = .returned (.slice A' n c') ∧ Own E1 w' w.heap.size 3 A' n c' xs ∧ Below w.heap.size w w'
set_option maxHeartbeats 400000 in
theorem CloneI_any (A : Option Addr) (n c : Nat) (xs : List (Int)) (w : World) (h : R E1 w A n c xs) (hn : n ≤ 1000) :
    Calls Try.prog 92 #[.slice A n c] w (ClonePostI xs n w) := by
  have HR := hide h
  have HL := hide h.length
  have hq := fun W : World => Lib.run_eql_slice_nil (P := Try.prog) W 22 3 A n c 0 0 Try.underlying22
  cases A with
  | none =>
    have hn0 : n = 0 := by
      obtain ⟨b, off, hr⟩ := h
      rcases Nat.eq_zero_or_pos n with e | e
      · exact e
      · have := hr.at_ e; cases this
    subst hn0
    have hx0 := h.zero rfl
    have HX := hide hx0
    clear hx0 h
    go_enter Try.func92, Try.ntmps92
    go_wp2_with fail
    go_ret
    exact ⟨none, 0, rfl, by rw [HX.out]; exact Own.nil _ _ _ _, Below.refl _ _⟩
  | some ad =>
    clear h
    go_enter Try.func92, Try.ntmps92
    go_wp2_with (at_builtin; refine wpList_appN (E := E1) _ (.int .i64 0) 8 rfl (.tmp 5) (.tmp 6) 22 3 rfl Try.underlying22 info_int rfl (by decide) (by omega) w.heap.size 0 0 (some ⟨w.heap.size, 0, none⟩) [] ad n c xs rfl rfl (Own.lit w [] (Nat.le_refl _) (by simp)) (HR.out.below ((Below.refl _ w).alloc (Nat.le_refl _) _) (Nat.le_refl _)) (by omega) (by omega) (by simp) ?_; intro A1 c1 w1 hown hb hg; rw [Nat.zero_add] at hown ⊢)
    go_ret
    exact ⟨A1, c1, rfl, by simpa using hown, ((Below.refl _ _).alloc (Nat.le_refl _) _).trans hb⟩
end Go.Proofs.Ytllfkhcpdgdmnaa
