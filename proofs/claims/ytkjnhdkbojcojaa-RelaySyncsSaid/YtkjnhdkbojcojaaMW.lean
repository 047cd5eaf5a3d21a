/- Words that tell two boxes apart; plain mathematics, no program. -/
import Derived.Test.YtkjnhdkbojcojaaMO
namespace Go.Proofs.Ytkjnhdkbojcojaa

/-- What follows on a pair of states. -/
def aftP (a b : Bx) (x : Nat × Nat) (k : Int) : Nat × Nat := (aft a x.1 k, aft b x.2 k)
/-- Is a pair told apart by its signals? -/
def toldP (a b : Bx) (x : Nat × Nat) : Bool := !(sgl a x.1 == sgl b x.2)
def inP (a b : Bx) (x : Nat × Nat) : Prop := x.1 < a.2.length ∧ x.2 < b.2.length
def cdP (x : Nat × Nat) : Nat := x.1 * 6 + x.2
theorem foldP (a b : Bx) : ∀ (u : List Int) (s t : Nat), u.foldl (aftP a b) (s, t) = (endV a s u, endV b t u)
  | [], _, _ => rfl
  | k :: u, s, t => foldP a b u (aft a s k) (aft b t k)
section
variable {a b : Bx} (ha : Okx a) (hb : Okx b)
include ha hb
theorem inP_aft : ∀ x k, inP a b x → inP a b (aftP a b x k) := fun _ k h => ⟨ha.aft_lt h.1 k, hb.aft_lt h.2 k⟩
theorem cdP_lt : ∀ x, inP a b x → cdP x < 64 := fun x h => by
  have h1 := ha.n6; have h2 := hb.n6; have := h.1; have := h.2; unfold cdP; omega
theorem cdP_inj : ∀ x y, inP a b x → inP a b y → cdP x = cdP y → x = y := fun x y hx hy e => by
  have h1 := ha.n6; have h2 := hb.n6; have := hx.1; have := hx.2; have := hy.1; have := hy.2
  unfold cdP at e
  exact Prod.ext (by omega) (by omega)
end
/-- All pairs to which words lead. -/
def prsV (a b : Bx) (s t : Nat) : Pl (Nat × Nat) := plN (aftP a b) (s, t) 64
def tellV (a b : Bx) (s t : Nat) : Option (List Int) := firstW (prsV a b s t) (toldP a b)
section
variable {a b : Bx} (ha : Okx a) (hb : Okx b) {s t : Nat} (hs : s < a.2.length) (ht : t < b.2.length)
include ha hb hs ht
theorem prs_len : (prsV a b s t).length ≤ 64 := plN_bound (f := aftP a b) (P := inP a b) (x0 := (s, t)) cdP ⟨hs, ht⟩ (inP_aft ha hb) (cdP_lt ha hb) (cdP_inj ha hb) 64
theorem tell_some {w : List Int} (h : tellV a b s t = some w) : Inp w ∧ sgl a (endV a s w) ≠ sgl b (endV b t w) ∧ ∀ u, Inp u → sgl a (endV a s u) ≠ sgl b (endV b t u) → w.length ≤ u.length := by
  obtain ⟨h1, h2, h3⟩ := first_short (f := aftP a b) (x0 := (s, t)) (prs_len ha hb hs ht) h
  rw [foldP] at h2
  refine ⟨h1, by simpa [toldP] using h2, fun u hu hd => h3 u hu ?_⟩
  rw [foldP]
  simpa [toldP] using hd
theorem tell_none (h : tellV a b s t = none) {u : List Int} (hu : Inp u) : sgl a (endV a s u) = sgl b (endV b t u) := by
  have := first_none (f := aftP a b) (x0 := (s, t)) (prs_len ha hb hs ht) h hu
  rw [foldP] at this
  simpa [toldP] using this
theorem tell_iff : (tellV a b s t).isSome = true ↔ ∃ u, Inp u ∧ sgl a (endV a s u) ≠ sgl b (endV b t u) := by
  cases h : tellV a b s t with
  | none =>
    simp only [Option.isSome_none, Bool.false_eq_true, false_iff]
    rintro ⟨u, hu, hd⟩
    exact hd (tell_none ha hb hs ht h hu)
  | some w =>
    have := tell_some ha hb hs ht h
    simp only [Option.isSome_some, true_iff]
    exact ⟨w, this.1, this.2.1⟩
end
/-- The states of both boxes, in a row. -/
def sumA (a b : Bx) : Nat ⊕ Nat → Int → Nat ⊕ Nat
  | .inl s, k => .inl (aft a s k)
  | .inr s, k => .inr (aft b s k)
def sumO (a b : Bx) : Nat ⊕ Nat → Int
  | .inl s => sgl a s
  | .inr s => sgl b s
def sumG (a : Bx) (i : Nat) : Nat ⊕ Nat := if i < a.2.length then .inl i else .inr (i - a.2.length)
theorem sum_inl (a b : Bx) : ∀ (u : List Int) (s : Nat), u.foldl (sumA a b) (.inl s) = .inl (endV a s u)
  | [], _ => rfl
  | k :: u, s => sum_inl a b u (aft a s k)
theorem sum_inr (a b : Bx) : ∀ (u : List Int) (s : Nat), u.foldl (sumA a b) (.inr s) = .inr (endV b s u)
  | [], _ => rfl
  | k :: u, s => sum_inr a b u (aft b s k)
theorem tell_len {a b : Bx} (ha : Okx a) (hb : Okx b) {s t : Nat} (hs : s < a.2.length) (ht : t < b.2.length) {w : List Int} (h : tellV a b s t = some w) : w.length < a.2.length + b.2.length := by
  obtain ⟨h1, h2, h3⟩ := tell_some ha hb hs ht h
  have hc : ∀ i, i < a.2.length + b.2.length → ∀ k, k = 0 ∨ k = 1 → ∃ j, j < a.2.length + b.2.length ∧ sumG a j = sumA a b (sumG a i) k := by
    intro i hi k _
    by_cases e : i < a.2.length
    · refine ⟨aft a i k, ?_, ?_⟩
      · have := ha.aft_lt e k; omega
      · unfold sumG; rw [if_pos (ha.aft_lt e k), if_pos e]; rfl
    · have hj := hb.aft_lt (s := i - a.2.length) (by omega) k
      refine ⟨a.2.length + aft b (i - a.2.length) k, by omega, ?_⟩
      unfold sumG
      rw [if_neg (by omega), if_neg e, Nat.add_sub_cancel_left]; rfl
  have gs : sumG a s = .inl s := if_pos hs
  have gt : sumG a (a.2.length + t) = .inr t := by unfold sumG; rw [if_neg (by omega), Nat.add_sub_cancel_left]
  obtain ⟨m, hm1, hm2, hm3⟩ := moore (f := sumA a b) (o := sumO a b) (g := sumG a) (N := a.2.length + b.2.length) hc (i := s) (j := a.2.length + t) (by omega) (by omega) h1 (by rw [gs, gt, sum_inl, sum_inr]; exact h2)
  rw [gs, gt, sum_inl, sum_inr] at hm3
  have := h3 m hm2 hm3
  omega
theorem tell_len1 {b : Bx} (hb : Okx b) {s t : Nat} (hs : s < b.2.length) (ht : t < b.2.length) {w : List Int} (h : tellV b b s t = some w) : w.length < b.2.length := by
  obtain ⟨h1, h2, h3⟩ := tell_some hb hb hs ht h
  obtain ⟨m, hm1, hm2, hm3⟩ := moore (f := aft b) (o := sgl b) (g := id) (N := b.2.length) (aft_cl hb) (i := s) (j := t) hs ht h1 h2
  have := h3 m hm2 hm3
  omega
/-- Two answers that differ do so at the end of some beginning of the word. -/
theorem run_differ {a b : Bx} {l : List Int} (h : runV a l ≠ runV b l) : ∃ k, k ≤ l.length ∧ sgl a (endV a 0 (l.take k)) ≠ sgl b (endV b 0 (l.take k)) := by
  rcases Classical.em (∃ k, k ≤ l.length ∧ sgl a (endV a 0 (l.take k)) ≠ sgl b (endV b 0 (l.take k))) with h1 | h1
  · exact h1
  · exfalso
    apply h
    apply List.ext_getElem (by rw [run_len, run_len])
    intro i hi hj
    rw [run_len] at hi
    have e1 := run_get a l (k := i) (by omega)
    have e2 := run_get b l (k := i) (by omega)
    rw [List.getD_eq_getElem?_getD, List.getElem?_eq_getElem (by rw [run_len]; omega)] at e1 e2
    simp only [Option.getD_some] at e1 e2
    rw [e1, e2]
    rcases Classical.em (sgl a (endV a 0 (l.take i)) = sgl b (endV b 0 (l.take i))) with e | e
    · exact e
    · exact absurd ⟨i, by omega, e⟩ h1
theorem inp_take {l : List Int} (h : Inp l) (k : Nat) : Inp (l.take k) := fun x hx => h x (List.mem_of_mem_take hx)
theorem inp_of {b : Bx} {l : List Int} (h : errW b l = 0) : Inp l := fun x hx => by
  obtain ⟨_, _, hi⟩ := errW_ok h
  obtain ⟨i, hil, rfl⟩ := List.mem_iff_getElem.1 hx
  have := hi i hil
  rw [List.getD_eq_getElem?_getD, List.getElem?_eq_getElem hil] at this
  exact inp_two this
theorem errW_inp {b : Bx} (h : Okx b) {l : List Int} (hl : l.length ≤ 40) (hi : Inp l) : errW b l = 0 :=
  errW_fine (errX_ok h) (by omega) fun i hil => by
    rw [List.getD_eq_getElem?_getD, List.getElem?_eq_getElem hil]
    rcases hi _ (List.getElem_mem hil) with e | e <;> (simp only [Option.getD_some]; rw [e]; decide)
/-- A word that tells two boxes apart is no shorter than the shortest. -/
theorem tell_answers {a b : Bx} (ha : Okx a) (hb : Okx b) {l : List Int} (hi : Inp l) (h : runV a l ≠ runV b l) : ∃ w, tellV a b 0 0 = some w ∧ w.length ≤ l.length := by
  obtain ⟨k, hk, hd⟩ := run_differ h
  have h0 := ha.n1
  have h0' := hb.n1
  cases hT : tellV a b 0 0 with
  | none => exact absurd (tell_none ha hb (by omega) (by omega) hT (inp_take hi k)) hd
  | some w =>
    have := (tell_some ha hb (by omega) (by omega) hT).2.2 _ (inp_take hi k) hd
    rw [List.length_take] at this
    exact ⟨w, rfl, by omega⟩
/-- .. and to the shortest one they do answer differently. -/
theorem tell_runs {a b : Bx} (ha : Okx a) (hb : Okx b) {w : List Int} (h : tellV a b 0 0 = some w) : runV a w ≠ runV b w := by
  have h0 := ha.n1
  have h0' := hb.n1
  intro e
  have h2 := (tell_some ha hb (by omega) (by omega) h).2.1
  have e1 := run_get a w (k := w.length) (Nat.le_refl _)
  have e2 := run_get b w (k := w.length) (Nat.le_refl _)
  rw [List.take_length] at e1 e2
  rw [e] at e1
  exact h2 (e1.symm.trans e2)
end Go.Proofs.Ytkjnhdkbojcojaa
