/- What words lead to, found breadth first; plain mathematics, no program. -/
import Derived.Test.YtkjnhdkbojcojaaMA
namespace Go.Proofs.Ytkjnhdkbojcojaa

theorem pigeon : ∀ (a : Nat) (f : Nat → Nat), (∀ i, i ≤ a → f i < a) → ∃ i j, i < j ∧ j ≤ a ∧ f i = f j
  | 0, f, h => absurd (h 0 (Nat.le_refl _)) (Nat.not_lt_zero _)
  | a + 1, f, h => by
    by_cases hx : ∃ i, i < a + 1 ∧ f i = f (a + 1)
    · obtain ⟨i, hi, e⟩ := hx
      exact ⟨i, a + 1, hi, Nat.le_refl _, e⟩
    · have hne : ∀ i, i < a + 1 → f i ≠ f (a + 1) := fun i hi e => hx ⟨i, hi, e⟩
      obtain ⟨i, j, hij, hj, e⟩ := pigeon a (fun i => if f i = a then f (a + 1) else f i) (fun i hi => by
        have h1 := h i (by omega)
        have h2 := hne i (by omega)
        have h3 := h (a + 1) (Nat.le_refl _)
        split <;> omega)
      refine ⟨i, j, hij, by omega, ?_⟩
      have h1 := hne i (by omega)
      have h2 := hne j (by omega)
      split at e <;> split at e <;> omega
/-- A list without doubles whose members have different numbers below N. -/
theorem few_of {α : Type} (c : α → Nat) {N : Nat} {l : List α} (hd : l.Nodup) (h : ∀ x ∈ l, c x < N) (hi : ∀ x ∈ l, ∀ y ∈ l, c x = c y → x = y) : l.length ≤ N := by
  rcases Nat.lt_or_ge N l.length with hlt | hle
  · exfalso
    obtain ⟨i, j, hij, hj, e⟩ := pigeon N (fun i => if h : i < l.length then c l[i] else 0) (fun i hi' => by
      rw [dif_pos (by omega)]
      exact h _ (List.getElem_mem _))
    rw [dif_pos (by omega), dif_pos (by omega)] at e
    have := hi _ (List.getElem_mem _) _ (List.getElem_mem _) e
    exact List.pairwise_iff_getElem.1 hd i j (by omega) (by omega) hij this
  · exact hle

abbrev Pl (α : Type) := List (α × List Int)
section
variable {α : Type} [DecidableEq α] (f : α → Int → α)
def hasP (L : Pl α) (x : α) : Bool := L.any (fun e => decide (e.1 = x))
def addP (L : Pl α) (x : α) (w : List Int) : Pl α := if hasP L x then L else L ++ [(x, w)]
def halfP (L : Pl α) (e : α × List Int) : Pl α := addP L (f e.1 0) (e.2 ++ [0])
def expP (L : Pl α) (e : α × List Int) : Pl α := addP (halfP f L e) (f e.1 1) (e.2 ++ [1])
/-- What is found when r of what was found are gone through. -/
def plN (x0 : α) : Nat → Pl α
  | 0 => [(x0, [])]
  | r + 1 => match (plN x0 r)[r]? with
    | some e => expP f (plN x0 r) e
    | none => plN x0 r
theorem hasP_iff {L : Pl α} {x : α} : hasP L x = true ↔ x ∈ L.map Prod.fst := by simp [hasP]
theorem addP_pre (L : Pl α) (x : α) (w : List Int) : ∃ M, addP L x w = L ++ M ∧ M.length ≤ 1 := by
  unfold addP
  split
  · exact ⟨[], by simp, by simp⟩
  · exact ⟨_, rfl, by simp⟩
theorem halfP_pre (L : Pl α) (e : α × List Int) : ∃ M, halfP f L e = L ++ M ∧ M.length ≤ 1 := addP_pre _ _ _
theorem expP_pre (L : Pl α) (e : α × List Int) : ∃ M, expP f L e = L ++ M := by
  obtain ⟨M, h, _⟩ := halfP_pre f L e
  obtain ⟨M', h', _⟩ := addP_pre (halfP f L e) (f e.1 1) (e.2 ++ [1])
  exact ⟨M ++ M', by unfold expP; rw [h', h, List.append_assoc]⟩
variable {f}
theorem plN_some {x0 : α} {r : Nat} {e : α × List Int} (h : (plN f x0 r)[r]? = some e) : plN f x0 (r + 1) = expP f (plN f x0 r) e := by
  show (match (plN f x0 r)[r]? with | some e => _ | none => _) = _
  rw [h]
theorem plN_none {x0 : α} {r : Nat} (h : (plN f x0 r)[r]? = none) : plN f x0 (r + 1) = plN f x0 r := by
  show (match (plN f x0 r)[r]? with | some e => _ | none => _) = _
  rw [h]
theorem plN_step (x0 : α) (r : Nat) : ∃ M, plN f x0 (r + 1) = plN f x0 r ++ M := by
  cases h : (plN f x0 r)[r]? with
  | none => exact ⟨[], by rw [plN_none h, List.append_nil]⟩
  | some e => rw [plN_some h]; exact expP_pre f _ e
theorem plN_pre (x0 : α) (r : Nat) : ∀ k, ∃ M, plN f x0 (r + k) = plN f x0 r ++ M
  | 0 => ⟨[], by simp⟩
  | k + 1 => by
    obtain ⟨M, h⟩ := plN_pre x0 r k
    obtain ⟨M', h'⟩ := plN_step (f := f) x0 (r + k)
    exact ⟨M ++ M', by rw [← Nat.add_assoc, h', h, List.append_assoc]⟩
theorem plN_get {x0 : α} {r k i : Nat} (hi : i < (plN f x0 r).length) (hr : r ≤ k) : (plN f x0 k)[i]? = (plN f x0 r)[i]? := by
  obtain ⟨M, h⟩ := plN_pre (f := f) x0 r (k - r)
  rw [show r + (k - r) = k by omega] at h
  rw [h, List.getElem?_append_left hi]
theorem plN_len {x0 : α} {r k : Nat} (hr : r ≤ k) : (plN f x0 r).length ≤ (plN f x0 k).length := by
  obtain ⟨M, h⟩ := plN_pre (f := f) x0 r (k - r)
  rw [show r + (k - r) = k by omega] at h
  rw [h, List.length_append]; omega
theorem plN_done {x0 : α} {r : Nat} (h : (plN f x0 r).length ≤ r) : ∀ k, plN f x0 (r + k) = plN f x0 r
  | 0 => rfl
  | k + 1 => by
    have ih := plN_done h k
    rw [← Nat.add_assoc, plN_none, ih]
    rw [ih]
    exact List.getElem?_eq_none (by omega)
theorem plN_end {x0 : α} {r N : Nat} (h : (plN f x0 r).length ≤ r) (hN : r ≤ N) : plN f x0 N = plN f x0 r := by
  have := plN_done h (N - r)
  rwa [show r + (N - r) = N by omega] at this
/-- What holds of the first one and goes on holds of all. -/
structure Inv (P : α → Prop) (x0 : α) (L : Pl α) : Prop where
  nd : (L.map Prod.fst).Nodup
  all : ∀ e ∈ L, P e.1
  leads : ∀ e ∈ L, e.1 = e.2.foldl f x0 ∧ ∀ x ∈ e.2, x = 0 ∨ x = 1
variable {P : α → Prop} {x0 : α}
theorem Inv.add {L : Pl α} (h : Inv (f := f) P x0 L) {e : α × List Int} (he : e ∈ L) (hP : ∀ x k, P x → P (f x k)) (k : Int) (hk : k = 0 ∨ k = 1) : Inv (f := f) P x0 (addP L (f e.1 k) (e.2 ++ [k])) := by
  unfold addP
  by_cases hh : hasP L (f e.1 k) = true
  · rw [if_pos hh]; exact h
  · rw [if_neg hh]
    rw [hasP_iff] at hh
    refine ⟨?_, fun e' he' => ?_, fun e' he' => ?_⟩
    · rw [List.map_append, List.nodup_append]
      refine ⟨h.nd, by simp, fun a ha b hb => ?_⟩
      simp at hb
      subst hb
      intro e2
      exact hh (e2 ▸ ha)
    · rcases List.mem_append.1 he' with h1 | h1
      · exact h.all e' h1
      · simp at h1; subst h1; exact hP _ _ (h.all e he)
    · rcases List.mem_append.1 he' with h1 | h1
      · exact h.leads e' h1
      · simp at h1; subst h1
        have := h.leads e he
        refine ⟨by simp [List.foldl_append, this.1], fun x hx => ?_⟩
        rcases List.mem_append.1 hx with h2 | h2
        · exact this.2 x h2
        · simp at h2; subst h2; exact hk
theorem mem_addP {L : Pl α} {e : α × List Int} (h : e ∈ L) (x : α) (w : List Int) : e ∈ addP L x w := by
  obtain ⟨M, h1, _⟩ := addP_pre L x w
  rw [h1]; exact List.mem_append_left _ h
theorem inv_plN (h0 : P x0) (hP : ∀ x k, P x → P (f x k)) : ∀ r, Inv (f := f) P x0 (plN f x0 r)
  | 0 => ⟨by simp [plN], fun e he => by simp [plN] at he; subst he; exact h0, fun e he => by simp [plN] at he; subst he; simp⟩
  | r + 1 => by
    have ih := inv_plN h0 hP r
    cases h : (plN f x0 r)[r]? with
    | none => rw [plN_none h]; exact ih
    | some e =>
      rw [plN_some h]
      have he : e ∈ plN f x0 r := List.mem_of_getElem? h
      have h1 := ih.add he hP 0 (.inl rfl)
      exact h1.add (mem_addP he _ _) hP 1 (.inr rfl)
theorem plN_bound (c : α → Nat) {N : Nat} (h0 : P x0) (hP : ∀ x k, P x → P (f x k)) (hc : ∀ x, P x → c x < N) (hi : ∀ x y, P x → P y → c x = c y → x = y) (r : Nat) : (plN f x0 r).length ≤ N := by
  have h := inv_plN (f := f) h0 hP r
  have := few_of c h.nd (N := N) (fun x hx => by
    obtain ⟨e, he, rfl⟩ := List.mem_map.1 hx
    exact hc _ (h.all e he)) (fun x hx y hy => by
    obtain ⟨e, he, rfl⟩ := List.mem_map.1 hx
    obtain ⟨e', he', rfl⟩ := List.mem_map.1 hy
    exact hi _ _ (h.all e he) (h.all e' he'))
  rwa [List.length_map] at this

/-- Where a place is found, or -1. -/
def idxP (L : Pl α) (p : α → Bool) : Int := match L.findIdx? (fun e => p e.1) with | some i => (i : Int) | none => -1
/-- The word of the first place that is wanted. -/
def firstW (L : Pl α) (p : α → Bool) : Option (List Int) := (L.find? (fun e => p e.1)).map Prod.snd
end
end Go.Proofs.Ytkjnhdkbojcojaa
