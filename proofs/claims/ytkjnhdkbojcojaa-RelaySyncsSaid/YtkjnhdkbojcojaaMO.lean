/- What breadth first finds has the shortest words; kinds by rounds are those by words; plain mathematics, no program. -/
import Derived.Test.YtkjnhdkbojcojaaMD
namespace Go.Proofs.Ytkjnhdkbojcojaa

section
variable {α : Type} [DecidableEq α] {f : α → Int → α} {x0 : α}
/-- The words do not get shorter. -/
def Up (L : Pl α) : Prop := L.Pairwise fun e e' => e.2.length ≤ e'.2.length
theorem up_add {L : Pl α} {K : Nat} (h : Up L) (hK : ∀ e ∈ L, e.2.length ≤ K) {w : List Int} (hw : w.length = K) (x : α) : Up (addP L x w) ∧ ∀ e ∈ addP L x w, e.2.length ≤ K := by
  unfold addP
  split
  · exact ⟨h, hK⟩
  · refine ⟨?_, fun e he => ?_⟩
    · rw [Up, List.pairwise_append]
      refine ⟨h, by simp, fun a ha b hb => ?_⟩
      simp at hb; subst hb
      have := hK a ha
      show a.2.length ≤ w.length
      omega
    · rcases List.mem_append.1 he with h1 | h1
      · exact hK e h1
      · simp at h1; subst h1
        show w.length ≤ K
        omega
theorem up_exp {L : Pl α} {e0 : α × List Int} (h : Up L) (hK : ∀ e ∈ L, e.2.length ≤ e0.2.length + 1) : Up (expP f L e0) ∧ ∀ e ∈ expP f L e0, e.2.length ≤ e0.2.length + 1 := by
  have h1 := up_add h hK (w := e0.2 ++ [0]) (by simp) (f e0.1 0)
  exact up_add h1.1 h1.2 (w := e0.2 ++ [1]) (by simp) (f e0.1 1)
omit [DecidableEq α] in
theorem up_get {L : Pl α} (h : Up L) {i j : Nat} {e e' : α × List Int} (hij : i ≤ j) (he : L[i]? = some e) (he' : L[j]? = some e') : e.2.length ≤ e'.2.length := by
  obtain ⟨hi, rfl⟩ := List.getElem?_eq_some_iff.1 he
  obtain ⟨hj, rfl⟩ := List.getElem?_eq_some_iff.1 he'
  rcases Nat.lt_or_ge i j with hlt | hge
  · exact List.pairwise_iff_getElem.1 h i j hi hj hlt
  · obtain rfl : i = j := by omega
    exact Nat.le_refl _
theorem up_plN : ∀ r, Up (plN f x0 r) ∧ ∀ e, (plN f x0 r)[r]? = some e → ∀ e' ∈ plN f x0 r, e'.2.length ≤ e.2.length + 1
  | 0 => ⟨by simp [Up, plN], fun e _ e' he' => by simp [plN] at he'; subst he'; simp⟩
  | r + 1 => by
    obtain ⟨h1, h2⟩ := up_plN r
    cases h : (plN f x0 r)[r]? with
    | none =>
      rw [plN_none h]
      refine ⟨h1, fun e he => ?_⟩
      have := List.getElem?_eq_none_iff.1 h
      rw [List.getElem?_eq_none (by omega)] at he
      cases he
    | some e0 =>
      have h3 := up_exp (f := f) h1 (h2 e0 h)
      have h4 : (plN f x0 (r + 1))[r]? = some e0 := by
        rw [plN_get (by have := List.getElem?_eq_some_iff.1 h; exact this.1) (Nat.le_succ r)]; exact h
      rw [plN_some h] at h4 ⊢
      refine ⟨h3.1, fun e he e' he' => ?_⟩
      have a1 := h3.2 e' he'
      have a2 := up_get h3.1 (Nat.le_succ r) h4 he
      omega
/-- What is found at all is found when as many are gone through. -/
theorem plN_at {R i : Nat} {e : α × List Int} (hi : i ≤ R) (h : (plN f x0 R)[i]? = some e) : (plN f x0 i)[i]? = some e := by
  rcases Nat.lt_or_ge i (plN f x0 i).length with hl | hl
  · rw [← plN_get hl hi]; exact h
  · rw [plN_end hl hi, List.getElem?_eq_none hl] at h
    cases h
theorem hasP_add (L : Pl α) (x : α) {w : List Int} {K : Nat} (hK : ∀ e ∈ L, e.2.length ≤ K) (hw : w.length = K) : ∃ e ∈ addP L x w, e.1 = x ∧ e.2.length ≤ K := by
  unfold addP
  by_cases hh : hasP L x = true
  · rw [if_pos hh]
    rw [hasP_iff] at hh
    obtain ⟨e, he, rfl⟩ := List.mem_map.1 hh
    exact ⟨e, he, rfl, hK e he⟩
  · rw [if_neg hh]
    exact ⟨(x, w), by simp, rfl, by simp only; omega⟩
/-- For each word there is a place with the same end and a word that is no longer. -/
theorem plN_short {R : Nat} (hR : (plN f x0 R).length ≤ R) : ∀ (n : Nat) (u : List Int), u.length = n → Inp u → ∃ e ∈ plN f x0 R, e.1 = u.foldl f x0 ∧ e.2.length ≤ u.length
  | 0, u, hu, _ => by
    obtain rfl : u = [] := List.length_eq_zero_iff.1 hu
    obtain ⟨M, hM⟩ := plN_pre (f := f) x0 0 R
    rw [Nat.zero_add] at hM
    exact ⟨(x0, []), by rw [hM]; simp [plN], rfl, Nat.le_refl _⟩
  | n + 1, u, hu, hi => by
    have hne : u ≠ [] := by intro e; rw [e] at hu; cases hu
    have hu2 := List.dropLast_concat_getLast hne
    generalize u.dropLast = v at hu2
    generalize u.getLast hne = k at hu2
    subst hu2
    have hv : v.length = n := by simpa using hu
    have hiv : Inp v := fun x hx => hi x (List.mem_append_left _ hx)
    have hk : k = 0 ∨ k = 1 := hi k (by simp)
    obtain ⟨e, he, h1, h2⟩ := plN_short hR n v hv hiv
    obtain ⟨i, hil, rfl⟩ := List.mem_iff_getElem.1 he
    have hat := plN_at (by omega) (List.getElem?_eq_getElem hil)
    generalize (plN f x0 R)[i] = e at *
    have hK := (up_plN (f := f) (x0 := x0) i).2 e hat
    obtain ⟨M, hM⟩ := plN_pre (f := f) x0 (i + 1) (R - (i + 1))
    rw [show i + 1 + (R - (i + 1)) = R by omega, plN_some hat] at hM
    rw [List.foldl_append, ← h1, List.length_append]
    have hh1 := up_add (up_plN (f := f) (x0 := x0) i).1 hK (w := e.2 ++ [0]) (by simp) (f e.1 0)
    rcases hk with rfl | rfl
    · obtain ⟨e', he', h3, h4⟩ := hasP_add (plN f x0 i) (f e.1 0) (w := e.2 ++ [0]) hK (by simp)
      refine ⟨e', by rw [hM]; exact List.mem_append_left _ (mem_addP he' _ _), h3, ?_⟩
      simp only [List.length_cons, List.length_nil]
      omega
    · obtain ⟨e', he', h3, h4⟩ := hasP_add (halfP f (plN f x0 i) e) (f e.1 1) (w := e.2 ++ [1]) hh1.2 (by simp)
      refine ⟨e', by rw [hM]; exact List.mem_append_left _ he', h3, ?_⟩
      simp only [List.length_cons, List.length_nil]
      omega
theorem plN_mem {R : Nat} (hR : (plN f x0 R).length ≤ R) {u : List Int} (hu : Inp u) : ∃ e ∈ plN f x0 R, e.1 = u.foldl f x0 ∧ e.2.length ≤ u.length := plN_short hR _ u rfl hu
omit [DecidableEq α] in
theorem find_up : ∀ {L : Pl α} {p : α → Bool} {e e' : α × List Int}, Up L → L.find? (fun e => p e.1) = some e → e' ∈ L → p e'.1 = true → e.2.length ≤ e'.2.length
  | [], _, _, _, _, h, _, _ => by cases h
  | a :: L, p, e, e', hu, h, hm, hp => by
    rw [Up, List.pairwise_cons] at hu
    rw [List.find?_cons] at h
    cases ha : p a.1 with
    | true =>
      rw [ha] at h
      simp only at h
      injection h with h
      subst h
      rcases List.mem_cons.1 hm with rfl | hm
      · exact Nat.le_refl _
      · exact hu.1 e' hm
    | false =>
      rw [ha] at h
      rcases List.mem_cons.1 hm with rfl | hm
      · rw [ha] at hp; cases hp
      · exact find_up hu.2 h hm hp
/-- The first word that leads to what is wanted is a shortest one. -/
theorem first_short {R : Nat} (hR : (plN f x0 R).length ≤ R) {p : α → Bool} {w : List Int} (h : firstW (plN f x0 R) p = some w) :
    Inp w ∧ p (w.foldl f x0) = true ∧ ∀ u, Inp u → p (u.foldl f x0) = true → w.length ≤ u.length := by
  unfold firstW at h
  obtain ⟨e, he, rfl⟩ := Option.map_eq_some_iff.1 h
  have hm := List.mem_of_find?_eq_some he
  have hp := List.find?_some he
  have hl := (inv_plN (f := f) (P := fun _ => True) (x0 := x0) trivial (fun _ _ _ => trivial) R).leads e hm
  refine ⟨hl.2, by rw [← hl.1]; exact hp, fun u hu hpu => ?_⟩
  obtain ⟨e', he', h1, h2⟩ := plN_mem hR hu
  rw [← h1] at hpu
  exact Nat.le_trans (find_up (up_plN R).1 he he' hpu) h2
theorem first_none {R : Nat} (hR : (plN f x0 R).length ≤ R) {p : α → Bool} (h : firstW (plN f x0 R) p = none) {u : List Int} (hu : Inp u) : p (u.foldl f x0) = false := by
  unfold firstW at h
  rw [Option.map_eq_none_iff, List.find?_eq_none] at h
  obtain ⟨e', he', h1, _⟩ := plN_mem hR hu
  have := h e' he'
  rw [h1] at this
  simpa using this
end

section
variable {b : Bx}
/-- Kinds after r rounds: equal just where no word of fewer than r inputs tells. -/
theorem kV_iff (hb : Okx b) : ∀ (r : Nat) {s t : Nat}, s < b.2.length → t < b.2.length → ((kV b r).getD s 0 = (kV b r).getD t 0 ↔ eqR (aft b) (sgl b) r s t = true)
  | 0, s, t, hs, ht => by
    simp only [kV, eqR, iff_true]
    rw [List.getD_eq_getElem?_getD, List.getD_eq_getElem?_getD, List.getElem?_replicate, List.getElem?_replicate, if_pos hs, if_pos ht]
  | r + 1, s, t, hs, ht => by
    have key : ∀ x y, x < b.2.length → y < b.2.length → (told b (kV b r) x y = false ↔ eqR (aft b) (sgl b) (r + 1) x y = true) := by
      intro x y hx hy
      have h0 := kV_iff hb r (hb.aft_lt hx 0) (hb.aft_lt hy 0)
      have h1 := kV_iff hb r (hb.aft_lt hx 1) (hb.aft_lt hy 1)
      simp only [told, mkK, eqR, Bool.or_eq_false_iff, Bool.not_eq_false', beq_iff_eq, Bool.and_eq_true, h0, h1]
    simp only [kV]
    rw [finV_get hs, finV_get ht]
    have ls := leastS_le b (kV b r) s
    have lt := leastS_le b (kV b r) t
    have es := (key _ _ (by omega) hs).1 (leastS_told b (kV b r) s)
    have et := (key _ _ (by omega) ht).1 (leastS_told b (kV b r) t)
    constructor
    · intro h
      rw [h] at es
      exact eqR_trans (eqR_symm es) et
    · intro h
      refine leastS_eq ((key _ _ (by omega) hs).2 (eqR_trans et (eqR_symm h))) fun j hj => ?_
      have hne := leastS_first b (kV b r) t hj
      cases hc : told b (kV b r) j s with
      | true => rfl
      | false =>
        have h1 := (key j s (by omega) hs).1 hc
        have h2 := (key j t (by omega) ht).2 (eqR_trans h1 h)
        rw [hne] at h2; cases h2
theorem aft_cl (hb : Okx b) : ∀ i, i < b.2.length → ∀ k, k = 0 ∨ k = 1 → ∃ j, j < b.2.length ∧ id j = aft b (id i) k := fun i hi k _ => ⟨_, hb.aft_lt hi k, rfl⟩
/-- The kind of a state: the smallest one that no word tells. -/
theorem kinds_iff (hb : Okx b) {s t : Nat} (hs : s < b.2.length) (ht : t < b.2.length) : ((kindsV b).getD s 0 = (kindsV b).getD t 0 ↔ ∀ l, Inp l → sgl b (endV b s l) = sgl b (endV b t l)) := by
  rw [kindsV, kV_iff hb _ hs ht]
  constructor
  · intro h l hl
    exact moore_eq (g := id) (aft_cl hb) hs ht h hl
  · intro h
    exact eqR_iff.2 fun l _ hl => h l hl
theorem kinds_len (b : Bx) : (kindsV b).length = b.2.length := kV_len b _
theorem kinds_lt {s : Nat} (hs : s < b.2.length) : (kindsV b).getD s 0 < b.2.length := kV_lt _ hs
theorem kinds_le (hb : Okx b) {s : Nat} (hs : s < b.2.length) : (kindsV b).getD s 0 ≤ s := by
  have h1 := hb.n1
  unfold kindsV
  obtain ⟨m, hm⟩ : ∃ m, b.2.length = m + 1 := ⟨b.2.length - 1, by omega⟩
  rw [hm]
  simp only [kV]
  rw [finV_get hs]
  exact leastS_le _ _ _
/-- The kind of a state is of its own kind. -/
theorem kinds_self (hb : Okx b) {s : Nat} (hs : s < b.2.length) : ∀ l, Inp l → sgl b (endV b ((kindsV b).getD s 0) l) = sgl b (endV b s l) := by
  have h1 := hb.n1
  have hlt := kinds_lt (b := b) hs
  intro l hl
  have hk : told b (kV b (b.2.length - 1)) ((kindsV b).getD s 0) s = false := by
    unfold kindsV
    obtain ⟨m, hm⟩ : ∃ m, b.2.length = m + 1 := ⟨b.2.length - 1, by omega⟩
    rw [hm]
    simp only [kV, Nat.add_sub_cancel]
    rw [finV_get hs]
    exact leastS_told _ _ _
  have he : eqR (aft b) (sgl b) (b.2.length - 1 + 1) ((kindsV b).getD s 0) s = true := by
    have h0 := kV_iff hb (b.2.length - 1) (hb.aft_lt hlt 0) (hb.aft_lt hs 0)
    have h1 := kV_iff hb (b.2.length - 1) (hb.aft_lt hlt 1) (hb.aft_lt hs 1)
    simp only [told, mkK, Bool.or_eq_false_iff, Bool.not_eq_false', beq_iff_eq, h0, h1] at hk
    simp only [eqR, beq_iff_eq, Bool.and_eq_true]
    exact hk
  rw [show b.2.length - 1 + 1 = b.2.length by omega] at he
  exact moore_eq (g := id) (aft_cl hb) hlt hs he hl
theorem kinds_first (hb : Okx b) {s t : Nat} (hs : s < b.2.length) (ht : t < (kindsV b).getD s 0) : ∃ l, Inp l ∧ sgl b (endV b t l) ≠ sgl b (endV b s l) := by
  have hle := kinds_le hb hs
  have htl : t < b.2.length := by omega
  rcases Classical.em (∃ l, Inp l ∧ sgl b (endV b t l) ≠ sgl b (endV b s l)) with h | h
  · exact h
  · exfalso
    have h2 := (kinds_iff hb htl hs).2 fun l hl => by
      rcases Classical.em (sgl b (endV b t l) = sgl b (endV b s l)) with e | e
      · exact e
      · exact absurd ⟨l, hl, e⟩ h
    have := kinds_le hb htl
    omega
end
end Go.Proofs.Ytkjnhdkbojcojaa
