/- Sorting by exchanges of neighbours; a sorted list is what the library's sort makes. -/
namespace Go.Proofs.Ytllfkhcpdgdmnaa

def gi (L : List Int) (k : Nat) : Int := L.getD k 0
/-- The elements at j - 1 and j exchanged. -/
def swi (L : List Int) (j : Nat) : List Int := (L.set j (gi L (j - 1))).set (j - 1) (gi L j)
theorem swi_len (L : List Int) (j : Nat) : (swi L j).length = L.length := by simp [swi]
theorem swi_perm {L : List Int} {j : Nat} (h0 : 0 < j) (hj : j < L.length) : (swi L j).Perm L := by
  have e1 : gi L (j - 1) = L[j - 1] := by simp [gi, List.getD_eq_getElem?_getD, show j - 1 < L.length by omega]
  have e2 : gi L j = L[j] := by simp [gi, List.getD_eq_getElem?_getD, hj]
  rw [swi, e1, e2]
  exact List.set_set_perm hj (by omega)
theorem gi_swi {L : List Int} {j k : Nat} (h0 : 0 < j) (hj : j < L.length) : gi (swi L j) k = if k = j then gi L (j - 1) else if k = j - 1 then gi L j else gi L k := by
  unfold swi gi
  simp only [List.getD_eq_getElem?_getD, List.getElem?_set, List.length_set]
  by_cases h1 : k = j - 1
  · subst h1
    rw [if_pos rfl, if_pos (by omega), if_neg (by omega), if_pos rfl]; rfl
  · rw [if_neg (Ne.symm h1), if_neg h1]
    by_cases h2 : k = j
    · subst h2; rw [if_pos rfl, if_pos hj, if_pos rfl]; rfl
    · rw [if_neg (Ne.symm h2), if_neg h2]

/-- The first i + 1 are in order but for the one at j. -/
def NearI (L : List Int) (i j : Nat) : Prop := ∀ a b, a < b → b ≤ i → b ≠ j → (gi L a) ≤ (gi L b)
/-- The first i are in order. -/
def UptoI (L : List Int) (i : Nat) : Prop := ∀ a b, a < b → b < i → (gi L a) ≤ (gi L b)
theorem neari_start {L : List Int} {i : Nat} (h : UptoI L i) : NearI L i i := fun a b h1 h2 h3 => h a b h1 (by omega)
theorem neari_swi {L : List Int} {i j : Nat} (h : NearI L i j) (h0 : 0 < j) (hj : j ≤ i) (hi : i < L.length) (hc : (gi L j) < (gi L (j - 1))) : NearI (swi L j) i (j - 1) := by
  intro a b h1 h2 h3
  rw [gi_swi h0 (by omega), gi_swi h0 (by omega)]
  by_cases hb : b = j
  · subst hb
    rw [if_pos rfl, if_neg (by omega)]
    by_cases ha : a = b - 1
    · rw [if_pos ha]; omega
    · rw [if_neg ha]; exact h a (b - 1) (by omega) (by omega) (by omega)
  · rw [if_neg hb, if_neg h3]
    by_cases ha : a = j
    · rw [if_pos ha]; exact h (j - 1) b (by omega) h2 hb
    · rw [if_neg ha]
      by_cases ha2 : a = j - 1
      · rw [if_pos ha2]; exact h j b (by omega) h2 hb
      · rw [if_neg ha2]; exact h a b h1 h2 hb
theorem neari_stop {L : List Int} {i j : Nat} (h : NearI L i j) (hj : j ≤ i) (hc : j = 0 ∨ (gi L (j - 1)) ≤ (gi L j)) : UptoI L (i + 1) := by
  intro a b h1 h2
  by_cases hb : b = j
  · subst hb
    rcases hc with hc | hc
    · omega
    · by_cases ha : a = b - 1
      · rw [ha]; exact hc
      · have := h a (b - 1) (by omega) (by omega) (by omega); omega
  · exact h a b h1 (by omega) hb
theorem uptoi_one (L : List Int) {i : Nat} (h : i ≤ 1) : UptoI L i := fun a b h1 h2 => by omega
theorem uptoi_sorted {L : List Int} (h : UptoI L L.length) : L.Pairwise fun x y => x ≤ y := by
  rw [List.pairwise_iff_getElem]
  intro a b ha hb hab
  have := h a b hab hb
  simpa [gi, List.getD_eq_getElem?_getD, ha, hb] using this
theorem sorted_unique : ∀ {L M : List Int}, L.Perm M → L.Pairwise (· ≤ ·) → M.Pairwise (· ≤ ·) → L = M
  | [], M, h, _, _ => (List.nil_perm.1 h).symm
  | x :: L, [], h, _, _ => absurd h.length_eq (by simp)
  | x :: L, y :: M, h, h1, h2 => by
    have a1 := List.pairwise_cons.1 h1
    have a2 := List.pairwise_cons.1 h2
    have e : x = y := by
      have hx : x ∈ y :: M := h.mem_iff.1 (by simp)
      have hy : y ∈ x :: L := h.mem_iff.2 (by simp)
      rcases List.mem_cons.1 hx with e | hx
      · exact e
      · rcases List.mem_cons.1 hy with e | hy
        · exact e.symm
        · have := a1.1 y hy
          have := a2.1 x hx
          omega
    subst e
    rw [sorted_unique (List.Perm.cons_inv h) a1.2 a2.2]
end Go.Proofs.Ytllfkhcpdgdmnaa
