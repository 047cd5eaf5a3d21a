import Derived.Test.YtpkjgnllkaafkaaMathA
/- Sorting by insertion, as swaps; no program. -/
namespace Go.Proofs.Ytpkjgnllkaafkaa

/-- A shift with its number. -/
abbrev Nm := Int × Int × Int × Int
abbrev nm0 : Nm := (0, 0, 0, 0)
abbrev Ns := List Nm
def gt (L : Ns) (k : Nat) : Nm := L.getD k nm0
/-- The elements at j - 1 and j exchanged. -/
def swp (L : Ns) (j : Nat) : Ns := (L.set j (gt L (j - 1))).set (j - 1) (gt L j)
theorem swp_len (L : Ns) (j : Nat) : (swp L j).length = L.length := by simp [swp]
theorem swp_perm {L : Ns} {j : Nat} (h0 : 0 < j) (hj : j < L.length) : (swp L j).Perm L := by
  have e1 : gt L (j - 1) = L[j - 1] := by simp [gt, List.getD_eq_getElem?_getD, show j - 1 < L.length by omega]
  have e2 : gt L j = L[j] := by simp [gt, List.getD_eq_getElem?_getD, hj]
  rw [swp, e1, e2]
  exact List.set_set_perm hj (by omega)
theorem gt_swp {L : Ns} {j k : Nat} (h0 : 0 < j) (hj : j < L.length) : gt (swp L j) k = if k = j then gt L (j - 1) else if k = j - 1 then gt L j else gt L k := by
  unfold swp gt
  simp only [List.getD_eq_getElem?_getD, List.getElem?_set, List.length_set]
  by_cases h1 : k = j - 1
  · subst h1
    rw [if_pos rfl, if_pos (by omega), if_neg (by omega), if_pos rfl]; rfl
  · rw [if_neg (Ne.symm h1), if_neg h1]
    by_cases h2 : k = j
    · subst h2; rw [if_pos rfl, if_pos hj, if_pos rfl]; rfl
    · rw [if_neg (Ne.symm h2), if_neg h2]

/-- The first i + 1 are in order but for the one at j. -/
def Near (key : Nm → Int) (L : Ns) (i j : Nat) : Prop := ∀ a b, a < b → b ≤ i → b ≠ j → key (gt L a) ≤ key (gt L b)
/-- The first i are in order. -/
def Upto (key : Nm → Int) (L : Ns) (i : Nat) : Prop := ∀ a b, a < b → b < i → key (gt L a) ≤ key (gt L b)
theorem near_start {key : Nm → Int} {L : Ns} {i : Nat} (h : Upto key L i) : Near key L i i := fun a b h1 h2 h3 => h a b h1 (by omega)
theorem near_swp {key : Nm → Int} {L : Ns} {i j : Nat} (h : Near key L i j) (h0 : 0 < j) (hj : j ≤ i) (hi : i < L.length) (hc : key (gt L j) < key (gt L (j - 1))) : Near key (swp L j) i (j - 1) := by
  intro a b h1 h2 h3
  rw [gt_swp h0 (by omega), gt_swp h0 (by omega)]
  by_cases hb : b = j
  · subst hb
    rw [if_pos rfl, if_neg (by omega)]
    by_cases ha : a = b - 1
    · rw [if_pos ha]; omega
    · rw [if_neg ha]; exact h a (b - 1) (by omega) (by omega) (by omega)
  · rw [if_neg hb, if_neg h3]
    by_cases ha : a = j
    · rw [if_pos ha]; exact h (j - 1) b (by omega) h2 hb
    · rw [if_neg ha]
      by_cases ha2 : a = j - 1
      · rw [if_pos ha2]; exact h j b (by omega) h2 hb
      · rw [if_neg ha2]; exact h a b h1 h2 hb
theorem near_stop {key : Nm → Int} {L : Ns} {i j : Nat} (h : Near key L i j) (hj : j ≤ i) (hc : j = 0 ∨ key (gt L (j - 1)) ≤ key (gt L j)) : Upto key L (i + 1) := by
  intro a b h1 h2
  by_cases hb : b = j
  · subst hb
    rcases hc with hc | hc
    · omega
    · by_cases ha : a = b - 1
      · rw [ha]; exact hc
      · have := h a (b - 1) (by omega) (by omega) (by omega); omega
  · exact h a b h1 (by omega) hb
theorem upto_one (key : Nm → Int) (L : Ns) {i : Nat} (h : i ≤ 1) : Upto key L i := fun a b h1 h2 => by omega
theorem upto_sorted {key : Nm → Int} {L : Ns} (h : Upto key L L.length) : L.Pairwise fun x y => key x ≤ key y := by
  rw [List.pairwise_iff_getElem]
  intro a b ha hb hab
  have := h a b hab hb
  simpa [gt, List.getD_eq_getElem?_getD, ha, hb] using this

/-- The shifts with their numbers. -/
def num (l : Ls) : Ns := (List.range l.length).map fun i => ((l.getD i sh0).1, (l.getD i sh0).2.1, (l.getD i sh0).2.2, (i : Int))
def kf (x : Nm) : Int := x.1
def kt (x : Nm) : Int := x.2.1
theorem num_len (l : Ls) : (num l).length = l.length := by simp [num]
theorem gt_num {l : Ls} {k : Nat} (h : k < l.length) : gt (num l) k = ((l.getD k sh0).1, (l.getD k sh0).2.1, (l.getD k sh0).2.2, (k : Int)) := by
  simp [gt, num, List.getD_eq_getElem?_getD, h]
theorem num_from (l : Ls) : (num l).map kf = l.map (·.1) := by
  apply List.ext_getElem
  · simp [num]
  · intro i h1 h2
    simp [num, kf, List.getD_eq_getElem?_getD, show i < l.length by simpa [num] using h1]
/-- A row of the shifts with their numbers, in the order of a key. -/
structure Ord (key : Nm → Int) (l : Ls) (L : Ns) : Prop where
  perm : L.Perm (num l)
  sorted : L.Pairwise fun x y => key x ≤ key y
theorem Ord.len {key : Nm → Int} {l : Ls} {L : Ns} (h : Ord key l L) : L.length = l.length := by rw [h.perm.length_eq, num_len]
theorem peak_ord {l : Ls} (ok : ∀ s ∈ l, okS s = true) {L : Ns} (h : Ord kf l L) : scan (cnt l) (L.map kf) = scan (cnt l) (moms 1001) := by
  refine peak_eq ok ?_ ?_
  · rw [← num_from]; exact h.perm.map _
  · rw [List.pairwise_map]; exact h.sorted
end Go.Proofs.Ytpkjgnllkaafkaa
