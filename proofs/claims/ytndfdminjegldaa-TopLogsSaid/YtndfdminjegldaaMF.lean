/- Mathematics: how the table is filled. -/
import Derived.Test.YtndfdminjegldaaME
namespace Go.Proofs.Ytndfdminjegldaa

/-- The numbers that may not be more than the next one of the table. -/
def bdF (l m : List Int) (c : Cst) (t s : Nat) (u : Nat) : Int := bd c (dd l m c) t s ((eds l m t s).getD u 0)
/-- The table where the place (t, s) is the next one. -/
def FilTo (l m : List Int) (c : Cst) (L : List Int) (N M t s : Nat) : Prop := ∀ r k, r < N → k < M → L.getD (r * M + k) 0 = if r < t ∨ (r = t ∧ k < s) then dd l m c r k else 0
/-- The table where the number at (t, s) is the least so far. -/
def InTo (l m : List Int) (c : Cst) (L : List Int) (N M t s u : Nat) : Prop := ∀ r k, r < N → k < M → L.getD (r * M + k) 0 = if r < t ∨ (r = t ∧ k < s) then dd l m c r k else if r = t ∧ k = s then pm (bdF l m c t s) u else 0
variable {l m L : List Int} {c : Cst} {N M t s u : Nat}
theorem fil_zero : FilTo l m c (List.replicate (N * M) 0) N M 0 0 := fun r k _ _ => by
  rw [if_neg (by omega)]
  by_cases h : r * M + k < N * M
  · simp [List.getD_eq_getElem?_getD, h]
  · rw [List.getD_eq_getElem?_getD, List.getElem?_eq_none (by simp; omega)]; rfl
theorem fil_row (h : FilTo l m c L N M t M) : FilTo l m c L N M (t + 1) 0 := fun r k hr hk => by
  rw [h r k hr hk]
  by_cases h1 : r < t ∨ (r = t ∧ k < M)
  · rw [if_pos h1, if_pos (by omega)]
  · rw [if_neg h1, if_neg (by omega)]
theorem in_start (h : FilTo l m c L N M t s) : InTo l m c L N M t s 0 := fun r k hr hk => by
  rw [h r k hr hk]
  by_cases h1 : r < t ∨ (r = t ∧ k < s)
  · rw [if_pos h1, if_pos h1]
  · rw [if_neg h1, if_neg h1]
    split <;> rfl
theorem in_end (h : InTo l m c L N M t s (eds l m t s).length) : FilTo l m c L N M t (s + 1) := fun r k hr hk => by
  rw [h r k hr hk]
  by_cases h1 : r < t ∨ (r = t ∧ k < s)
  · rw [if_pos h1, if_pos (by omega)]
  · rw [if_neg h1]
    by_cases h2 : r = t ∧ k = s
    · obtain ⟨rfl, rfl⟩ := h2
      rw [if_pos ⟨rfl, rfl⟩, if_pos (by omega)]
      exact dd_pm l m c r k
    · rw [if_neg h2, if_neg (by omega)]
theorem in_here (h : InTo l m c L N M t s u) (ht : t < N) (hs : s < M) : L.getD (t * M + s) 0 = pm (bdF l m c t s) u := by
  rw [h t s ht hs, if_neg (by omega), if_pos ⟨rfl, rfl⟩]
theorem in_before (h : InTo l m c L N M t s u) (ht : t < N) (hs : s < M) {e : Int} (he : edOk t s e) : L.getD (bfR t e * M + bfK s e) 0 = dd l m c (bfR t e) (bfK s e) := by
  have := bf_le he
  rw [h _ _ (by omega) (by omega), if_pos (by omega)]
theorem in_bd (h : InTo l m c L N M t s u) (ht : t < N) (hs : s < M) {e : Int} (he : edOk t s e) : L.getD (bfR t e * M + bfK s e) 0 + (if e = 0 then c.o else if e = 1 then c.i else if e = 3 then 0 else c.h) = bd c (dd l m c) t s e := by
  rw [in_before h ht hs he, bd_bf c _ t s he]
theorem in_less (h : InTo l m c L N M t s u) (hn : ¬ (u = 0 ∨ bdF l m c t s u < pm (bdF l m c t s) u)) : InTo l m c L N M t s (u + 1) := fun r k hr hk => by
  rw [h r k hr hk, pm_succ, if_neg hn]
theorem in_take {L' : List Int} (h : InTo l m c L N M t s u) (hn : u = 0 ∨ bdF l m c t s u < pm (bdF l m c t s) u) (hL : ∀ r k, r < N → k < M → L'.getD (r * M + k) 0 = if r = t ∧ k = s then bdF l m c t s u else L.getD (r * M + k) 0) : InTo l m c L' N M t s (u + 1) := fun r k hr hk => by
  rw [hL r k hr hk, pm_succ, if_pos hn, h r k hr hk]
  by_cases h2 : r = t ∧ k = s
  · rw [if_pos h2, if_neg (by omega), if_pos h2]
  · rw [if_neg h2]
    by_cases h1 : r < t ∨ (r = t ∧ k < s)
    · rw [if_pos h1, if_pos h1]
    · rw [if_neg h1, if_neg h1, if_neg h2, if_neg h2]
theorem eds_take (l m : List Int) {r k : Nat} : eds (l.take r) (m.take k) r k = eds l m r k := by
  unfold eds
  by_cases h1 : 0 < r
  · by_cases h2 : 0 < k
    · have e1 : (l.take r).getD (r - 1) 0 = l.getD (r - 1) 0 := by rw [List.getD_eq_getElem?_getD, List.getD_eq_getElem?_getD, List.getElem?_take, if_pos (by omega)]
      have e2 : (m.take k).getD (k - 1) 0 = m.getD (k - 1) 0 := by rw [List.getD_eq_getElem?_getD, List.getD_eq_getElem?_getD, List.getElem?_take, if_pos (by omega)]
      rw [e1, e2]
    · simp [h2]
  · simp [h1]
theorem bdF_bd (hc : c.ok) (h : u < (eds l m t s).length) (ht : t ≤ 10) (hs : s ≤ 10) : 0 ≤ bdF l m c t s u ∧ bdF l m c t s u ≤ 200 := by
  have he := eds_ok h
  have hb := bf_le he
  unfold bdF
  rw [bd_bf c _ t s he]
  have := dd_bd (l := l) (m := m) hc (bfR t ((eds l m t s).getD u 0)) (bfK s ((eds l m t s).getD u 0))
  unfold Cst.ok at hc
  split
  · omega
  · split
    · omega
    · split <;> omega
end Go.Proofs.Ytndfdminjegldaa
