/- Mathematics: how the counts are filled. -/
import Derived.Test.YtndfdminjegldaaMF
namespace Go.Proofs.Ytndfdminjegldaa

def st0 (t s : Nat) : Int := if t = 0 ∧ s = 0 then 1 else 0
def CFil (l m : List Int) (c : Cst) (L : List Int) (N M t s : Nat) : Prop := ∀ r k, r < N → k < M → L.getD (r * M + k) 0 = if r < t ∨ (r = t ∧ k < s) then cq l m c r k else st0 r k
def smF (l m : List Int) (c : Cst) (t s u : Nat) : Int := smE (cq l m c) t s (les l m c t s) u
def CIn (l m : List Int) (c : Cst) (L : List Int) (N M t s u : Nat) : Prop := ∀ r k, r < N → k < M → L.getD (r * M + k) 0 = if r < t ∨ (r = t ∧ k < s) then cq l m c r k else if r = t ∧ k = s then st0 t s + smF l m c t s u else st0 r k
variable {l m L L' : List Int} {c : Cst} {N M t s u : Nat}
theorem cfil_zero (hM : 0 < M) (hN : 0 < N) : CFil l m c ((List.replicate (N * M) 0).set 0 1) N M 0 0 := fun r k _ hk => by
  rw [if_neg (by omega)]
  have hNM : 0 < N * M := Nat.mul_pos hN hM
  unfold st0
  rw [List.getD_eq_getElem?_getD, List.getElem?_set]
  by_cases e : 0 = r * M + k
  · rw [if_pos e, if_pos (by simpa using hNM)]
    have hk0 : k = 0 := by omega
    have hr0 : r = 0 := by
      rcases Nat.eq_zero_or_pos r with h | h
      · exact h
      · have := Nat.mul_pos h hM; omega
    rw [if_pos ⟨hr0, hk0⟩]; rfl
  · rw [if_neg e, if_neg (by rintro ⟨rfl, rfl⟩; simp at e)]
    by_cases h : r * M + k < N * M
    · simp [h]
    · rw [List.getElem?_eq_none (by simp; omega)]; rfl
theorem cfil_row (h : CFil l m c L N M t M) : CFil l m c L N M (t + 1) 0 := fun r k hr hk => by
  rw [h r k hr hk]
  by_cases h1 : r < t ∨ (r = t ∧ k < M)
  · rw [if_pos h1, if_pos (by omega)]
  · rw [if_neg h1, if_neg (by omega)]
theorem cin_start (h : CFil l m c L N M t s) : CIn l m c L N M t s 0 := fun r k hr hk => by
  rw [h r k hr hk]
  by_cases h1 : r < t ∨ (r = t ∧ k < s)
  · rw [if_pos h1, if_pos h1]
  · rw [if_neg h1, if_neg h1]
    split
    · rename_i h2; obtain ⟨rfl, rfl⟩ := h2; simp [smF, smE]
    · rfl
theorem cin_here (h : CIn l m c L N M t s u) (ht : t < N) (hs : s < M) : L.getD (t * M + s) 0 = st0 t s + smF l m c t s u := by
  rw [h t s ht hs, if_neg (by omega), if_pos ⟨rfl, rfl⟩]
theorem cin_before (h : CIn l m c L N M t s u) (ht : t < N) (hs : s < M) {r k : Nat} (h1 : r ≤ t) (h2 : k ≤ s) (h3 : r + k < t + s) : L.getD (r * M + k) 0 = cq l m c r k := by
  rw [h _ _ (by omega) (by omega), if_pos (by omega)]
theorem cin_add (h : CIn l m c L N M t s u) (hu : u < (les l m c t s).length) (hL : ∀ r k, r < N → k < M → L'.getD (r * M + k) 0 = if r = t ∧ k = s then st0 t s + smF l m c t s u + cq l m c (bfR t ((les l m c t s).getD u 0)) (bfK s ((les l m c t s).getD u 0)) else L.getD (r * M + k) 0) : CIn l m c L' N M t s (u + 1) := fun r k hr hk => by
  rw [hL r k hr hk, h r k hr hk]
  by_cases h2 : r = t ∧ k = s
  · rw [if_pos h2, if_neg (by omega), if_pos h2]
    unfold smF
    rw [smE_succ _ _ _ _ hu, Int.add_assoc]
  · rw [if_neg h2]
    by_cases h1 : r < t ∨ (r = t ∧ k < s)
    · rw [if_pos h1, if_pos h1]
    · rw [if_neg h1, if_neg h1, if_neg h2, if_neg h2]
theorem cin_end (h : CIn l m c L N M t s (les l m c t s).length) (hL : ∀ r k, r < N → k < M → L'.getD (r * M + k) 0 = if r = t ∧ k = s then st0 t s + smF l m c t s (les l m c t s).length - twi l m c (cq l m c) t s else L.getD (r * M + k) 0) : CFil l m c L' N M t (s + 1) := fun r k hr hk => by
  rw [hL r k hr hk, h r k hr hk]
  by_cases h2 : r = t ∧ k = s
  · obtain ⟨rfl, rfl⟩ := h2
    rw [if_pos ⟨rfl, rfl⟩, if_pos (by omega)]
    by_cases h0 : r = 0 ∧ k = 0
    · obtain ⟨rfl, rfl⟩ := h0
      simp [st0, smF, smE, les, eds, twi, cq_zero]
    · rw [cq_step l m c h0]
      unfold st0 smF
      rw [if_neg h0]
      omega
  · rw [if_neg h2]
    by_cases h1 : r < t ∨ (r = t ∧ k < s)
    · rw [if_pos h1, if_pos (by omega)]
    · rw [if_neg h1, if_neg h2, if_neg (by omega)]
theorem smF_bd (h : t + s ≤ 20) (hu : u ≤ (les l m c t s).length) : -3298534883328 ≤ smF l m c t s u ∧ smF l m c t s u ≤ 3298534883328 := by
  have h3 := les_len l m c t s
  have hb : ∀ e ∈ les l m c t s, bfR t e + bfK s e ≤ 20 := fun e he => by have := bf_le (les_all e he); omega
  -- outside the range the numbers do not matter: take them as 0
  have hC : smF l m c t s u = smE (fun a b => if a + b ≤ 20 then cq l m c a b else 0) t s (les l m c t s) u := smE_congr u les_all fun a b hab => by rw [if_pos (by omega)]
  have := smE_bd (C := fun a b => if a + b ≤ 20 then cq l m c a b else 0) (B := 1099511627776) (by decide) (fun a b => by
    show -1099511627776 ≤ (if a + b ≤ 20 then cq l m c a b else 0) ∧ (if a + b ≤ 20 then cq l m c a b else 0) ≤ 1099511627776
    split
    · rename_i hab; exact cq_bd l m c hab
    · omega) t s (les l m c t s) u hu (by omega)
  rw [hC]
  omega
theorem twi_bd (h : t + s ≤ 20) : -1099511627776 ≤ twi l m c (cq l m c) t s ∧ twi l m c (cq l m c) t s ≤ 1099511627776 := by
  unfold twi
  split
  · omega
  · exact cq_bd l m c (by omega)
theorem les_snoc (l m : List Int) (c : Cst) (r k : Nat) {u : Nat} (h : u < (eds l m r k).length) : ((eds l m r k).take (u + 1)).filter (fun e => bd c (dd l m c) r k e == dd l m c r k) =
    if bd c (dd l m c) r k ((eds l m r k).getD u 0) = dd l m c r k then ((eds l m r k).take u).filter (fun e => bd c (dd l m c) r k e == dd l m c r k) ++ [(eds l m r k).getD u 0] else ((eds l m r k).take u).filter (fun e => bd c (dd l m c) r k e == dd l m c r k) := by
  have e0 : (eds l m r k)[u] = (eds l m r k).getD u 0 := by rw [List.getD_eq_getElem?_getD, List.getElem?_eq_getElem h]; rfl
  rw [List.take_succ_eq_append_getElem h, List.filter_append, e0]
  generalize (eds l m r k).getD u 0 = z
  split
  · rename_i h1; simp [h1]
  · rename_i h1; simp [h1]
end Go.Proofs.Ytndfdminjegldaa
