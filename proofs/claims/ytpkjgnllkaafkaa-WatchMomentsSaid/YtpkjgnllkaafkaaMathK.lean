import Derived.Test.YtpkjgnllkaafkaaMathI
/- All sets that are alone, one after another, as the document tries them; no program. -/
namespace Go.Proofs.Ytpkjgnllkaafkaa

/-- The sets of the first i, and the last q of them with i where that is alone. -/
def setsQ (l : Ls) (i q : Nat) : List (List Int) := setsTo l i ++ (((setsTo l i).reverse.take q).map (· ++ [(i : Int)])).filter (aloneB l)
theorem setsQ_zero (l : Ls) (i : Nat) : setsQ l i 0 = setsTo l i := by simp [setsQ]
theorem setsQ_all {l : Ls} {i q : Nat} (h : (setsTo l i).length ≤ q) : setsQ l i q = setsTo l (i + 1) := by
  unfold setsQ
  rw [List.take_of_length_le (by simpa using h)]
  rfl
theorem setsQ_get {l : Ls} {i q k : Nat} (h : k < (setsTo l i).length) : (setsQ l i q).getD k [] = (setsTo l i).getD k [] := by
  unfold setsQ
  rw [List.getD_eq_getElem?_getD, List.getElem?_append_left h, List.getD_eq_getElem?_getD]
theorem setsQ_len_le (l : Ls) (i q : Nat) : (setsTo l i).length ≤ (setsQ l i q).length := by simp [setsQ]
theorem setsQ_len (l : Ls) {i : Nat} (q : Nat) (h : i ≤ 11) : (setsQ l i q).length ≤ 4096 := by
  have h1 := setsTo_len l i
  have h2 := List.length_filter_le (aloneB l) (((setsTo l i).reverse.take q).map (· ++ [(i : Int)]))
  have h3 := List.length_take_le' q (setsTo l i).reverse
  rw [List.length_reverse] at h3
  rw [List.length_map] at h2
  have h4 : 2 ^ i ≤ 2 ^ 11 := Nat.pow_le_pow_right (by omega) h
  unfold setsQ
  rw [List.length_append]
  omega
theorem setsQ_take {l : Ls} {i q k : Nat} (h : q + k + 1 = (setsTo l i).length) : (setsTo l i).reverse.take (q + 1) = (setsTo l i).reverse.take q ++ [(setsTo l i).getD k []] := by
  rw [List.take_succ_eq_append_getElem (by rw [List.length_reverse]; omega), List.getElem_reverse]
  have e : (setsTo l i).length - 1 - q = k := by omega
  simp [List.getD_eq_getElem?_getD, show k < (setsTo l i).length by omega, e]
theorem setsQ_yes {l : Ls} {i q k : Nat} {s : List Int} (h : q + k + 1 = (setsTo l i).length) (hs : (setsTo l i).getD k [] = s) (ha : aloneB l (s ++ [(i : Int)]) = true) : setsQ l i (q + 1) = setsQ l i q ++ [s ++ [(i : Int)]] := by
  unfold setsQ
  rw [setsQ_take h, hs, List.map_append, List.filter_append, List.append_assoc]
  congr 2
  simp [ha]
theorem setsQ_no {l : Ls} {i q k : Nat} {s : List Int} (h : q + k + 1 = (setsTo l i).length) (hs : (setsTo l i).getD k [] = s) (ha : aloneB l (s ++ [(i : Int)]) = false) : setsQ l i (q + 1) = setsQ l i q := by
  unfold setsQ
  rw [setsQ_take h, hs, List.map_append, List.filter_append]
  simp [ha]
theorem setsTo_mem {l : Ls} {i k : Nat} {s : List Int} (h : k < (setsTo l i).length) (hs : (setsTo l i).getD k [] = s) : (∀ x ∈ s, 0 ≤ x ∧ x < i) ∧ s.length ≤ i := by
  have hm : s ∈ setsTo l i := by
    rw [← hs, List.getD_eq_getElem?_getD, List.getElem?_eq_getElem h]
    exact List.getElem_mem _
  have ha := (mem_setsTo.1 hm).1
  exact ⟨ha.rng, asc_len ha⟩
theorem setsTo_one (l : Ls) : setsTo l 0 = [[]] := rfl
theorem best_one_len : best lenI [[]] = 0 := rfl
theorem best_one_pay (l : Ls) : best (payI l) [[]] = 0 := rfl
end Go.Proofs.Ytpkjgnllkaafkaa
