import Derived.Test.YtpkjgnllkaafkaaMathH
/- The pairs of shifts that overlap, one after another; no program. -/
namespace Go.Proofs.Ytpkjgnllkaafkaa

/-- Of the first i, those that overlap the one at j, with j. -/
def rowTo (l : Ls) (j i : Nat) : List (Nat × Nat) := ((List.range i).filter fun i => ovB (l.getD i sh0) (l.getD j sh0)).map fun i => (i, j)
def allp (l : Ls) (k : Nat) : List (Nat × Nat) := (List.range k).flatMap fun j => rowTo l j j
theorem rowTo_zero (l : Ls) (j : Nat) : rowTo l j 0 = [] := rfl
theorem rowTo_yes {l : Ls} {j i : Nat} (h : ovB (l.getD i sh0) (l.getD j sh0) = true) : rowTo l j (i + 1) = rowTo l j i ++ [(i, j)] := by
  have e : [i].filter (fun i => ovB (l.getD i sh0) (l.getD j sh0)) = [i] := List.filter_cons_of_pos (p := fun i => ovB (l.getD i sh0) (l.getD j sh0)) h
  simp only [rowTo, List.range_succ, List.filter_append, List.map_append, e]
  rfl
theorem rowTo_no {l : Ls} {j i : Nat} (h : ovB (l.getD i sh0) (l.getD j sh0) = false) : rowTo l j (i + 1) = rowTo l j i := by
  have e : [i].filter (fun i => ovB (l.getD i sh0) (l.getD j sh0)) = [] := List.filter_cons_of_neg (p := fun i => ovB (l.getD i sh0) (l.getD j sh0)) (by rw [h]; simp)
  simp only [rowTo, List.range_succ, List.filter_append, List.map_append, e]
  simp
theorem allp_zero (l : Ls) : allp l 0 = [] := rfl
theorem allp_succ (l : Ls) (k : Nat) : allp l (k + 1) = allp l k ++ rowTo l k k := by simp [allp, List.range_succ]
theorem rowTo_len (l : Ls) (j i : Nat) : (rowTo l j i).length ≤ i := by
  unfold rowTo
  rw [List.length_map]
  have := List.length_filter_le (fun i => ovB (l.getD i sh0) (l.getD j sh0)) (List.range i)
  rw [List.length_range] at this
  exact this
theorem allp_len (l : Ls) : ∀ k, k ≤ 12 → (allp l k).length ≤ 12 * k
  | 0, _ => by simp [allp]
  | k + 1, h => by
    have h1 := allp_len l k (by omega)
    have h2 := rowTo_len l k k
    rw [allp_succ, List.length_append]
    omega
theorem mem_allp {l : Ls} {k : Nat} {p : Nat × Nat} : p ∈ allp l k ↔ p.1 < p.2 ∧ p.2 < k ∧ ovB (l.getD p.1 sh0) (l.getD p.2 sh0) = true := by
  obtain ⟨i, j⟩ := p
  simp only [allp, rowTo, List.mem_flatMap, List.mem_range, List.mem_map, List.mem_filter, Prod.mk.injEq]
  constructor
  · rintro ⟨j', hj, i', ⟨hi, ho⟩, rfl, rfl⟩
    exact ⟨hi, hj, ho⟩
  · rintro ⟨hi, hj, ho⟩
    exact ⟨j, hj, i, ⟨hi, ho⟩, rfl, rfl⟩
theorem right_all {l : Ls} {r : List Int} (h : ∀ p ∈ allp l l.length, r.getD p.1 0 ≠ r.getD p.2 0) : Right l r := by
  intro i j hij hj ho
  exact h (i, j) (mem_allp.2 ⟨hij, hj, ho⟩)
theorem right_not {l : Ls} {r : List Int} {p : Nat × Nat} (hp : p ∈ allp l l.length) (h : r.getD p.1 0 = r.getD p.2 0) : ¬ Right l r := by
  intro hR
  obtain ⟨h1, h2, h3⟩ := mem_allp.1 hp
  exact hR p.1 p.2 h1 h2 h3 h
theorem rowTo_pre (l : Ls) (j i : Nat) : ∀ m, i ≤ m → ∃ q, rowTo l j i ++ q = rowTo l j m
  | 0, h => ⟨[], by rw [List.append_nil, show i = 0 by omega]⟩
  | m + 1, h => by
    by_cases e : i = m + 1
    · exact ⟨[], by rw [List.append_nil, e]⟩
    · obtain ⟨q, hq⟩ := rowTo_pre l j i m (by omega)
      cases ho : ovB (l.getD m sh0) (l.getD j sh0) with
      | true => exact ⟨q ++ [(m, j)], by rw [rowTo_yes ho, ← hq, List.append_assoc]⟩
      | false => exact ⟨q, by rw [rowTo_no ho, hq]⟩
theorem allp_pre' (l : Ls) (j : Nat) : ∀ n, j ≤ n → ∃ q, allp l j ++ q = allp l n
  | 0, h => ⟨[], by rw [List.append_nil, show j = 0 by omega]⟩
  | n + 1, h => by
    by_cases e : j = n + 1
    · exact ⟨[], by rw [List.append_nil, e]⟩
    · obtain ⟨q, hq⟩ := allp_pre' l j n (by omega)
      exact ⟨q ++ rowTo l n n, by rw [allp_succ, ← hq, List.append_assoc]⟩
theorem allp_pre (l : Ls) {j k n : Nat} (hk : k < j) (hj : j < n) : ∃ q, (allp l j ++ rowTo l j (k + 1)) ++ q = allp l n := by
  obtain ⟨q1, h1⟩ := rowTo_pre l j (k + 1) j (by omega)
  obtain ⟨q2, h2⟩ := allp_pre' l (j + 1) n (by omega)
  refine ⟨q1 ++ q2, ?_⟩
  rw [← h2, allp_succ, ← h1]
  simp only [List.append_assoc]
end Go.Proofs.Ytpkjgnllkaafkaa
