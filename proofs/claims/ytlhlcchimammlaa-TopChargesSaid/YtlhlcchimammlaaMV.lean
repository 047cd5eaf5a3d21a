/- Mathematics: which weights are right. -/
import Derived.Test.YtlhlcchimammlaaMG
namespace Go.Proofs.Ytlhlcchimammlaa

def okW (xs : List Int) (i : Nat) : Bool := decide (1 ≤ xs.getD i 0 ∧ xs.getD i 0 ≤ 30 ∧ (i = 0 ∨ xs.getD (i - 1) 0 < xs.getD i 0))
def OkW (xs : List Int) (n : Nat) : Prop := ∀ i, i < n → okW xs i = true
def errW (xs : List Int) : Int := if 1 ≤ xs.length ∧ xs.length ≤ 4 then (if (List.range xs.length).all (okW xs) then 0 else 1) else 3
theorem okW_iff {xs : List Int} {i : Nat} : okW xs i = true ↔ 1 ≤ xs.getD i 0 ∧ xs.getD i 0 ≤ 30 ∧ (i = 0 ∨ xs.getD (i - 1) 0 < xs.getD i 0) := by
  unfold okW; rw [decide_eq_true_eq]
theorem okW_zero (xs : List Int) : OkW xs 0 := fun _ h => absurd h (Nat.not_lt_zero _)
theorem okW_succ {xs : List Int} {k : Nat} (h : OkW xs k) (hk : okW xs k = true) : OkW xs (k + 1) := fun i hi => by
  by_cases e : i = k
  · subst e; exact hk
  · exact h i (by omega)
theorem errW_large {xs : List Int} (h : ¬ (1 ≤ xs.length ∧ xs.length ≤ 4)) : errW xs = 3 := if_neg h
theorem errW_arg {xs : List Int} (h : 1 ≤ xs.length ∧ xs.length ≤ 4) {k : Nat} (hk : k < xs.length) (he : okW xs k = false) : errW xs = 1 := by
  unfold errW
  rw [if_pos h, if_neg]
  rw [List.all_eq_true]
  intro h'
  rw [h' k (List.mem_range.2 hk)] at he
  cases he
theorem errW_fine {xs : List Int} (h : 1 ≤ xs.length ∧ xs.length ≤ 4) (ho : OkW xs xs.length) : errW xs = 0 := by
  unfold errW
  rw [if_pos h, if_pos]
  rw [List.all_eq_true]
  exact fun k hk => ho k (List.mem_range.1 hk)
theorem errW_rng (xs : List Int) : errW xs = 0 ∨ errW xs = 1 ∨ errW xs = 3 := by
  unfold errW
  split
  · split <;> omega
  · omega
theorem errW_vw {xs : List Int} : errW xs = 0 ↔ VW xs := by
  constructor
  · intro h
    unfold errW at h
    split at h
    · rename_i hl
      split at h
      · rename_i ho
        rw [List.all_eq_true] at ho
        have ho' : ∀ i, i < xs.length → _ := fun i hi => okW_iff.1 (ho i (List.mem_range.2 hi))
        refine ⟨hl.1, hl.2, fun x hx => ?_, ?_⟩
        · obtain ⟨k, hk, e⟩ := List.getElem_of_mem hx
          have := ho' k hk
          rw [List.getD_eq_getElem?_getD, List.getElem?_eq_getElem hk, Option.getD_some, e] at this
          omega
        · rw [List.pairwise_iff_getElem]
          intro i j hi hj hij
          have key : ∀ d, ∀ i, i + d + 1 < xs.length → xs.getD i 0 < xs.getD (i + d + 1) 0 := by
            intro d
            induction d with
            | zero =>
              intro i h
              have := (ho' (i + 1) (by omega)).2.2
              rcases this with h' | h'
              · omega
              · simpa using h'
            | succ d ih =>
              intro i h
              have h1 := ih i (by omega)
              have h2 := (ho' (i + d + 1 + 1) (by omega)).2.2
              rcases h2 with h' | h'
              · omega
              · rw [show i + d + 1 + 1 - 1 = i + d + 1 by omega] at h'
                rw [show i + (d + 1) + 1 = i + d + 1 + 1 by omega]
                omega
          have := key (j - i - 1) i (by omega)
          rw [show i + (j - i - 1) + 1 = j by omega] at this
          rw [List.getD_eq_getElem?_getD, List.getD_eq_getElem?_getD, List.getElem?_eq_getElem hi, List.getElem?_eq_getElem hj] at this
          exact this
      · omega
    · omega
  · rintro ⟨h1, h2, h3, h4⟩
    refine errW_fine ⟨h1, h2⟩ fun i hi => okW_iff.2 ?_
    have hx : xs.getD i 0 ∈ xs := by rw [List.getD_eq_getElem?_getD, List.getElem?_eq_getElem hi]; exact List.getElem_mem _
    refine ⟨(h3 _ hx).1, (h3 _ hx).2, ?_⟩
    by_cases h0 : i = 0
    · exact .inl h0
    · right
      have := List.pairwise_iff_getElem.1 h4 (i - 1) i (by omega) hi (by omega)
      rw [List.getD_eq_getElem?_getD, List.getD_eq_getElem?_getD, List.getElem?_eq_getElem hi, List.getElem?_eq_getElem (show i - 1 < xs.length by omega)]
      exact this
def prevW (xs : List Int) (k : Nat) : Int := if k = 0 then 0 else xs.getD (k - 1) 0
theorem prevW_succ (xs : List Int) (k : Nat) : prevW xs (k + 1) = xs.getD k 0 := by unfold prevW; rw [if_neg (by omega)]; rfl
theorem prevW_bd {xs : List Int} {k : Nat} (h : OkW xs k) : 0 ≤ prevW xs k ∧ prevW xs k ≤ 30 := by
  unfold prevW
  split
  · omega
  · have := okW_iff.1 (h (k - 1) (by omega)); omega
theorem okW_prev {xs : List Int} {k : Nat} (h : OkW xs k) : okW xs k = true ↔ prevW xs k < xs.getD k 0 ∧ xs.getD k 0 ≤ 30 := by
  rw [okW_iff]
  unfold prevW
  by_cases e : k = 0
  · rw [if_pos e]; omega
  · rw [if_neg e]
    have := okW_iff.1 (h (k - 1) (by omega))
    omega
/-- The error of weights and an amount. -/
def errA (xs : List Int) (n : Int) : Int := if errW xs = 0 then (if 0 ≤ n ∧ n ≤ 2000 then 0 else 1) else errW xs
theorem errA_ok {xs : List Int} {n : Int} : errA xs n = 0 ↔ VW xs ∧ 0 ≤ n ∧ n ≤ 2000 := by
  unfold errA
  rw [← errW_vw]
  split
  · split <;> omega
  · omega
theorem errA_no {xs : List Int} {n : Int} (h : errW xs ≠ 0) : errA xs n = errW xs := if_neg h
theorem errA_arg {xs : List Int} {n : Int} (h : errW xs = 0) (hn : ¬ (0 ≤ n ∧ n ≤ 2000)) : errA xs n = 1 := by unfold errA; rw [if_pos h, if_neg hn]
theorem errA_fine {xs : List Int} {n : Int} (h : errW xs = 0) (hn : 0 ≤ n ∧ n ≤ 2000) : errA xs n = 0 := by unfold errA; rw [if_pos h, if_pos hn]
end Go.Proofs.Ytlhlcchimammlaa
