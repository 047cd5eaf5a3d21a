/- Mathematics of amounts: ways, counts, greatest weights first. -/
import Derived.Test.YtlhlcchimammlaaMF
namespace Go.Proofs.Ytlhlcchimammlaa

/-- In how many ways the first k weights make up n. -/
def wy (w : List Int) : Nat → Nat → Int
  | 0, n => if n = 0 then 1 else 0
  | k + 1, n => if _h : 1 ≤ (w.getD k 0).toNat ∧ (w.getD k 0).toNat ≤ n then wy w k n + wy w (k + 1) (n - (w.getD k 0).toNat) else wy w k n
termination_by k n => (k, n)
decreasing_by all_goals first | exact Prod.Lex.left _ _ (Nat.lt_succ_self _) | exact Prod.Lex.right _ (by omega)
theorem wy_zero (w : List Int) (n : Nat) : wy w 0 n = if n = 0 then 1 else 0 := by rw [wy]
theorem wy_low {w : List Int} {k n : Nat} (h : n < (w.getD k 0).toNat) : wy w (k + 1) n = wy w k n := by
  rw [wy, dif_neg (by omega)]
theorem wy_up {w : List Int} {k n : Nat} (h0 : 1 ≤ (w.getD k 0).toNat) (h : (w.getD k 0).toNat ≤ n) : wy w (k + 1) n = wy w k n + wy w (k + 1) (n - (w.getD k 0).toNat) := by
  rw [wy, dif_pos ⟨h0, h⟩]
theorem wy_nn (w : List Int) : ∀ (k n : Nat), 0 ≤ wy w k n
  | 0, n => by rw [wy_zero]; split <;> omega
  | k + 1, n => by
    rw [wy]
    split
    · have := wy_nn w k n
      have := wy_nn w (k + 1) (n - (w.getD k 0).toNat)
      omega
    · exact wy_nn w k n
termination_by k n => (k, n)
decreasing_by all_goals first | exact Prod.Lex.left _ _ (Nat.lt_succ_self _) | exact Prod.Lex.right _ (by omega)
theorem wy_bd (w : List Int) : ∀ (k n : Nat), wy w k n ≤ ((n + 1) ^ k : Nat)
  | 0, n => by rw [wy_zero]; split <;> simp
  | k + 1, n => by
    have h1 := wy_bd w k n
    rw [wy]
    split
    · rename_i h
      have h2 := wy_bd w (k + 1) (n - (w.getD k 0).toNat)
      have h3 : (n - (w.getD k 0).toNat + 1) ^ (k + 1) ≤ n * (n + 1) ^ k := by
        rw [Nat.pow_succ, Nat.mul_comm]
        exact Nat.mul_le_mul (by omega) (Nat.pow_le_pow_left (by omega) k)
      have h4 : (n + 1) ^ (k + 1) = (n + 1) ^ k + n * (n + 1) ^ k := by rw [Nat.pow_succ, Nat.mul_comm, Nat.add_mul, Nat.one_mul]; omega
      rw [h4]
      omega
    · have h4 : (n + 1) ^ k ≤ (n + 1) ^ (k + 1) := Nat.pow_le_pow_right (by omega) (by omega)
      omega
termination_by k n => (k, n)
decreasing_by all_goals first | exact Prod.Lex.left _ _ (Nat.lt_succ_self _) | exact Prod.Lex.right _ (by omega)
theorem take_snocI {w : List Int} {k : Nat} (h : k < w.length) : w.take (k + 1) = w.take k ++ [w.getD k 0] := by
  rw [List.take_succ_eq_append_getElem h, List.getD_eq_getElem?_getD, List.getElem?_eq_getElem h]
  rfl
theorem mk_snoc {w : List Int} {x : Int} {n : Nat} : (∃ c, Mk (w ++ [x]) n c) ↔ (∃ c, Mk w n c) ∨ (x.toNat ≤ n ∧ ∃ c, Mk (w ++ [x]) (n - x.toNat) c) := by
  constructor
  · rintro ⟨c, h⟩
    by_cases hu : ∃ m d, Mk (w ++ [x]) m d ∧ m + x.toNat = n
    · obtain ⟨m, d, hm, rfl⟩ := hu
      exact .inr ⟨by omega, d, hm.cast (by omega) rfl⟩
    · left
      refine ⟨c, ?_⟩
      induction h with
      | zero => exact .zero
      | @add n c y h hy ih =>
        rcases List.mem_append.1 hy with hy' | hy'
        · refine (ih ?_).add hy'
          rintro ⟨m, d, hm, rfl⟩
          exact hu ⟨m + y.toNat, _, hm.add hy, by omega⟩
        · obtain rfl := List.mem_singleton.1 hy'
          exact absurd ⟨n, c, h, rfl⟩ hu
  · rintro (⟨c, h⟩ | ⟨hle, c, h⟩)
    · exact ⟨c, h.mono fun y hy => List.mem_append_left _ hy⟩
    · exact ⟨_, (h.add (x := x) (by simp)).cast (by omega) rfl⟩
/-- There is a way just where it is made up. -/
theorem wy_pos {w : List Int} (hw : Wt w) : ∀ (k n : Nat), k ≤ w.length → (0 < wy w k n ↔ ∃ c, Mk (w.take k) n c)
  | 0, n, _ => by
    rw [wy_zero]
    constructor
    · intro h
      by_cases h0 : n = 0
      · subst h0; exact ⟨0, .zero⟩
      · rw [if_neg h0] at h; omega
    · rintro ⟨c, h⟩
      rcases h.last with ⟨rfl, _⟩ | ⟨_, _, y, _, hy, _⟩
      · rw [if_pos rfl]; omega
      · simp at hy
  | k + 1, n, hk => by
    have hx : w.getD k 0 ∈ w := by rw [List.getD_eq_getElem?_getD, List.getElem?_eq_getElem (by omega)]; exact List.getElem_mem _
    have hx1 := hw _ hx
    have hwk : Wt (w.take k) := fun y hy => hw y (List.mem_of_mem_take hy)
    rw [take_snocI (by omega), mk_snoc, ← wy_pos hw k n (by omega)]
    have n1 := wy_nn w k n
    by_cases hle : (w.getD k 0).toNat ≤ n
    · have n2 := wy_nn w (k + 1) (n - (w.getD k 0).toNat)
      have ih := wy_pos hw (k + 1) (n - (w.getD k 0).toNat) hk
      rw [take_snocI (by omega)] at ih
      rw [wy_up (by omega) hle, ← ih]
      omega
    · rw [wy_low (by omega)]
      omega
termination_by k n => (k, n)
decreasing_by all_goals first | exact Prod.Lex.left _ _ (Nat.lt_succ_self _) | exact Prod.Lex.right _ (by omega)
theorem wy_mu {w : List Int} (hw : Wt w) (n : Nat) : decide (0 < wy w w.length n) = mu w n := by
  rw [Bool.eq_iff_iff, decide_eq_true_eq, wy_pos hw _ _ (Nat.le_refl _), mu_iff hw, List.take_length]
theorem wy_one (w : List Int) (h0 : 1 ≤ (w.getD 0 0).toNat) (n : Nat) : wy w 1 n = if n % (w.getD 0 0).toNat = 0 then 1 else 0 := by
  induction n using Nat.strongRecOn with
  | _ n ih =>
    by_cases hle : (w.getD 0 0).toNat ≤ n
    · rw [wy_up h0 hle, ih _ (by omega), wy_zero, if_neg (by omega), Int.zero_add, Nat.mod_eq_sub_mod hle]
    · rw [wy_low (by omega), wy_zero, Nat.mod_eq_of_lt (by omega)]
theorem pow4 {n : Nat} (h : n ≤ 200) : ((n + 1) ^ 4 : Nat) ≤ 1632240801 := by
  have := Nat.pow_le_pow_left (show n + 1 ≤ 201 by omega) 4
  exact Nat.le_trans this (by decide)
theorem wy_max {w : List Int} {k n : Nat} (hk : k ≤ 4) (hn : n ≤ 200) : wy w k n ≤ 1632240801 := by
  have h1 := wy_bd w k n
  have h2 : (n + 1) ^ k ≤ (n + 1) ^ 4 := Nat.pow_le_pow_right (by omega) hk
  have h3 := pow4 hn
  omega

/-- The amount of counts, and how many they are. -/
def dotV (w cs : List Int) : Int := ((List.range w.length).map fun i => cs.getD i 0 * w.getD i 0).sum
def dotTo (w cs : List Int) (k : Nat) : Int := ((List.range k).map fun i => cs.getD i 0 * w.getD i 0).sum
theorem dotTo_succ (w cs : List Int) (k : Nat) : dotTo w cs (k + 1) = dotTo w cs k + cs.getD k 0 * w.getD k 0 := by
  unfold dotTo; rw [List.range_succ, List.map_append, List.sum_append]; simp
/-- Counts that are right: from 0 to 2000. -/
def cntB (cs : List Int) (k : Nat) : Bool := decide (0 ≤ cs.getD k 0) && decide (cs.getD k 0 ≤ 2000)
def CntTo (cs : List Int) (k : Nat) : Prop := ∀ i, i < k → 0 ≤ cs.getD i 0 ∧ cs.getD i 0 ≤ 2000
theorem dotTo_bd {w cs : List Int} (hw : Wt w) : ∀ {k : Nat}, k ≤ w.length → CntTo cs k → 0 ≤ dotTo w cs k ∧ dotTo w cs k ≤ 60000 * k
  | 0, _, _ => by simp [dotTo]
  | k + 1, hk, h => by
    have ih := dotTo_bd hw (k := k) (by omega) fun i hi => h i (by omega)
    have h1 := h k (by omega)
    have hx : w.getD k 0 ∈ w := by rw [List.getD_eq_getElem?_getD, List.getElem?_eq_getElem (by omega)]; exact List.getElem_mem _
    have h2 := hw _ hx
    rw [dotTo_succ]
    have h3 := Int.mul_nonneg h1.1 (by omega : 0 ≤ w.getD k 0)
    have h4 : cs.getD k 0 * w.getD k 0 ≤ 2000 * 30 := Int.le_trans (Int.mul_le_mul_of_nonneg_right h1.2 (by omega)) (Int.mul_le_mul_of_nonneg_left h2.2 (by omega))
    omega
/-- Counts of weights make up their amount. -/
theorem dot_mk {w cs : List Int} (hw : Wt w) : ∀ {k : Nat}, k ≤ w.length → (∀ i, i < k → 0 ≤ cs.getD i 0) → ∃ n c : Nat, Mk (w.take k) n c ∧ (n : Int) = dotTo w cs k ∧ (c : Int) = ((List.range k).map fun i => cs.getD i 0).sum
  | 0, _, _ => ⟨0, 0, .zero, by simp [dotTo], by simp⟩
  | k + 1, hk, h => by
    obtain ⟨n, c, h1, h2, h3⟩ := dot_mk hw (k := k) (by omega) fun i hi => h i (by omega)
    have hx : w.getD k 0 ∈ w := by rw [List.getD_eq_getElem?_getD, List.getElem?_eq_getElem (by omega)]; exact List.getElem_mem _
    have hx1 := hw _ hx
    have hc := h k (by omega)
    rw [take_snocI (by omega)]
    refine ⟨_, _, (h1.mono fun y hy => List.mem_append_left _ hy).plus ((Mk.one (w := w.take k ++ [w.getD k 0]) (x := w.getD k 0) (by simp)).times (cs.getD k 0).toNat), ?_, ?_⟩
    · rw [dotTo_succ, Int.natCast_add, h2, Int.natCast_mul, Int.toNat_of_nonneg hc, Int.toNat_of_nonneg (by omega)]
    · rw [List.range_succ, List.map_append, List.sum_append, ← h3]
      simp only [List.map_cons, List.map_nil, List.sum_cons, List.sum_nil]
      omega
end Go.Proofs.Ytlhlcchimammlaa
