/- Mathematics of amounts: gaps and remainders. -/
import Derived.Test.YtlhlcchimammlaaMD
namespace Go.Proofs.Ytlhlcchimammlaa

/-- Weights are right: from 1 to 4 numbers from 1 to 30, strictly up. -/
def VW (w : List Int) : Prop := 1 ≤ w.length ∧ w.length ≤ 4 ∧ Wt w ∧ w.Pairwise (· < ·)
theorem VW.wt {w : List Int} (h : VW w) : Wt w := h.2.2.1
theorem VW.ne {w : List Int} (h : VW w) : w ≠ [] := by intro e; subst e; have := h.1; simp at this
theorem VW.fst {w : List Int} (h : VW w) : w.getD 0 0 ∈ w ∧ 1 ≤ w.getD 0 0 ∧ w.getD 0 0 ≤ 30 := by
  obtain ⟨x, l, rfl⟩ := List.exists_cons_of_ne_nil h.ne
  have := h.wt x (by simp)
  simpa using this
/-- The gaps up to 900. -/
def gapV (w : List Int) : List Int := ((List.range 901).filter fun n => !mu w n).map fun n : Nat => (n : Int)
/-- The greatest gap, or -1. -/
def topV (w : List Int) : Int := (gapV w).getLast?.getD (-1)
theorem gap_mem {w : List Int} (n : Nat) (h : n ≤ 900) : (n : Int) ∈ gapV w ↔ mu w n = false := by
  unfold gapV
  rw [List.mem_map]
  constructor
  · rintro ⟨m, hm, e⟩
    obtain rfl : m = n := by omega
    simpa using (List.mem_filter.1 hm).2
  · exact fun hg => ⟨n, List.mem_filter.2 ⟨List.mem_range.2 (by omega), by simpa using hg⟩, rfl⟩
theorem gap_sorted (w : List Int) : (gapV w).Pairwise (· < ·) := by
  unfold gapV
  rw [List.pairwise_map]
  exact (List.Pairwise.filter _ (List.pairwise_lt_range (n := 901))).imp fun h => by omega
theorem gap_rng {w : List Int} {x : Int} (h : x ∈ gapV w) : 0 ≤ x ∧ x ≤ 900 ∧ mu w x.toNat = false := by
  unfold gapV at h
  obtain ⟨m, hm, rfl⟩ := List.mem_map.1 h
  obtain ⟨h1, h2⟩ := List.mem_filter.1 hm
  have := List.mem_range.1 h1
  exact ⟨by omega, by omega, by simpa using h2⟩
theorem last_ge : ∀ {l : List Int}, l.Pairwise (· < ·) → ∀ x ∈ l, x ≤ l.getLast?.getD (-1)
  | [], _, x, hx => by simp at hx
  | y :: l, h, x, hx => by
    cases l with
    | nil => have : x = y := by simpa using hx
             subst this; simp
    | cons z l =>
      have h2 := List.pairwise_cons.1 h
      have ih := last_ge (l := z :: l) h2.2
      have e : (y :: z :: l).getLast?.getD (-1) = (z :: l).getLast?.getD (-1) := by simp [List.getLast?_cons_cons]
      rw [e]
      rcases List.mem_cons.1 hx with rfl | hx
      · have h3 := ih z (by simp)
        have h4 := h2.1 z (by simp)
        omega
      · exact ih x hx
theorem top_cases (w : List Int) : gapV w = [] ∧ topV w = -1 ∨ topV w ∈ gapV w := by
  unfold topV
  cases h : (gapV w).getLast? with
  | none => exact .inl ⟨List.getLast?_eq_none_iff.1 h, rfl⟩
  | some x => exact .inr (List.mem_of_getLast? h)
/-- All above the greatest gap is made up, where the measure is 1. -/
theorem above_top {w : List Int} (hw : VW w) (hg : gcdL w = 1) {n : Nat} (h : topV w < (n : Int)) : mu w n = true := by
  by_cases h9 : n ≤ 900
  · cases hm : mu w n with
    | true => rfl
    | false =>
      have := last_ge (gap_sorted w) _ ((gap_mem n h9).2 hm)
      unfold topV at h
      omega
  · exact (mu_iff hw.wt).2 (mk_far hw.wt hw.ne hg (by omega))
/-- An amount is made up just where it is no gap. -/
theorem gap_any {w : List Int} (hw : VW w) (hg : gcdL w = 1) (n : Nat) : (gapV w).contains (n : Int) = !mu w n := by
  cases hm : mu w n with
  | true =>
    have : ¬ (n : Int) ∈ gapV w := fun h => by have := (gap_rng h).2.2; rw [Int.toNat_natCast, hm] at this; cases this
    simpa using this
  | false =>
    have h9 : n ≤ 900 := by
      rcases Nat.lt_or_ge 900 n with h | h
      · have := (mu_iff hw.wt).2 (mk_far hw.wt hw.ne hg (n := n) (by omega))
        rw [hm] at this
        cases this
      · exact h
    simpa using (gap_mem n h9).2 hm

/-- The smallest amount that is made up and leaves r, up to N; -1 if there is none. -/
def resV (w : List Int) (N r : Nat) : Int := (((List.range (N + 1)).find? fun n => decide (n % (w.getD 0 0).toNat = r) && mu w n).map fun n : Nat => (n : Int)).getD (-1)
theorem find_small {p : Nat → Bool} {N M : Nat} (h : ∀ n, n ≤ M → p n = true → ∃ m, m ≤ N ∧ m ≤ n ∧ p m = true) (hNM : N ≤ M) : (List.range (M + 1)).find? p = (List.range (N + 1)).find? p := by
  have e : List.range (M + 1) = List.range (N + 1) ++ (List.range (M - N)).map (fun x => N + 1 + x) := by
    rw [show M + 1 = N + 1 + (M - N) by omega, List.range_add]
  rw [e, List.find?_append]
  cases hf : (List.range (N + 1)).find? p with
  | some x => rfl
  | none =>
    rw [Option.none_or, List.find?_eq_none]
    intro x hx hp
    obtain ⟨y, hy, rfl⟩ := List.mem_map.1 hx
    have hy := List.mem_range.1 hy
    obtain ⟨m, h1, _, h3⟩ := h (N + 1 + y) (by omega) hp
    exact (List.find?_eq_none.1 hf) m (List.mem_range.2 (by omega)) h3
theorem res_same {w : List Int} (hw : VW w) {N : Nat} (hN : 870 ≤ N) (r : Nat) : resV w N r = resV w 870 r := by
  unfold resV
  obtain ⟨_, h1, h2⟩ := hw.fst
  rw [find_small (N := 870) (M := N) (fun n _ hp => ?_) hN]
  simp only [Bool.and_eq_true, decide_eq_true_eq] at hp ⊢
  obtain ⟨c, hc⟩ := (mu_iff hw.wt).1 hp.2
  obtain ⟨m, d, k1, k2, k3, k4⟩ := mk_small hw.wt (a := (w.getD 0 0).toNat) (by omega) (by omega) n c hc
  exact ⟨m, k3, k2, by rw [k4, hp.1], (mu_iff hw.wt).2 ⟨d, k1⟩⟩
theorem find_least {p : Nat → Bool} {N n : Nat} (h : (List.range N).find? p = some n) : p n = true ∧ n < N ∧ ∀ m, m < n → p m = false := by
  rw [List.find?_range_eq_some] at h
  obtain ⟨h1, h2, h3⟩ := h
  exact ⟨h1, List.mem_range.1 h2, fun m hm => by simpa using h3 m hm⟩
/-- An amount is made up just where it is not below the residue of its remainder. -/
theorem res_iff {w : List Int} (hw : VW w) (n : Nat) : mu w n = (decide (0 ≤ resV w 870 (n % (w.getD 0 0).toNat)) && decide (resV w 870 (n % (w.getD 0 0).toNat) ≤ (n : Int))) := by
  obtain ⟨h0, h1, h2⟩ := hw.fst
  rw [Bool.eq_iff_iff, Bool.and_eq_true, decide_eq_true_eq, decide_eq_true_eq, mu_iff hw.wt]
  unfold resV
  cases hf : (List.range (870 + 1)).find? fun m => decide (m % (w.getD 0 0).toNat = n % (w.getD 0 0).toNat) && mu w m with
  | none =>
    refine ⟨fun ⟨c, hc⟩ => ?_, fun h => by simp only [Option.map_none, Option.getD_none] at h; omega⟩
    obtain ⟨m, d, k1, k2, k3, k4⟩ := mk_small hw.wt (a := (w.getD 0 0).toNat) (by omega) (by omega) n c hc
    exfalso
    refine (List.find?_eq_none.1 hf) m (List.mem_range.2 (by omega)) ?_
    simp only [Bool.and_eq_true, decide_eq_true_eq]
    exact ⟨k4, (mu_iff hw.wt).2 ⟨d, k1⟩⟩
  | some m =>
    simp only [Option.map_some, Option.getD_some]
    obtain ⟨k1, k2, k3⟩ := find_least hf
    simp only [Bool.and_eq_true, decide_eq_true_eq] at k1
    constructor
    · rintro ⟨c, hc⟩
      refine ⟨by omega, ?_⟩
      obtain ⟨m', d, j1, j2, j3, j4⟩ := mk_small hw.wt (a := (w.getD 0 0).toNat) (by omega) (by omega) n c hc
      rcases Nat.lt_or_ge m' m with h | h
      · have := k3 m' h
        rw [Bool.and_eq_false_iff] at this
        rcases this with h' | h'
        · rw [decide_eq_false_iff_not] at h'; exact absurd j4 h'
        · have := (mu_iff hw.wt).2 ⟨d, j1⟩
          rw [h'] at this
          cases this
      · omega
    · rintro ⟨_, hle⟩
      obtain ⟨c, hc⟩ := (mu_iff hw.wt).1 k1.2
      exact mk_up h0 (by omega) hc (by omega) k1.1
theorem res_nn {w : List Int} (hw : VW w) (hg : gcdL w = 1) (r : Nat) : 0 ≤ resV w 870 (r % (w.getD 0 0).toNat) ∧ resV w 870 (r % (w.getD 0 0).toNat) ≤ 870 ∧ mu w (resV w 870 (r % (w.getD 0 0).toNat)).toNat = true ∧ (resV w 870 (r % (w.getD 0 0).toNat)).toNat % (w.getD 0 0).toNat = r % (w.getD 0 0).toNat := by
  obtain ⟨h0, h1, h2⟩ := hw.fst
  unfold resV
  cases hf : (List.range (870 + 1)).find? fun m => decide (m % (w.getD 0 0).toNat = r % (w.getD 0 0).toNat) && mu w m with
  | none =>
    exfalso
    obtain ⟨n, c, hn, e⟩ := rch_all (w := w) (a := (w.getD 0 0).toNat) (by omega) hg r
    obtain ⟨m, d, k1, k2, k3, k4⟩ := mk_small hw.wt (a := (w.getD 0 0).toNat) (by omega) (by omega) n c hn
    refine (List.find?_eq_none.1 hf) m (List.mem_range.2 (by omega)) ?_
    simp only [Bool.and_eq_true, decide_eq_true_eq]
    exact ⟨by rw [k4, e], (mu_iff hw.wt).2 ⟨d, k1⟩⟩
  | some m =>
    simp only [Option.map_some, Option.getD_some]
    obtain ⟨k1, k2, k3⟩ := find_least hf
    simp only [Bool.and_eq_true, decide_eq_true_eq] at k1
    exact ⟨by omega, by omega, by simpa using k1.2, by simpa using k1.1⟩
/-- The greatest one of the residues. -/
def farV (w : List Int) : Int := ((List.range (w.getD 0 0).toNat).map fun r => resV w 870 r).foldl max 0
theorem fold_max (l : List Int) : ∀ b : Int, b ≤ l.foldl max b ∧ (∀ x ∈ l, x ≤ l.foldl max b) ∧ (l.foldl max b = b ∨ l.foldl max b ∈ l) := by
  induction l with
  | nil => intro b; simp
  | cons y l ih =>
    intro b
    obtain ⟨h1, h2, h3⟩ := ih (max b y)
    simp only [List.foldl_cons]
    refine ⟨by omega, fun x hx => ?_, ?_⟩
    · rcases List.mem_cons.1 hx with rfl | hx
      · omega
      · exact h2 x hx
    · rcases h3 with h3 | h3
      · rcases Int.le_total b y with h | h
        · right; rw [h3, Int.max_eq_right h]; simp
        · left; rw [h3, Int.max_eq_left h]
      · right; simp [h3]
theorem top_far {w : List Int} (hw : VW w) (hg : gcdL w = 1) : topV w = farV w - w.getD 0 0 := by
  obtain ⟨h0, h1, h2⟩ := hw.fst
  obtain ⟨f1, f2, f3⟩ := fold_max ((List.range (w.getD 0 0).toNat).map fun r => resV w 870 r) 0
  have hle : ∀ r : Nat, resV w 870 (r % (w.getD 0 0).toNat) ≤ farV w := fun r =>
    f2 _ (List.mem_map.2 ⟨r % (w.getD 0 0).toNat, List.mem_range.2 (Nat.mod_lt _ (by omega)), rfl⟩)
  have hF : ∃ r : Nat, r < (w.getD 0 0).toNat ∧ resV w 870 r = farV w := by
    rcases f3 with h | h
    · refine ⟨0, by omega, ?_⟩
      have k1 := hle 0
      have k2 := (res_nn hw hg 0).1
      rw [Nat.zero_mod] at k1 k2
      have : farV w = 0 := h
      omega
    · obtain ⟨r, hr, e⟩ := List.mem_map.1 h
      exact ⟨r, List.mem_range.1 hr, e⟩
  obtain ⟨r, hr, hrF⟩ := hF
  have hr' : r % (w.getD 0 0).toNat = r := Nat.mod_eq_of_lt hr
  obtain ⟨n1, n2, n3, n4⟩ := res_nn hw hg r
  rw [hr', hrF] at n1 n2 n3 n4
  -- all above is made up
  have hab : ∀ n : Nat, farV w - w.getD 0 0 < (n : Int) → mu w n = true := fun n hn => by
    rw [res_iff hw n, Bool.and_eq_true, decide_eq_true_eq, decide_eq_true_eq]
    obtain ⟨m1, m2, m3, m4⟩ := res_nn hw hg n
    refine ⟨m1, ?_⟩
    have hl := hle n
    generalize resV w 870 (n % (w.getD 0 0).toNat) = v at *
    rcases Int.lt_or_le (n : Int) v with h | h
    · exfalso
      obtain ⟨v', rfl⟩ : ∃ v' : Nat, v = (v' : Int) := ⟨v.toNat, by omega⟩
      obtain ⟨a, ha⟩ : ∃ a : Nat, w.getD 0 0 = (a : Int) := ⟨(w.getD 0 0).toNat, by omega⟩
      rw [ha] at m4 hn
      simp only [Int.toNat_natCast] at m4
      have e1 := Nat.div_add_mod n a
      have e2 := Nat.div_add_mod v' a
      have hlt : n / a < v' / a := by
        rcases Nat.lt_or_ge (n / a) (v' / a) with h' | h'
        · exact h'
        · have := Nat.mul_le_mul_left a h'
          omega
      have := Nat.mul_le_mul_left a hlt
      have e3 : a * (n / a).succ = a * (n / a) + a := Nat.mul_succ _ _
      omega
    · exact h
  rcases top_cases w with ⟨hnil, ht⟩ | ht
  · rw [ht]
    -- there is no gap: so 0 .. a - 1 are made up
    by_cases h9 : farV w - w.getD 0 0 < 0
    · -- farV < a: the residue of a - 1 is at least a - 1
      have k := res_nn hw hg ((w.getD 0 0).toNat - 1)
      have k5 := hle ((w.getD 0 0).toNat - 1)
      have e : ((w.getD 0 0).toNat - 1) % (w.getD 0 0).toNat = (w.getD 0 0).toNat - 1 := Nat.mod_eq_of_lt (by omega)
      rw [e] at k k5
      have k4 := k.2.2.2
      have := Nat.mod_le (resV w 870 ((w.getD 0 0).toNat - 1)).toNat (w.getD 0 0).toNat
      omega
    · exfalso
      have hm : mu w (farV w - w.getD 0 0).toNat = true := by
        cases hm : mu w (farV w - w.getD 0 0).toNat with
        | true => rfl
        | false =>
          have := (gap_mem (w := w) (farV w - w.getD 0 0).toNat (by omega)).2 hm
          rw [hnil] at this
          simp at this
      rw [res_iff hw] at hm
      simp only [Bool.and_eq_true, decide_eq_true_eq] at hm
      have e : (farV w - w.getD 0 0).toNat % (w.getD 0 0).toNat = r := by
        have : (farV w).toNat = (farV w - w.getD 0 0).toNat + (w.getD 0 0).toNat := by omega
        rw [this, Nat.add_mod_right] at n4
        exact n4
      rw [e, hrF] at hm
      omega
  · obtain ⟨t1, t2, t3⟩ := gap_rng ht
    have hup : topV w ≤ farV w - w.getD 0 0 := by
      rcases Int.lt_or_le (farV w - w.getD 0 0) (topV w) with h | h
      · have := hab (topV w).toNat (by omega)
        rw [t3] at this
        cases this
      · exact h
    have hm : mu w (farV w - w.getD 0 0).toNat = false := by
      cases hm : mu w (farV w - w.getD 0 0).toNat with
      | false => rfl
      | true =>
        rw [res_iff hw] at hm
        simp only [Bool.and_eq_true, decide_eq_true_eq] at hm
        have e : (farV w - w.getD 0 0).toNat % (w.getD 0 0).toNat = r := by
          have : (farV w).toNat = (farV w - w.getD 0 0).toNat + (w.getD 0 0).toNat := by omega
          rw [this, Nat.add_mod_right] at n4
          exact n4
        rw [e, hrF] at hm
        omega
    have := last_ge (gap_sorted w) _ ((gap_mem (w := w) (farV w - w.getD 0 0).toNat (by omega)).2 hm)
    unfold topV at *
    omega
end Go.Proofs.Ytlhlcchimammlaa
