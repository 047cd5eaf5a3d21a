/- Mathematics of counts: sums, greatest weights first. -/
import Derived.Test.YtlhlcchimammlaaMV
namespace Go.Proofs.Ytlhlcchimammlaa

def smTo (cs : List Int) (k : Nat) : Int := ((List.range k).map fun i => cs.getD i 0).sum
theorem smTo_succ (cs : List Int) (k : Nat) : smTo cs (k + 1) = smTo cs k + cs.getD k 0 := by
  unfold smTo; rw [List.range_succ, List.map_append, List.sum_append]; simp
theorem getD_set_pos {l : List Int} {i j : Nat} {a b : Int} (h : j < l.length) : (l.set j a).getD i b = if i = j then a else l.getD i b := by
  rw [List.getD_eq_getElem?_getD, List.getD_eq_getElem?_getD, List.getElem?_set]
  by_cases e : j = i
  · subst e; rw [if_pos rfl, if_pos h, if_pos rfl]; rfl
  · rw [if_neg e, if_neg (fun h => e h.symm)]
theorem smTo_set {cs : List Int} {j : Nat} (hj : j < cs.length) (d : Int) : ∀ k, k ≤ cs.length → smTo (cs.set j (cs.getD j 0 + d)) k = smTo cs k + (if j < k then d else 0)
  | 0, _ => by simp [smTo]
  | k + 1, hk => by
    rw [smTo_succ, smTo_succ, smTo_set hj d k (by omega), getD_set_pos hj]
    by_cases e : k = j
    · subst e; rw [if_pos rfl, if_neg (by omega), if_pos (by omega)]; omega
    · rw [if_neg e]
      by_cases h : j < k
      · rw [if_pos h, if_pos (by omega)]; omega
      · rw [if_neg h, if_neg (by omega)]; omega
theorem dotTo_set {w cs : List Int} {j : Nat} (hj : j < cs.length) (d : Int) : ∀ k, k ≤ cs.length → dotTo w (cs.set j (cs.getD j 0 + d)) k = dotTo w cs k + (if j < k then d * w.getD j 0 else 0)
  | 0, _ => by simp [dotTo]
  | k + 1, hk => by
    rw [dotTo_succ, dotTo_succ, dotTo_set hj d k (by omega), getD_set_pos hj]
    by_cases e : k = j
    · subst e; rw [if_pos rfl, if_neg (by omega), if_pos (by omega), Int.add_mul]; omega
    · rw [if_neg e]
      by_cases h : j < k
      · rw [if_pos h, if_pos (by omega)]; omega
      · rw [if_neg h, if_neg (by omega)]; omega
theorem smTo_zero (n k : Nat) : smTo (List.replicate n 0) k = 0 := by
  induction k with
  | zero => simp [smTo]
  | succ k ih =>
    rw [smTo_succ, ih]
    have : (List.replicate n (0 : Int)).getD k 0 = 0 := by
      rw [List.getD_eq_getElem?_getD, List.getElem?_replicate]; split <;> rfl
    omega
theorem dotTo_zero (w : List Int) (n k : Nat) : dotTo w (List.replicate n 0) k = 0 := by
  induction k with
  | zero => simp [dotTo]
  | succ k ih =>
    rw [dotTo_succ, ih]
    have : (List.replicate n (0 : Int)).getD k 0 = 0 := by
      rw [List.getD_eq_getElem?_getD, List.getElem?_replicate]; split <;> rfl
    rw [this]; simp
/-- What is left when the last t weights have been taken. -/
def glS (xs : List Int) (m : Int) : Nat → Int
  | 0 => m
  | t + 1 => glS xs m t % xs.getD (xs.length - 1 - t) 0
def gdV (xs : List Int) (m : Int) (k : Nat) : Int := glS xs m (xs.length - 1 - k) / xs.getD k 0
theorem glS_bd {xs : List Int} (hw : Wt xs) {m : Int} (hm : 0 ≤ m ∧ m ≤ 2000) : ∀ t, t ≤ xs.length → 0 ≤ glS xs m t ∧ glS xs m t ≤ 2000
  | 0, _ => hm
  | t + 1, ht => by
    have ih := glS_bd hw hm t (by omega)
    have hx := hw _ (show xs.getD (xs.length - 1 - t) 0 ∈ xs from by
      rw [List.getD_eq_getElem?_getD, List.getElem?_eq_getElem (show xs.length - 1 - t < xs.length by omega)]; exact List.getElem_mem _)
    have h1 := Int.emod_nonneg (glS xs m t) (b := xs.getD (xs.length - 1 - t) 0) (by omega)
    have h2 := Int.emod_lt_of_pos (glS xs m t) (b := xs.getD (xs.length - 1 - t) 0) (by omega)
    unfold glS
    omega
theorem glS_div {xs : List Int} (hw : Wt xs) {m : Int} (hm : 0 ≤ m ∧ m ≤ 2000) {t : Nat} (ht : t < xs.length) : 0 ≤ glS xs m t / xs.getD (xs.length - 1 - t) 0 ∧ glS xs m t / xs.getD (xs.length - 1 - t) 0 ≤ 2000 ∧ glS xs m t = glS xs m t / xs.getD (xs.length - 1 - t) 0 * xs.getD (xs.length - 1 - t) 0 + glS xs m (t + 1) := by
  have hx := hw _ (show xs.getD (xs.length - 1 - t) 0 ∈ xs from by
    rw [List.getD_eq_getElem?_getD, List.getElem?_eq_getElem (show xs.length - 1 - t < xs.length by omega)]; exact List.getElem_mem _)
  have h0 := glS_bd hw hm t (by omega)
  have h1 := Int.mul_ediv_add_emod (glS xs m t) (xs.getD (xs.length - 1 - t) 0)
  refine ⟨Int.ediv_nonneg h0.1 (by omega), Int.le_trans (Int.ediv_le_self _ h0.1) h0.2, ?_⟩
  rw [Int.mul_comm, show glS xs m (t + 1) = glS xs m t % xs.getD (xs.length - 1 - t) 0 from rfl]
  exact h1.symm
theorem gdV_dot {xs cs : List Int} (hw : Wt xs) {m : Int} (hm : 0 ≤ m ∧ m ≤ 2000) (hc : ∀ k, k < xs.length → cs.getD k 0 = gdV xs m k) : ∀ t, t ≤ xs.length → dotTo xs cs xs.length - dotTo xs cs (xs.length - t) + glS xs m t = m
  | 0, _ => by simp [glS]
  | t + 1, ht => by
    have ih := gdV_dot hw hm hc t (by omega)
    have h1 := (glS_div hw hm (t := t) (by omega)).2.2
    have h2 := dotTo_succ xs cs (xs.length - (t + 1))
    rw [show xs.length - (t + 1) + 1 = xs.length - t by omega] at h2
    have h3 := hc (xs.length - (t + 1)) (by omega)
    unfold gdV at h3
    rw [show xs.length - 1 - (xs.length - (t + 1)) = t by omega, show xs.length - (t + 1) = xs.length - 1 - t by omega] at h3
    rw [show xs.length - (t + 1) = xs.length - 1 - t by omega] at h2 ⊢
    rw [h3] at h2
    omega
def gdL (xs : List Int) (m : Int) : List Int := (List.range xs.length).map (gdV xs m)
theorem gdL_len (xs : List Int) (m : Int) : (gdL xs m).length = xs.length := by simp [gdL]
theorem gdL_at {xs : List Int} {m : Int} {k : Nat} (h : k < xs.length) : (gdL xs m).getD k 0 = gdV xs m k := by
  unfold gdL
  rw [List.getD_eq_getElem?_getD, List.getElem?_map, List.getElem?_range h]; rfl
theorem gdL_cnt {xs : List Int} (hw : Wt xs) {m : Int} (hm : 0 ≤ m ∧ m ≤ 2000) : CntTo (gdL xs m) xs.length := fun k hk => by
  rw [gdL_at hk]
  unfold gdV
  have := glS_div hw hm (t := xs.length - 1 - k) (by omega)
  rw [show xs.length - 1 - (xs.length - 1 - k) = k by omega] at this
  omega
/-- What is taken so makes the amount up. -/
theorem gd_mk {xs : List Int} (hw : Wt xs) {m : Nat} (hm : m ≤ 2000) (h0 : glS xs (m : Int) xs.length = 0) : ∃ c : Nat, Mk xs m c ∧ (c : Int) = smTo (gdL xs (m : Int)) xs.length := by
  have hm' : 0 ≤ (m : Int) ∧ (m : Int) ≤ 2000 := by omega
  have h1 := gdV_dot hw hm' (cs := gdL xs (m : Int)) (fun k hk => gdL_at hk) xs.length (Nat.le_refl _)
  rw [Nat.sub_self, h0] at h1
  have h2 : dotTo xs (gdL xs (m : Int)) 0 = 0 := by simp [dotTo]
  obtain ⟨n, c, k1, k2, k3⟩ := dot_mk hw (cs := gdL xs (m : Int)) (k := xs.length) (Nat.le_refl _) (fun i hi => (gdL_cnt hw hm' i hi).1)
  rw [List.take_length] at k1
  obtain rfl : n = m := by omega
  exact ⟨c, k1, k3⟩
/-- One of the fewest cartridges. -/
theorem last_at {xs : List Int} (hw : Wt xs) {l : Nat} (hl : 0 < l) (hm : mu xs l = true) : ∃ k, k < xs.length ∧ xs.getD k 0 ≤ (l : Int) ∧ fw xs ((l : Int) - xs.getD k 0).toNat = fw xs l - 1 := by
  obtain ⟨c, h1, h2, h3⟩ := fw_pos hw hm
  rcases h2.last with ⟨e, _⟩ | ⟨m, d, x, hmk, hx, e, e'⟩
  · omega
  · have hx1 := hw x hx
    obtain ⟨k, hk, ek⟩ := List.getElem_of_mem hx
    have ek2 : xs.getD k 0 = x := by rw [List.getD_eq_getElem?_getD, List.getElem?_eq_getElem hk]; exact ek
    refine ⟨k, hk, by rw [ek2]; omega, ?_⟩
    rw [ek2, show ((l : Int) - x).toNat = m by omega, h1]
    have : fw xs m = (d : Int) := fw_of hw hmk fun d' hd' => by
      have := h3 _ ((hd'.add hx).cast e.symm rfl)
      omega
    omega
theorem last_mu {xs : List Int} (hw : Wt xs) {l y : Nat} (hl : 0 < l) (hm : mu xs l = true) (he : fw xs (l - y) = fw xs l - 1) : mu xs (l - y) = true := by
  obtain ⟨c, h1, h2, _⟩ := fw_pos hw hm
  have := h2.count_le hw
  unfold mu
  rw [decide_eq_true_eq, he, h1]
  omega
theorem errW_times {xs : List Int} (h : errW xs = 0) (k : Int) : errW (xs.map fun x => k * x) = 0 ∨ errW (xs.map fun x => k * x) = 1 := by
  have hV := errW_vw.1 h
  rcases errW_rng (xs.map fun x => k * x) with h1 | h1 | h1
  · exact .inl h1
  · exact .inr h1
  · exfalso
    unfold errW at h1
    rw [if_pos (by rw [List.length_map]; exact ⟨hV.1, hV.2.1⟩)] at h1
    split at h1 <;> omega
end Go.Proofs.Ytlhlcchimammlaa
