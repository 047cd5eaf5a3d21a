/- Mathematics: comparisons as pairs: which are right, what they cost, and the path of last edits that has the smallest cost. -/
import Derived.Test.YtndfdminjegldaaMI
namespace Go.Proofs.Ytndfdminjegldaa

abbrev Pr := Int × Int
def pr0 : Pr := (0, 0)
def rng (a b : Int) (p : Pr) : Prop := (0 ≤ p.1 ∧ p.1 < a) ∧ 0 ≤ p.2 ∧ p.2 < b
def RgTo (a b : Int) (ps : List Pr) (t : Nat) : Prop := ∀ k, k < t → rng a b (ps.getD k pr0)
def AsTo (ps : List Pr) (t : Nat) : Prop := ∀ k, k + 1 < t → (ps.getD k pr0).1 < (ps.getD (k + 1) pr0).1 ∧ (ps.getD k pr0).2 < (ps.getD (k + 1) pr0).2
open Classical in
noncomputable def errK (l m : List Int) (ps : List Pr) : Int := if RgTo l.length m.length ps ps.length then (if AsTo ps ps.length then 0 else 6) else 1
noncomputable def errQ (l m : List Int) (c : Cst) (ps : List Pr) : Int := if errD l m c = 0 then errK l m ps else errD l m c
def smQ (l m : List Int) (c : Cst) (ps : List Pr) : Nat → Int
  | 0 => 0
  | t + 1 => smQ l m c ps t + chg c (l.getD (ps.getD t pr0).1.toNat 0) (m.getD (ps.getD t pr0).2.toNat 0)
def cstP (l m : List Int) (c : Cst) (ps : List Pr) : Int := c.o * ((l.length : Int) - ps.length) + c.i * ((m.length : Int) - ps.length) + smQ l m c ps ps.length
noncomputable def cstV (l m : List Int) (c : Cst) (ps : List Pr) : Int := if errQ l m c ps = 0 then cstP l m c ps else 0
section
variable {l m : List Int} {c : Cst} {ps : List Pr}
theorem errQ_no (h : errD l m c ≠ 0) : errQ l m c ps = errD l m c := if_neg h
theorem errQ_yes (h : errD l m c = 0) : errQ l m c ps = errK l m ps := if_pos h
theorem errK_rg {k : Nat} (hk : k < ps.length) (h : ¬ rng l.length m.length (ps.getD k pr0)) : errK l m ps = 1 := if_neg fun h' => h (h' k hk)
theorem errK_as (h : RgTo l.length m.length ps ps.length) (h' : ¬ AsTo ps ps.length) : errK l m ps = 6 := by unfold errK; rw [if_pos h, if_neg h']
theorem errK_ok (h : RgTo l.length m.length ps ps.length) (h' : AsTo ps ps.length) : errK l m ps = 0 := by unfold errK; rw [if_pos h, if_pos h']
theorem errK_zero (h : errK l m ps = 0) : RgTo l.length m.length ps ps.length ∧ AsTo ps ps.length := by
  unfold errK at h
  by_cases h1 : RgTo l.length m.length ps ps.length
  · rw [if_pos h1] at h
    by_cases h2 : AsTo ps ps.length
    · exact ⟨h1, h2⟩
    · rw [if_neg h2] at h; omega
  · rw [if_neg h1] at h; omega
theorem cstV_ok (h : errQ l m c ps = 0) : cstV l m c ps = cstP l m c ps := if_pos h
theorem cstV_no (h : errQ l m c ps ≠ 0) : cstV l m c ps = 0 := if_neg h
theorem as_ge (h : RgTo l.length m.length ps ps.length) (h' : AsTo ps ps.length) : ∀ k, k < ps.length → (k : Int) ≤ (ps.getD k pr0).1 ∧ (k : Int) ≤ (ps.getD k pr0).2
  | 0, hk => by have := h 0 hk; unfold rng at this; omega
  | k + 1, hk => by
    have := h' k hk
    have := as_ge h h' k (by omega)
    omega
theorem as_len (h : RgTo l.length m.length ps ps.length) (h' : AsTo ps ps.length) : ps.length ≤ l.length ∧ ps.length ≤ m.length := by
  rcases Nat.eq_zero_or_pos ps.length with e | e
  · omega
  · have h1 := as_ge h h' (ps.length - 1) (by omega)
    have h2 := h (ps.length - 1) (by omega)
    unfold rng at h2
    omega
theorem smQ_bd (hc : c.ok) : ∀ t, 0 ≤ smQ l m c ps t ∧ smQ l m c ps t ≤ 9 * t
  | 0 => by simp [smQ]
  | t + 1 => by
    have := smQ_bd hc t
    have := chg_bd hc (l.getD (ps.getD t pr0).1.toNat 0) (m.getD (ps.getD t pr0).2.toNat 0)
    rw [smQ]
    omega
end
/-! The path back along last edits. -/
/-- The pairs found so far, the last one first: they lie behind (r, k), rise, and cost what is missing of the distance. -/
def PaTo (l m : List Int) (c : Cst) (r k : Nat) (qs : List Pr) : Prop :=
  (∀ q ∈ qs, ((r : Int) ≤ q.1 ∧ q.1 < l.length) ∧ (k : Int) ≤ q.2 ∧ q.2 < m.length) ∧ qs.Pairwise (fun p q => q.1 < p.1 ∧ q.2 < p.2) ∧
  dd l m c r k + c.o * ((l.length : Int) - r - qs.length) + c.i * ((m.length : Int) - k - qs.length) + (qs.map fun q => chg c (l.getD q.1.toNat 0) (m.getD q.2.toNat 0)).sum = dist l m c
section
variable {l m : List Int} {c : Cst} {r k : Nat} {qs : List Pr}
theorem pa_start : PaTo l m c l.length m.length [] := ⟨fun q h => (by cases h), List.Pairwise.nil, (by simp [dist])⟩
theorem pm_ex (f : Nat → Int) : ∀ n, 0 < n → ∃ t, t < n ∧ f t = pm f n
  | 0, h => by omega
  | 1, _ => ⟨0, by omega, by rw [pm_succ, if_pos (.inl rfl)]⟩
  | n + 2, _ => by
    obtain ⟨t, ht, e⟩ := pm_ex f (n + 1) (by omega)
    rw [pm_succ]
    split
    · exact ⟨n + 1, by omega, rfl⟩
    · exact ⟨t, by omega, e⟩
theorem eds_pos (h : ¬ (r = 0 ∧ k = 0)) : 0 < (eds l m r k).length := by
  unfold eds
  rw [List.length_append, List.length_append]
  by_cases hr : 0 < r
  · rw [if_pos hr]; simp; omega
  · have hk : 0 < k := by omega
    rw [if_neg hr, if_pos hk]; simp; omega
theorem les_pos (h : ¬ (r = 0 ∧ k = 0)) : 0 < (les l m c r k).length := by
  obtain ⟨t, ht, e⟩ := pm_ex (fun t => bd c (dd l m c) r k ((eds l m r k).getD t 0)) _ (eds_pos (l := l) (m := m) h)
  rw [dd_pm] at e
  have hm : (eds l m r k).getD t 0 ∈ les l m c r k := by
    unfold les
    rw [List.mem_filter]
    refine ⟨getD_mem ht, ?_⟩
    simpa using e
  exact List.length_pos_of_mem hm
theorem les_at {t : Nat} (h : t < (les l m c r k).length) : bd c (dd l m c) r k ((les l m c r k).getD t 0) = dd l m c r k := by
  have := (List.mem_filter.1 (getD_mem h)).2
  exact eq_of_beq this
theorem eds_pair {e : Int} (h : e ∈ eds l m r k) (he : e = 2 ∨ e = 3) : 0 < r ∧ 0 < k ∧ (if e = 3 then 0 else c.h) = chg c (l.getD (r - 1) 0) (m.getD (k - 1) 0) := by
  have h1 := mem_eds h
  have hr : 0 < r ∧ 0 < k := by rcases h1 with ⟨e1, _⟩ | ⟨e1, _⟩ | ⟨_, h2⟩ <;> first | exact h2 | omega
  refine ⟨hr.1, hr.2, ?_⟩
  unfold eds at h
  rw [if_pos hr.1, if_pos hr.2, if_pos hr] at h
  simp only [List.singleton_append, List.mem_cons, List.not_mem_nil, or_false] at h
  rcases h with h | h | h
  · omega
  · omega
  · unfold chg
    by_cases hq : l.getD (r - 1) 0 = m.getD (k - 1) 0
    · rw [if_pos hq] at h ⊢; rw [if_pos h]
    · rw [if_neg hq] at h ⊢; rw [if_neg (by omega)]
theorem pa_out (hp : PaTo l m c r k qs) (hr : 0 < r) (h : bd c (dd l m c) r k 0 = dd l m c r k) : PaTo l m c (r - 1) k qs := by
  obtain ⟨h1, h2, h3⟩ := hp
  refine ⟨fun q hq => by have := h1 q hq; omega, h2, ?_⟩
  have e : bd c (dd l m c) r k 0 = dd l m c (r - 1) k + c.o := rfl
  rw [e] at h
  rw [← h3, ← h, show ((l.length : Int) - ((r - 1 : Nat) : Int) - qs.length) = ((l.length : Int) - r - qs.length) + 1 by omega, Int.mul_add]
  omega
theorem pa_inn (hp : PaTo l m c r k qs) (hk : 0 < k) (h : bd c (dd l m c) r k 1 = dd l m c r k) : PaTo l m c r (k - 1) qs := by
  obtain ⟨h1, h2, h3⟩ := hp
  refine ⟨fun q hq => by have := h1 q hq; omega, h2, ?_⟩
  have e : bd c (dd l m c) r k 1 = dd l m c r (k - 1) + c.i := rfl
  rw [e] at h
  rw [← h3, ← h, show ((m.length : Int) - ((k - 1 : Nat) : Int) - qs.length) = ((m.length : Int) - k - qs.length) + 1 by omega, Int.mul_add]
  omega
theorem pa_pair {e : Int} (hp : PaTo l m c r k qs) (hrl : r ≤ l.length) (hkm : k ≤ m.length) (he : e ∈ eds l m r k) (he2 : e = 2 ∨ e = 3) (h : bd c (dd l m c) r k e = dd l m c r k) : PaTo l m c (r - 1) (k - 1) (qs ++ [(((r - 1 : Nat) : Int), ((k - 1 : Nat) : Int))]) := by
  obtain ⟨hr, hk, hc⟩ := eds_pair (c := c) he he2
  obtain ⟨h1, h2, h3⟩ := hp
  refine ⟨fun q hq => ?_, ?_, ?_⟩
  · rw [List.mem_append, List.mem_singleton] at hq
    rcases hq with hq | rfl
    · have := h1 q hq; omega
    · dsimp only; omega
  · rw [List.pairwise_append]
    refine ⟨h2, List.pairwise_singleton _ _, fun a ha b hb => ?_⟩
    rw [List.mem_singleton] at hb
    subst hb
    have := h1 a ha
    dsimp only
    omega
  · have e1 : bd c (dd l m c) r k e = dd l m c (r - 1) (k - 1) + (if e = 3 then 0 else c.h) := by
      unfold bd
      rw [if_neg (by omega), if_neg (by omega)]
    rw [e1, hc] at h
    rw [← h3, ← h, List.map_append, List.sum_append, List.length_append]
    simp only [List.map_cons, List.map_nil, List.sum_cons, List.sum_nil, List.length_cons, List.length_nil, Int.toNat_natCast]
    rw [show ((l.length : Int) - ((r - 1 : Nat) : Int) - ((qs.length + (0 + 1) : Nat) : Int)) = (l.length : Int) - r - qs.length by omega, show ((m.length : Int) - ((k - 1 : Nat) : Int) - ((qs.length + (0 + 1) : Nat) : Int)) = (m.length : Int) - k - qs.length by omega]
    omega
theorem smQ_sum (l m : List Int) (c : Cst) (ps : List Pr) : ∀ t, t ≤ ps.length → smQ l m c ps t = ((ps.take t).map fun q => chg c (l.getD q.1.toNat 0) (m.getD q.2.toNat 0)).sum
  | 0, _ => by simp [smQ]
  | t + 1, h => by
    have ht : t < ps.length := by omega
    have e : ps.getD t pr0 = ps[t] := by rw [List.getD_eq_getElem?_getD, List.getElem?_eq_getElem ht]; rfl
    rw [smQ, smQ_sum l m c ps t (by omega), List.take_succ_eq_append_getElem ht, List.map_append, List.sum_append, e]
    simp
theorem pw_rev {ps : List Pr} (h : ps.Pairwise (fun p q => p.1 < q.1 ∧ p.2 < q.2)) : AsTo ps ps.length := fun k hk => by
  have := List.pairwise_iff_getElem.1 h k (k + 1) (by omega) hk (by omega)
  rw [List.getD_eq_getElem?_getD, List.getD_eq_getElem?_getD, List.getElem?_eq_getElem (by omega), List.getElem?_eq_getElem hk]
  exact this
/-- At the end the pairs, turned, are right and have the smallest cost. -/
theorem pa_end (hp : PaTo l m c 0 0 qs) : errK l m qs.reverse = 0 ∧ cstP l m c qs.reverse = dist l m c := by
  obtain ⟨h1, h2, h3⟩ := hp
  constructor
  · refine errK_ok (fun k hk => ?_) (pw_rev (List.pairwise_reverse.2 (h2.imp fun h => h)))
    have hm : qs.reverse.getD k pr0 ∈ qs := by
      rw [List.getD_eq_getElem?_getD, List.getElem?_eq_getElem hk]
      exact List.mem_reverse.1 (List.getElem_mem _)
    have := h1 _ hm
    unfold rng
    omega
  · unfold cstP
    rw [smQ_sum l m c _ _ (Nat.le_refl _), List.take_length, List.length_reverse, ← h3]
    have e : (qs.reverse.map fun q => chg c (l.getD q.1.toNat 0) (m.getD q.2.toNat 0)).sum = (qs.map fun q => chg c (l.getD q.1.toNat 0) (m.getD q.2.toNat 0)).sum := by
      rw [List.map_reverse, List.sum_reverse]
    rw [e]
    simp [dd]
theorem pa_len (hp : PaTo l m c r k qs) : qs.length + r ≤ l.length ∨ qs = [] := by
  by_cases hq : qs = []
  · exact .inr hq
  · left
    obtain ⟨h1, h2, _⟩ := hp
    have key : ∀ (L : List Pr), L.Pairwise (fun p q => q.1 < p.1 ∧ q.2 < p.2) → (∀ q ∈ L, (r : Int) ≤ q.1) → ∀ x, (∀ q ∈ L, q.1 < x) → (L.length : Int) + r ≤ x ∨ L = [] := by
      intro L
      induction L with
      | nil => intro _ _ _ _; right; rfl
      | cons a L ih =>
        intro hp hge x hx
        left
        have hp2 := List.pairwise_cons.1 hp
        have ha := hge a (by simp)
        have hax := hx a (by simp)
        rcases ih hp2.2 (fun q hq => hge q (by simp [hq])) a.1 (fun q hq => (hp2.1 q hq).1) with h | h
        · simp only [List.length_cons]; omega
        · subst h; simp; omega
    rcases key qs h2 (fun q hq => (h1 q hq).1.1) l.length (fun q hq => (h1 q hq).1.2) with h | h
    · omega
    · exact absurd h hq
end
end Go.Proofs.Ytndfdminjegldaa
