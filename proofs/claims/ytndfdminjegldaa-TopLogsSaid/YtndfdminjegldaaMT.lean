/- Mathematics: the last edits, the least of what they allow, and how the counts are made up. -/
import Derived.Test.YtndfdminjegldaaML
namespace Go.Proofs.Ytndfdminjegldaa

/-- The edits that two logs allow, by their last signs: 0 left out, 1 put in, 2 a pair of different signs, 3 of equal ones. -/
def eds (l m : List Int) (r k : Nat) : List Int :=
  (if 0 < r then [0] else []) ++ ((if 0 < k then [1] else []) ++ (if 0 < r ∧ 0 < k then [if l.getD (r - 1) 0 = m.getD (k - 1) 0 then 3 else 2] else []))
def edOk (r k : Nat) (e : Int) : Prop := (e = 0 ∧ 0 < r) ∨ (e = 1 ∧ 0 < k) ∨ ((e = 2 ∨ e = 3) ∧ 0 < r ∧ 0 < k)
theorem mem_eds {l m : List Int} {r k : Nat} {e : Int} (h : e ∈ eds l m r k) : edOk r k e := by
  unfold eds at h
  rw [List.mem_append, List.mem_append] at h
  rcases h with h | h | h
  · split at h
    · simp at h; exact .inl ⟨h, by assumption⟩
    · simp at h
  · split at h
    · simp at h; exact .inr (.inl ⟨h, by assumption⟩)
    · simp at h
  · split at h
    · rename_i h1
      rw [List.mem_singleton] at h
      split at h
      · exact .inr (.inr ⟨.inr h, h1⟩)
      · exact .inr (.inr ⟨.inl h, h1⟩)
    · simp at h
theorem eds_len (l m : List Int) (r k : Nat) : (eds l m r k).length ≤ 3 := by
  unfold eds
  rw [List.length_append, List.length_append]
  repeat' split
  all_goals simp
theorem getD_mem {es : List Int} {t : Nat} (h : t < es.length) : es.getD t 0 ∈ es := by
  rw [List.getD_eq_getElem?_getD, List.getElem?_eq_getElem h]; exact List.getElem_mem _
theorem eds_ok {l m : List Int} {r k t : Nat} (h : t < (eds l m r k).length) : edOk r k ((eds l m r k).getD t 0) := mem_eds (getD_mem h)
/-- What a number of a table is at most, because of an edit. -/
def bd (c : Cst) (T : Nat → Nat → Int) (r k : Nat) (e : Int) : Int :=
  if e = 0 then T (r - 1) k + c.o else if e = 1 then T r (k - 1) + c.i else T (r - 1) (k - 1) + (if e = 3 then 0 else c.h)
/-- The least so far. -/
def pm (f : Nat → Int) : Nat → Int
  | 0 => 0
  | t + 1 => if t = 0 ∨ f t < pm f t then f t else pm f t
theorem pm_succ (f : Nat → Int) (t : Nat) : pm f (t + 1) = if t = 0 ∨ f t < pm f t then f t else pm f t := rfl
theorem dd_pm (l m : List Int) (c : Cst) : ∀ r k, pm (fun t => bd c (dd l m c) r k ((eds l m r k).getD t 0)) (eds l m r k).length = dd l m c r k
  | 0, 0 => by simp [eds, pm, dd]
  | r + 1, 0 => by simp [eds, pm, bd, dd]
  | 0, k + 1 => by simp [eds, pm, bd, dd]
  | r + 1, k + 1 => by
    have e : eds l m (r + 1) (k + 1) = [0, 1, if l.getD r 0 = m.getD k 0 then 3 else 2] := by simp [eds]
    have h3 : bd c (dd l m c) (r + 1) (k + 1) (if l.getD r 0 = m.getD k 0 then 3 else 2) = dd l m c r k + chg c (l.getD r 0) (m.getD k 0) := by
      unfold chg
      by_cases h : l.getD r 0 = m.getD k 0
      · rw [if_pos h, if_pos h]; rfl
      · rw [if_neg h, if_neg h]; rfl
    have h1 : bd c (dd l m c) (r + 1) (k + 1) 0 = dd l m c r (k + 1) + c.o := rfl
    have h2 : bd c (dd l m c) (r + 1) (k + 1) 1 = dd l m c (r + 1) k + c.i := rfl
    rw [e]
    show pm _ 3 = _
    rw [pm_succ, pm_succ, pm_succ]
    show (if 2 = 0 ∨ bd c (dd l m c) (r + 1) (k + 1) (if l.getD r 0 = m.getD k 0 then 3 else 2) < _ then _ else _) = _
    simp only [List.getD_cons_zero, List.getD_cons_succ, h1, h2, h3]
    rw [dd]
    generalize dd l m c r (k + 1) + c.o = a
    generalize dd l m c (r + 1) k + c.i = b
    generalize dd l m c r k + chg c (l.getD r 0) (m.getD k 0) = d
    simp only [true_or, if_true, Nat.one_ne_zero, false_or, show ¬ ((2 : Nat) = 0) from by decide]
    omega
theorem dd_bd {l m : List Int} {c : Cst} (hc : c.ok) : ∀ r k, 0 ≤ dd l m c r k ∧ dd l m c r k ≤ 9 * (r + k)
  | 0, 0 => by simp [dd]
  | r + 1, 0 => by
    have := dd_bd (l := l) (m := m) hc r 0
    unfold Cst.ok at hc
    rw [dd]; omega
  | 0, k + 1 => by
    have := dd_bd (l := l) (m := m) hc 0 k
    unfold Cst.ok at hc
    rw [dd]; omega
  | r + 1, k + 1 => by
    have h1 := dd_bd (l := l) (m := m) hc r (k + 1)
    have h2 := dd_bd (l := l) (m := m) hc (r + 1) k
    have h3 := dd_bd (l := l) (m := m) hc r k
    have h4 := chg_bd hc (l.getD r 0) (m.getD k 0)
    unfold Cst.ok at hc
    rw [dd]; omega
termination_by r k => (r, k)
/-- The last edits of the best comparisons. -/
def les (l m : List Int) (c : Cst) (r k : Nat) : List Int := (eds l m r k).filter fun e => bd c (dd l m c) r k e == dd l m c r k
theorem les_ok {l m : List Int} {c : Cst} {r k t : Nat} (h : t < (les l m c r k).length) : edOk r k ((les l m c r k).getD t 0) := mem_eds (List.mem_filter.1 (getD_mem h)).1
theorem les_len (l m : List Int) (c : Cst) (r k : Nat) : (les l m c r k).length ≤ 3 := Nat.le_trans (List.length_filter_le _ _) (eds_len l m r k)
/-- Where an edit leads to. -/
def bfR (r : Nat) (e : Int) : Nat := if e = 1 then r else r - 1
def bfK (k : Nat) (e : Int) : Nat := if e = 0 then k else k - 1
theorem bd_bf (c : Cst) (T : Nat → Nat → Int) (r k : Nat) {e : Int} (h : edOk r k e) : bd c T r k e = T (bfR r e) (bfK k e) + (if e = 0 then c.o else if e = 1 then c.i else if e = 3 then 0 else c.h) := by
  unfold bd bfR bfK
  rcases h with ⟨rfl, _⟩ | ⟨rfl, _⟩ | ⟨rfl | rfl, _, _⟩ <;> simp
theorem bf_le {r k : Nat} {e : Int} (h : edOk r k e) : bfR r e ≤ r ∧ bfK k e ≤ k ∧ bfR r e + bfK k e < r + k := by
  unfold bfR bfK
  rcases h with ⟨rfl, _⟩ | ⟨rfl, _⟩ | ⟨rfl | rfl, _, _⟩ <;> simp <;> omega
/-- The number of comparisons, as the program makes it up. -/
def twi (l m : List Int) (c : Cst) (C : Nat → Nat → Int) (r k : Nat) : Int := if r = 0 ∨ k = 0 ∨ dd l m c r k ≠ dd l m c (r - 1) (k - 1) + c.o + c.i then 0 else C (r - 1) (k - 1)
def smE (C : Nat → Nat → Int) (r k : Nat) (es : List Int) (t : Nat) : Int := ((es.take t).map fun e => C (bfR r e) (bfK k e)).sum
theorem smE_succ (C : Nat → Nat → Int) (r k : Nat) (es : List Int) {t : Nat} (h : t < es.length) : smE C r k es (t + 1) = smE C r k es t + C (bfR r (es.getD t 0)) (bfK k (es.getD t 0)) := by
  unfold smE
  rw [List.take_succ_eq_append_getElem h, List.map_append, List.sum_append, List.getD_eq_getElem?_getD, List.getElem?_eq_getElem h]
  simp
/-- Counts up to n signs of both logs. -/
def cqT (l m : List Int) (c : Cst) : Nat → Nat → Nat → Int
  | 0, _, _ => 1
  | n + 1, r, k => if r = 0 ∧ k = 0 then 1 else smE (cqT l m c n) r k (les l m c r k) 3 - twi l m c (cqT l m c n) r k
def cq (l m : List Int) (c : Cst) (r k : Nat) : Int := cqT l m c (r + k) r k
theorem smE_congr {C C' : Nat → Nat → Int} {r k : Nat} {es : List Int} (t : Nat) (hes : ∀ e ∈ es, edOk r k e) (h : ∀ a b, a + b < r + k → C a b = C' a b) : smE C r k es t = smE C' r k es t := by
  unfold smE
  congr 1
  apply List.map_congr_left
  intro e he
  have := bf_le (hes e (List.mem_of_mem_take he))
  exact h _ _ this.2.2
theorem twi_congr {l m : List Int} {c : Cst} {C C' : Nat → Nat → Int} {r k : Nat} (h : ∀ a b, a + b < r + k → C a b = C' a b) : twi l m c C r k = twi l m c C' r k := by
  unfold twi
  split
  · rfl
  · rename_i h1
    exact h _ _ (by omega)
theorem les_all {l m : List Int} {c : Cst} {r k : Nat} : ∀ e ∈ les l m c r k, edOk r k e := fun _ he => mem_eds (List.mem_filter.1 he).1
theorem cqT_more (l m : List Int) (c : Cst) : ∀ (s r k n : Nat), r + k ≤ s → s ≤ n → cqT l m c n r k = cqT l m c (r + k) r k
  | 0, r, k, n, h, hn => by
    obtain ⟨rfl, rfl⟩ : r = 0 ∧ k = 0 := by omega
    cases n <;> simp [cqT]
  | s + 1, r, k, n, h, hn => by
    by_cases h0 : r = 0 ∧ k = 0
    · obtain ⟨rfl, rfl⟩ := h0
      cases n <;> simp [cqT]
    · obtain ⟨n, rfl⟩ : ∃ j, n = j + 1 := ⟨n - 1, by omega⟩
      obtain ⟨q, hq⟩ : ∃ j, r + k = j + 1 := ⟨r + k - 1, by omega⟩
      rw [hq, cqT, cqT, if_neg h0, if_neg h0]
      have hC : ∀ a b, a + b < r + k → cqT l m c n a b = cqT l m c q a b := fun a b hab => by
        rw [cqT_more l m c s a b n (by omega) (by omega), cqT_more l m c q a b q (by omega) (by omega)]
      rw [smE_congr 3 les_all hC, twi_congr hC]
termination_by s => s
theorem cq_zero (l m : List Int) (c : Cst) : cq l m c 0 0 = 1 := rfl
theorem cq_step (l m : List Int) (c : Cst) {r k : Nat} (h : ¬ (r = 0 ∧ k = 0)) : cq l m c r k = smE (cq l m c) r k (les l m c r k) (les l m c r k).length - twi l m c (cq l m c) r k := by
  obtain ⟨q, hq⟩ : ∃ j, r + k = j + 1 := ⟨r + k - 1, by omega⟩
  unfold cq
  rw [hq, cqT, if_neg h]
  have hC : ∀ a b, a + b < r + k → cqT l m c q a b = cqT l m c (a + b) a b := fun a b hab => cqT_more l m c q a b q (by omega) (by omega)
  have hl := les_len l m c r k
  have e3 : ∀ C, smE C r k (les l m c r k) 3 = smE C r k (les l m c r k) (les l m c r k).length := fun C => by
    unfold smE
    rw [List.take_of_length_le hl, List.take_length]
  rw [smE_congr 3 les_all hC, e3, twi_congr hC]
end Go.Proofs.Ytndfdminjegldaa
