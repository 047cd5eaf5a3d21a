/- Mathematics: the program's count is the document's; the document's running count. -/
import Derived.Test.YtndfdminjegldaaMG
namespace Go.Proofs.Ytndfdminjegldaa

section
variable {c : Cst} {l m : List Int}
theorem gk_dd0 {r k : Nat} {d : Int} (hr : r ≤ l.length) (hk : k ≤ m.length) (h : d < dd l m c r k) : gk c (l.take r).reverse (m.take k).reverse d = 0 :=
  gk_low c _ _ _ d (Nat.le_refl _) (by rw [dist_rev, ← dd_take hr hk]; exact h)
theorem sum_filter (f : Int → Int) (p : Int → Bool) : ∀ es : List Int, ((es.filter p).map f).sum = (es.map fun e => if p e = true then f e else 0).sum
  | [] => rfl
  | e :: es => by
    have ih := sum_filter f p es
    by_cases h : p e = true
    · rw [List.filter_cons_of_pos h, List.map_cons, List.sum_cons, List.map_cons, List.sum_cons, if_pos h, ih]
    · rw [List.filter_cons_of_neg h, List.map_cons, List.sum_cons, if_neg h, ih]; omega
theorem smE_les (C : Nat → Nat → Int) (r k : Nat) : smE C r k (les l m c r k) (les l m c r k).length = ((eds l m r k).map fun e => if bd c (dd l m c) r k e = dd l m c r k then C (bfR r e) (bfK k e) else 0).sum := by
  unfold smE les
  rw [List.take_length, sum_filter]
  congr 1
  apply List.map_congr_left
  intro e _
  simp only [beq_iff_eq]
theorem cq_gk (l m : List Int) (c : Cst) : ∀ (n r k : Nat), r + k ≤ n → r ≤ l.length → k ≤ m.length → cq l m c r k = gk c (l.take r).reverse (m.take k).reverse (dd l m c r k)
  | _, 0, 0, _, _, _ => by rw [cq_zero]; simp [gk_nl, dd]
  | 0, r + 1, k, h, _, _ => by omega
  | 0, r, k + 1, h, _, _ => by omega
  | n + 1, r + 1, 0, h, hr, hk => by
    have ih := cq_gk l m c n r 0 (by omega) (by omega) hk
    rw [cq_step l m c (by omega), smE_les, take_rev (by omega), List.take_zero, List.reverse_nil, gk_nrc]
    rw [List.take_zero, List.reverse_nil] at ih
    have e1 : dd l m c (r + 1) 0 - c.o = dd l m c r 0 := by rw [dd]; omega
    have e2 : eds l m (r + 1) 0 = [0] := by simp [eds]
    have e3 : bd c (dd l m c) (r + 1) 0 0 = dd l m c (r + 1) 0 := by rw [dd]; rfl
    rw [e1, e2, ← ih]
    simp [e3, bfR, bfK, twi]
  | n + 1, 0, k + 1, h, hr, hk => by
    have ih := cq_gk l m c n 0 k (by omega) hr (by omega)
    rw [cq_step l m c (by omega), smE_les, take_rev (l := m) (by omega), List.take_zero, List.reverse_nil, gk_nlc]
    rw [List.take_zero, List.reverse_nil] at ih
    have e1 : dd l m c 0 (k + 1) - c.i = dd l m c 0 k := by rw [dd]; omega
    have e2 : eds l m 0 (k + 1) = [1] := by simp [eds]
    have e3 : bd c (dd l m c) 0 (k + 1) 1 = dd l m c 0 (k + 1) := by rw [dd]; rfl
    rw [e1, e2, ← ih]
    simp [e3, bfR, bfK, twi]
  | n + 1, r + 1, k + 1, h, hr, hk => by
    have i1 := cq_gk l m c n r (k + 1) (by omega) (by omega) hk
    have i2 := cq_gk l m c n (r + 1) k (by omega) hr (by omega)
    have i3 := cq_gk l m c n r k (by omega) (by omega) (by omega)
    have g1 := fun d => gk_dd0 (c := c) (d := d) (show r ≤ l.length by omega) hk
    have g2 := fun d => gk_dd0 (c := c) (d := d) hr (show k ≤ m.length by omega)
    have g3 := fun d => gk_dd0 (c := c) (d := d) (show r ≤ l.length by omega) (show k ≤ m.length by omega)
    have l1 := dd_out (l := l) (m := m) (c := c) r (k + 1)
    have l2 := dd_inn (l := l) (m := m) (c := c) (r + 1) k
    have l3 := dd_pair (l := l) (m := m) (c := c) r k
    have l4 := dd_inn (l := l) (m := m) (c := c) r k
    have e : eds l m (r + 1) (k + 1) = [0, 1, if l.getD r 0 = m.getD k 0 then 3 else 2] := by simp [eds]
    have h3 : bd c (dd l m c) (r + 1) (k + 1) (if l.getD r 0 = m.getD k 0 then 3 else 2) = dd l m c r k + chg c (l.getD r 0) (m.getD k 0) := by
      unfold chg
      by_cases h : l.getD r 0 = m.getD k 0
      · rw [if_pos h, if_pos h]; rfl
      · rw [if_neg h, if_neg h]; rfl
    have h1 : bd c (dd l m c) (r + 1) (k + 1) 0 = dd l m c r (k + 1) + c.o := rfl
    have h2 : bd c (dd l m c) (r + 1) (k + 1) 1 = dd l m c (r + 1) k + c.i := rfl
    have b3 : ∀ x : Int, x = 3 ∨ x = 2 → bfR (r + 1) x = r ∧ bfK (k + 1) x = k := fun x hx => by rcases hx with rfl | rfl <;> exact ⟨rfl, rfl⟩
    have b4 := b3 (if l.getD r 0 = m.getD k 0 then 3 else 2) (by split <;> simp)
    have t1 := take_rev (l := l) (r := r) (by omega)
    have t2 := take_rev (l := m) (r := k) (by omega)
    rw [cq_step l m c (by omega), smE_les, e]
    simp only [List.map_cons, List.map_nil, List.sum_cons, List.sum_nil, h1, h2, h3, b4.1, b4.2]
    rw [show bfR (r + 1) 0 = r from rfl, show bfK (k + 1) 0 = k + 1 from rfl, show bfR (r + 1) 1 = r + 1 from rfl, show bfK (k + 1) 1 = k from rfl]
    have hE : gk c (l.take (r + 1)).reverse (m.take (k + 1)).reverse (dd l m c (r + 1) (k + 1)) = gk c (l.take r).reverse (m.take (k + 1)).reverse (dd l m c (r + 1) (k + 1) - c.o) + gk c (l.take (r + 1)).reverse (m.take k).reverse (dd l m c (r + 1) (k + 1) - c.i) - gk c (l.take r).reverse (m.take k).reverse (dd l m c (r + 1) (k + 1) - c.o - c.i) + gk c (l.take r).reverse (m.take k).reverse (dd l m c (r + 1) (k + 1) - chg c (l.getD r 0) (m.getD k 0)) := by
      rw [t1, t2, gk_cc]
    rw [hE]
    have a1 : (if dd l m c r (k + 1) + c.o = dd l m c (r + 1) (k + 1) then cq l m c r (k + 1) else 0) = gk c (l.take r).reverse (m.take (k + 1)).reverse (dd l m c (r + 1) (k + 1) - c.o) := by
      split
      · rw [i1]; congr 1; omega
      · rw [g1 _ (by omega)]
    have a2 : (if dd l m c (r + 1) k + c.i = dd l m c (r + 1) (k + 1) then cq l m c (r + 1) k else 0) = gk c (l.take (r + 1)).reverse (m.take k).reverse (dd l m c (r + 1) (k + 1) - c.i) := by
      split
      · rw [i2]; congr 1; omega
      · rw [g2 _ (by omega)]
    have a3 : (if dd l m c r k + chg c (l.getD r 0) (m.getD k 0) = dd l m c (r + 1) (k + 1) then cq l m c r k else 0) = gk c (l.take r).reverse (m.take k).reverse (dd l m c (r + 1) (k + 1) - chg c (l.getD r 0) (m.getD k 0)) := by
      split
      · rw [i3]; congr 1; omega
      · rw [g3 _ (by omega)]
    have a4 : twi l m c (cq l m c) (r + 1) (k + 1) = gk c (l.take r).reverse (m.take k).reverse (dd l m c (r + 1) (k + 1) - c.o - c.i) := by
      unfold twi
      rw [Nat.add_sub_cancel, Nat.add_sub_cancel]
      split
      · rename_i hq
        have hq2 : dd l m c (r + 1) (k + 1) ≠ dd l m c r k + c.o + c.i := by
          rcases hq with hq | hq | hq
          · omega
          · omega
          · exact hq
        rw [g3 _ (by omega)]
      · rename_i hq
        have hq2 : dd l m c (r + 1) (k + 1) = dd l m c r k + c.o + c.i := Classical.not_not.1 (fun h => hq (.inr (.inr h)))
        rw [i3]; congr 1; omega
    rw [a1, a2, a3, a4]
    omega
theorem cq_all (l m : List Int) (c : Cst) : cq l m c l.length m.length = gk c l m (dist l m c) := by
  rw [cq_gk l m c _ l.length m.length (Nat.le_refl _) (Nat.le_refl _) (Nat.le_refl _), List.take_length, List.take_length, gk_rev c _ l m _ (Nat.le_refl _)]
  rfl
end
/-! By the first pair. -/
def gS (c : Cst) (l m : List Int) (d : Int) : Int :=
  ((List.range l.length).map fun a => ((List.range m.length).map fun b => gk c (l.drop (a + 1)) (m.drop (b + 1)) (d - c.o * (a : Int) - c.i * (b : Int) - chg c (l.getD a 0) (m.getD b 0))).sum).sum
theorem sum_front (f : Nat → Int) (n : Nat) : ((List.range (n + 1)).map f).sum = f 0 + ((List.range n).map fun k => f (k + 1)).sum := by
  rw [List.range_succ_eq_map, List.map_cons, List.sum_cons, List.map_map]; rfl
theorem sum_congr {f g : Nat → Int} {n : Nat} (h : ∀ k, k < n → f k = g k) : ((List.range n).map f).sum = ((List.range n).map g).sum := by
  congr 1
  exact List.map_congr_left fun k hk => h k (List.mem_range.1 hk)
theorem sum_zero {f : Nat → Int} : ∀ {n : Nat}, (∀ k, k < n → f k = 0) → ((List.range n).map f).sum = 0
  | 0, _ => rfl
  | n + 1, h => by
    rw [List.range_succ, List.map_append, List.sum_append, sum_zero (fun k hk => h k (by omega))]
    simp [h n (by omega)]
theorem gS_nl (c : Cst) (m : List Int) (d : Int) : gS c [] m d = 0 := rfl
theorem gS_nr (c : Cst) (l : List Int) (d : Int) : gS c l [] d = 0 := sum_zero fun _ _ => rfl
theorem mul_succ (c : Int) (a : Nat) : c * ((a + 1 : Nat) : Int) = c * a + c := by rw [Int.natCast_add, Int.mul_add]; simp
theorem gS_cons (c : Cst) (x : Int) (l m : List Int) (d : Int) : gS c (x :: l) m d = ((List.range m.length).map fun b => gk c l (m.drop (b + 1)) (d - c.i * (b : Int) - chg c x (m.getD b 0))).sum + gS c l m (d - c.o) := by
  unfold gS
  rw [List.length_cons, sum_front]
  congr 1
  · refine sum_congr fun b _ => ?_
    simp
  · refine sum_congr fun a _ => sum_congr fun b _ => ?_
    rw [mul_succ, List.drop_succ_cons, List.getD_cons_succ]
    congr 1
    omega
theorem gS_cc (c : Cst) (x y : Int) (l m : List Int) (d : Int) : gS c (x :: l) (y :: m) d = gk c l m (d - chg c x y) + gS c (x :: l) m (d - c.i) - gS c l m (d - c.o - c.i) + gS c l (y :: m) (d - c.o) := by
  rw [gS_cons, gS_cons c x l m, List.length_cons, sum_front]
  have e1 : ((List.range m.length).map fun b => gk c l ((y :: m).drop (b + 1 + 1)) (d - c.i * ((b + 1 : Nat) : Int) - chg c x ((y :: m).getD (b + 1) 0))).sum = ((List.range m.length).map fun b => gk c l (m.drop (b + 1)) (d - c.i - c.i * (b : Int) - chg c x (m.getD b 0))).sum := by
    refine sum_congr fun b _ => ?_
    rw [mul_succ, List.drop_succ_cons, List.getD_cons_succ]
    congr 1
    omega
  rw [e1, show d - c.i - c.o = d - c.o - c.i by omega]
  simp
  omega
theorem gk_first (c : Cst) : ∀ (n : Nat) (l m : List Int) (d : Int), l.length + m.length ≤ n → gk c l m d = (if d = c.o * l.length + c.i * m.length then 1 else 0) + gS c l m d
  | _, [], m, d, _ => by rw [gS_nl, gk_nl]; simp
  | _, l, [], d, _ => by rw [gS_nr, gk_nr]; simp
  | 0, x :: l, m, d, h => by simp at h
  | n + 1, x :: l, y :: m, d, h => by
    have i1 := gk_first c n l (y :: m) (d - c.o) (by simp at h ⊢; omega)
    have i2 := gk_first c n (x :: l) m (d - c.i) (by simp at h ⊢; omega)
    have i3 := gk_first c n l m (d - c.o - c.i) (by simp at h ⊢; omega)
    rw [gk_cc, i1, i2, i3, gS_cc]
    simp only [List.length_cons, mul_succ]
    generalize c.o * (l.length : Int) = p
    generalize c.i * (m.length : Int) = q
    have e1 : (d - c.o = p + (q + c.i)) ↔ (d = p + c.o + (q + c.i)) := by omega
    have e2 : (d - c.i = p + c.o + q) ↔ (d = p + c.o + (q + c.i)) := by omega
    have e3 : (d - c.o - c.i = p + q) ↔ (d = p + c.o + (q + c.i)) := by omega
    by_cases hd : d = p + c.o + (q + c.i)
    · rw [if_pos (e1.2 hd), if_pos (e2.2 hd), if_pos (e3.2 hd), if_pos hd]; omega
    · rw [if_neg (fun h => hd (e1.1 h)), if_neg (fun h => hd (e2.1 h)), if_neg (fun h => hd (e3.1 h)), if_neg hd]; omega
/-! The document's running count. -/
def sm (f : Nat → Int) (j b : Nat) : Int := ((List.range (b - j)).map fun k => f (j + k)).sum
theorem sm_self (f : Nat → Int) (j : Nat) : sm f j j = 0 := by simp [sm]
theorem sm_succ (f : Nat → Int) {j b : Nat} (h : j ≤ b) : sm f j (b + 1) = sm f j b + f b := by
  unfold sm
  rw [show b + 1 - j = b - j + 1 by omega, List.range_succ, List.map_append, List.sum_append]
  simp [show j + (b - j) = b by omega]
theorem sm_zero {f : Nat → Int} {j b : Nat} (h : ∀ k, j ≤ k → k < b → f k = 0) : sm f j b = 0 := sum_zero fun k hk => h _ (by omega) (by omega)
theorem sm_bd {f : Nat → Int} {j : Nat} {B : Int} (hB : 0 ≤ B) (h : ∀ k, -B ≤ f k ∧ f k ≤ B) : ∀ b, j ≤ b → -((b - j : Nat) * B) ≤ sm f j b ∧ sm f j b ≤ (b - j : Nat) * B
  | 0, hb => by
    obtain rfl : j = 0 := by omega
    rw [sm_self]; simp
  | b + 1, hb => by
    by_cases e : j = b + 1
    · subst e; rw [sm_self]; simp
    · have ih := sm_bd (j := j) hB h b (by omega)
      have h1 := h b
      have hjb : j ≤ b := by omega
      rw [sm_succ f hjb, show b + 1 - j = b - j + 1 by omega, Int.natCast_add, Int.add_mul]
      simp
      omega
def nd (l m : List Int) (c : Cst) (i j : Nat) : Int := gk c (l.drop i) (m.drop j) (ld l m c i j)
def tE (l m : List Int) (c : Cst) (i j : Nat) (x : Int) (a b : Nat) : Int := if vlE l m c i j a b = x then nd l m c (a + 1) (b + 1) else 0
def ctE (l m : List Int) (c : Cst) (i j a b : Nat) (x : Int) : Int := (if bsE l m c i j = x then 1 else 0) + sm (fun a' => sm (tE l m c i j x a') j m.length) i a + sm (tE l m c i j x a) j b
section
variable {l m : List Int} {c : Cst} {i j a b : Nat} {x : Int}
theorem ct_start : ctE l m c i j i j (bsE l m c i j) = 1 := by unfold ctE; rw [if_pos rfl, sm_self, sm_self]; rfl
theorem ct_row (ha : i ≤ a) : ctE l m c i j a m.length x = ctE l m c i j (a + 1) j x := by
  unfold ctE
  rw [sm_succ _ ha, sm_self]
  omega
theorem ct_less (h : LsTo l m c i j a b x) (ha : i ≤ a) (hb2 : b ≤ m.length) {v : Int} (hv : v < x) : ctE l m c i j a b v = 0 := by
  unfold ctE
  rw [if_neg (by have := h.2.1; omega), sm_zero, sm_zero]
  · rfl
  · intro k hk hk2
    unfold tE
    rw [if_neg]
    have := h.2.2 a k ha hk (by omega) (.inr ⟨rfl, hk2⟩)
    omega
  · intro k hk hk2
    refine sm_zero fun q hq hq2 => ?_
    unfold tE
    rw [if_neg]
    have := h.2.2 k q hk hq hq2 (.inl hk2)
    omega
theorem ct_eq (hb : j ≤ b) (hv : vlE l m c i j a b = x) : ctE l m c i j a (b + 1) x = ctE l m c i j a b x + nd l m c (a + 1) (b + 1) := by
  unfold ctE
  rw [sm_succ _ hb, show tE l m c i j x a b = nd l m c (a + 1) (b + 1) from if_pos hv]
  omega
theorem ct_ne (hb : j ≤ b) (hv : vlE l m c i j a b ≠ x) : ctE l m c i j a (b + 1) x = ctE l m c i j a b x := by
  unfold ctE
  rw [sm_succ _ hb, show tE l m c i j x a b = 0 from if_neg hv]
  omega
theorem ct_end (hi : i ≤ l.length) (hj : j ≤ m.length) : ctE l m c i j l.length j (ld l m c i j) = nd l m c i j := by
  unfold nd ctE
  rw [gk_first c _ _ _ _ (Nat.le_refl _), sm_self, List.length_drop, List.length_drop]
  unfold gS bsE
  rw [List.length_drop, List.length_drop, show ((l.length : Int) - i) = ((l.length - i : Nat) : Int) by omega, show ((m.length : Int) - j) = ((m.length - j : Nat) : Int) by omega, Int.add_zero]
  congr 1
  · by_cases e : c.o * ((l.length - i : Nat) : Int) + c.i * ((m.length - j : Nat) : Int) = ld l m c i j
    · rw [if_pos e, if_pos e.symm]
    · rw [if_neg e, if_neg (fun h => e h.symm)]
  · unfold sm
    refine sum_congr fun a ha => sum_congr fun b hb => ?_
    rw [List.drop_drop, List.drop_drop, getD_drop, getD_drop]
    unfold tE
    have hle := ends_le (c := c) (show i ≤ i + a by omega) (show i + a < l.length by omega) (show j ≤ j + b by omega) (show j + b < m.length by omega)
    have hve : vlE l m c i j (i + a) (j + b) = c.o * (a : Int) + c.i * (b : Int) + chg c (l.getD (i + a) 0) (m.getD (j + b) 0) + ld l m c (i + a + 1) (j + b + 1) := by
      unfold vlE
      rw [show (((i + a : Nat) : Int) - i) = a by omega, show (((j + b : Nat) : Int) - j) = b by omega]
    rw [show i + (a + 1) = i + a + 1 by omega, show j + (b + 1) = j + b + 1 by omega]
    split
    · unfold nd; congr 1; omega
    · rename_i hne
      symm
      exact gk_low c _ _ _ _ (Nat.le_refl _) (by show _ < ld l m c (i + a + 1) (j + b + 1); omega)
theorem nd_bd (l m : List Int) (c : Cst) (hl : l.length ≤ 10) (hm : m.length ≤ 10) (i j : Nat) : -1099511627776 ≤ nd l m c i j ∧ nd l m c i j ≤ 1099511627776 := by
  have := gk_bd c 20 (l.drop i) (m.drop j) (ld l m c i j) (by rw [List.length_drop, List.length_drop]; omega)
  unfold nd
  have e : ((4 ^ 20 : Nat) : Int) = 1099511627776 := by decide
  rw [e] at this
  exact this
theorem ct_bd (hl : l.length ≤ 10) (hm : m.length ≤ 10) (ha : i ≤ a) (ha2 : a ≤ 10) (hj : j ≤ m.length) (hb : j ≤ b) (hb2 : b ≤ 10) : -1099511627776000 ≤ ctE l m c i j a b x ∧ ctE l m c i j a b x ≤ 1099511627776000 := by
  have t1 : ∀ a b, -1099511627776 ≤ tE l m c i j x a b ∧ tE l m c i j x a b ≤ 1099511627776 := fun a b => by
    have := nd_bd l m c hl hm (a + 1) (b + 1)
    unfold tE; split <;> omega
  have s1 := sm_bd (j := j) (B := 1099511627776) (by omega) (t1 a) b hb
  have t2 : ∀ a', -10995116277760 ≤ sm (tE l m c i j x a') j m.length ∧ sm (tE l m c i j x a') j m.length ≤ 10995116277760 := fun a' => by
    have := sm_bd (j := j) (B := 1099511627776) (by omega) (t1 a') m.length hj
    omega
  have s2 := sm_bd (j := i) (B := 10995116277760) (by omega) t2 a ha
  unfold ctE
  split <;> omega
end
theorem ld_bd {l m : List Int} {c : Cst} (hc : c.ok) (hl : l.length ≤ 10) (hm : m.length ≤ 10) (i j : Nat) : 0 ≤ ld l m c i j ∧ ld l m c i j ≤ 180 := by
  have := dd_bd (l := l.drop i) (m := m.drop j) hc (l.drop i).length (m.drop j).length
  unfold ld dist
  rw [List.length_drop, List.length_drop] at this ⊢
  omega
def cntD (l m : List Int) (c : Cst) : Int := nd l m c 0 0
theorem cntD_cq (l m : List Int) (c : Cst) : cntD l m c = cq l m c l.length m.length := by
  rw [cq_all]; unfold cntD nd; rw [ld_zero]; simp
end Go.Proofs.Ytndfdminjegldaa
