/- How many words lead to each state; plain mathematics, no program. -/
import Derived.Test.YtkjnhdkbojcojaaMA
namespace Go.Proofs.Ytkjnhdkbojcojaa

def addAt (ws : List Int) (k : Nat) (v : Int) : List Int := ws.set k (ws.getD k 0 + v)
theorem addAt_len (ws : List Int) (k : Nat) (v : Int) : (addAt ws k v).length = ws.length := List.length_set
theorem sum_set : ∀ (l : List Int) (k : Nat) (v : Int), k < l.length → (l.set k (l.getD k 0 + v)).sum = l.sum + v
  | x :: l, 0, v, _ => by simp; omega
  | x :: l, k + 1, v, h => by
    have := sum_set l k v (by simpa using h)
    simp only [List.set_cons_succ, List.sum_cons, List.getD_cons_succ]
    omega
theorem addAt_sum {ws : List Int} {k : Nat} {v : Int} (h : k < ws.length) : (addAt ws k v).sum = ws.sum + v := sum_set ws k v h
def Pos (l : List Int) : Prop := ∀ i, 0 ≤ l.getD i 0
theorem addAt_pos {ws : List Int} {k : Nat} {v : Int} (h : Pos ws) (hv : 0 ≤ v) : Pos (addAt ws k v) := fun i => by
  unfold addAt
  have h1 := h i
  have h2 := h k
  rw [List.getD_eq_getElem?_getD, List.getElem?_set]
  by_cases e : k = i
  · subst e
    by_cases e2 : k < ws.length
    · simp only [if_true, e2, Option.getD_some]; omega
    · simp [e2]
  · rw [if_neg e, ← List.getD_eq_getElem?_getD]; exact h1
theorem pos_tail {x : Int} {l : List Int} (h : Pos (x :: l)) : Pos l := fun i => h (i + 1)
theorem pos_sum : ∀ {l : List Int}, Pos l → 0 ≤ l.sum
  | [], _ => by simp
  | x :: l, h => by
    have h1 := pos_sum (pos_tail h)
    have h2 : 0 ≤ x := h 0
    simp only [List.sum_cons]; omega
theorem pos_le : ∀ {l : List Int}, Pos l → ∀ i, l.getD i 0 ≤ l.sum
  | [], _, i => by simp
  | x :: l, h, 0 => by
    have h1 := pos_sum (pos_tail h)
    simp only [List.getD_cons_zero, List.sum_cons]; omega
  | x :: l, h, i + 1 => by
    have h1 := pos_le (pos_tail h) i
    have h2 : 0 ≤ x := h 0
    simp only [List.getD_cons_succ, List.sum_cons]; omega
/-- The words of one input more that begin with the first k states. -/
def lngTo (b : Bx) (ws : List Int) : Nat → List Int
  | 0 => List.replicate ws.length 0
  | k + 1 => addAt (addAt (lngTo b ws k) (aft b k 0) (ws.getD k 0)) (aft b k 1) (ws.getD k 0)
def lng (b : Bx) (ws : List Int) : List Int := lngTo b ws ws.length
theorem lngTo_len (b : Bx) (ws : List Int) : ∀ k, (lngTo b ws k).length = ws.length
  | 0 => List.length_replicate
  | k + 1 => by simp [lngTo, addAt_len, lngTo_len b ws k]
theorem lng_len (b : Bx) (ws : List Int) : (lng b ws).length = ws.length := lngTo_len b ws _
theorem rep_sum (n : Nat) : (List.replicate n (0 : Int)).sum = 0 := by
  induction n with
  | zero => rfl
  | succ n ih => simp [List.replicate_succ, ih]
theorem rep_pos (n : Nat) : Pos (List.replicate n (0 : Int)) := fun i => by
  rw [List.getD_eq_getElem?_getD, List.getElem?_replicate]; split <;> simp
theorem take_sum_succ {ws : List Int} {k : Nat} (h : k < ws.length) : (ws.take (k + 1)).sum = (ws.take k).sum + ws.getD k 0 := by
  rw [List.take_add_one, List.sum_append, List.getElem?_eq_getElem h, List.getD_eq_getElem?_getD, List.getElem?_eq_getElem h]; simp
section
variable {b : Bx} {ws : List Int}
theorem lngTo_sum (hb : Okx b) (hl : ws.length = b.2.length) : ∀ k, k ≤ ws.length → (lngTo b ws k).sum = 2 * (ws.take k).sum
  | 0, _ => by simp [lngTo]
  | k + 1, h => by
    have ih := lngTo_sum hb hl k (by omega)
    have h0 := hb.aft_lt (s := k) (by omega) 0
    have h1 := hb.aft_lt (s := k) (by omega) 1
    show (addAt (addAt _ _ _) _ _).sum = _
    rw [addAt_sum (by rw [addAt_len, lngTo_len]; omega), addAt_sum (by rw [lngTo_len]; omega), ih, take_sum_succ (by omega)]
    omega
theorem lngTo_pos (h : Pos ws) : ∀ k, Pos (lngTo b ws k)
  | 0 => rep_pos _
  | k + 1 => addAt_pos (addAt_pos (lngTo_pos h k) (h k)) (h k)
theorem take_sum_le (h : Pos ws) (k : Nat) : (ws.take k).sum ≤ ws.sum := by
  have h1 : Pos (ws.drop k) := fun i => by
    have := h (k + i)
    rw [List.getD_eq_getElem?_getD] at this ⊢
    rwa [List.getElem?_drop]
  have h2 := pos_sum h1
  have h3 : ws.sum = (ws.take k).sum + (ws.drop k).sum := by rw [← List.sum_append, List.take_append_drop]
  omega
/-- What r words of input lead to, from the state 0. -/
def wds (b : Bx) : Nat → List Int
  | 0 => (List.replicate b.2.length 0).set 0 1
  | r + 1 => lng b (wds b r)
theorem wds_len (b : Bx) : ∀ r, (wds b r).length = b.2.length
  | 0 => by simp [wds]
  | r + 1 => by rw [wds, lng_len, wds_len b r]
theorem wds_pos (b : Bx) : ∀ r, Pos (wds b r)
  | 0 => by
    have := addAt_pos (k := 0) (v := 1) (rep_pos b.2.length) (by decide)
    unfold addAt at this
    have e : (List.replicate b.2.length (0 : Int)).getD 0 0 = 0 := by rw [List.getD_eq_getElem?_getD, List.getElem?_replicate]; split <;> simp
    rw [e, Int.zero_add] at this
    exact this
  | r + 1 => lngTo_pos (wds_pos b r) _
theorem wds_sum (hb : Okx b) : ∀ r, (wds b r).sum = 2 ^ r
  | 0 => by
    have h1 := hb.n1
    have := sum_set (List.replicate b.2.length (0 : Int)) 0 1 (by simp; omega)
    have e : (List.replicate b.2.length (0 : Int)).getD 0 0 = 0 := by rw [List.getD_eq_getElem?_getD, List.getElem?_replicate]; split <;> simp
    rw [e, Int.zero_add, rep_sum] at this
    rw [wds, this]; rfl
  | r + 1 => by
    show (lngTo b (wds b r) (wds b r).length).sum = _
    rw [lngTo_sum hb (wds_len b r) _ (Nat.le_refl _), List.take_length, wds_sum hb r, Int.pow_succ]; omega
theorem pow_le {r : Nat} (h : r ≤ 20) : (2 : Int) ^ r ≤ 1048576 := by
  have : (2 : Nat) ^ r ≤ 2 ^ 20 := Nat.pow_le_pow_right (by decide) h
  have e : ((2 ^ r : Nat) : Int) = 2 ^ r := by simp
  rw [← e]
  omega
end
/-- The sum of the numbers with a signal, among the first k. -/
def cntTo (b : Bx) (ws : List Int) (o : Int) : Nat → Int
  | 0 => 0
  | k + 1 => cntTo b ws o k + (if b.2.getD k 0 = o then ws.getD k 0 else 0)
def cntV (b : Bx) (r : Nat) (o : Int) : Int := cntTo b (wds b r) o b.2.length
theorem cntTo_in {b : Bx} {ws : List Int} (h : Pos ws) (o : Int) : ∀ k, k ≤ ws.length → 0 ≤ cntTo b ws o k ∧ cntTo b ws o k ≤ (ws.take k).sum
  | 0, _ => by simp [cntTo]
  | k + 1, hk => by
    have ih := cntTo_in (b := b) h o k (by omega)
    have h1 := h k
    rw [take_sum_succ (by omega)]
    unfold cntTo
    split <;> omega
def errT (b : Bx) (n o : Int) : Int := if errX b ≠ 0 then errX b else if 0 ≤ n ∧ n ≤ 20 ∧ sigB o then 0 else 1
def cntF (b : Bx) (n o : Int) : Int := if errT b n o = 0 then cntV b n.toNat o else 0
theorem errT_bad {b : Bx} (h : ¬ errX b = 0) (n o : Int) : errT b n o = errX b := if_pos h
theorem errT_arg {b : Bx} (h : errX b = 0) {n o : Int} (hn : ¬ (0 ≤ n ∧ n ≤ 20 ∧ sigB o)) : errT b n o = 1 := by rw [errT, if_neg (by simp [h]), if_neg hn]
theorem errT_fine {b : Bx} (h : errX b = 0) {n o : Int} (hn : 0 ≤ n ∧ n ≤ 20 ∧ sigB o) : errT b n o = 0 := by rw [errT, if_neg (by simp [h]), if_pos hn]
end Go.Proofs.Ytkjnhdkbojcojaa
