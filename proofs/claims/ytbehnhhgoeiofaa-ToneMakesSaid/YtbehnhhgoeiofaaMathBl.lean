/- Plain mathematics: blasts. -/
import Derived.Test.YtbehnhhgoeiofaaMathT
namespace Go.Proofs.Ytbehnhhgoeiofaa

/-- From lengths to seconds, beginning with s. -/
def expand : Int → List Int → List Int
  | _, [] => []
  | s, m :: l => List.replicate m.toNat s ++ expand (1 - s) l
theorem getD_bits {xs : List Int} (h : bitsB xs = true) (k : Nat) : xs.getD k 0 = 0 ∨ xs.getD k 0 = 1 := by
  by_cases hk : k < xs.length
  · exact bitsB_of_mem h (mem_getD hk)
  · left; rw [List.getD_eq_getElem?_getD, List.getElem?_eq_none (by omega)]; rfl
def parV (s : Int) (k : Nat) : Int := if k % 2 = 0 then s else 1 - s
theorem parV_succ (s : Int) (k : Nat) : parV (1 - s) k = parV s (k + 1) := by
  unfold parV
  by_cases h : k % 2 = 0
  · rw [if_pos h, if_neg (by omega)]
  · rw [if_neg h, if_pos (by omega)]; omega
theorem expand_snoc (l : List Int) : ∀ s m, expand s (l ++ [m]) = expand s l ++ List.replicate m.toNat (parV s l.length) := by
  induction l with
  | nil => intro s m; simp [expand, parV]
  | cons a l ih =>
    intro s m
    show List.replicate a.toNat s ++ expand (1 - s) (l ++ [m]) = (List.replicate a.toNat s ++ expand (1 - s) l) ++ _
    rw [ih, parV_succ, List.append_assoc]
    rfl
def AllPos (l : List Int) : Prop := ∀ x ∈ l, 1 ≤ x
theorem expand_inj (l : List Int) : ∀ s l', s = 0 ∨ s = 1 → AllPos l → AllPos l' → expand s l = expand s l' → l = l' := by
  induction l with
  | nil =>
    intro s l' _ _ h' e
    cases l' with
    | nil => rfl
    | cons b l' =>
      have := h' b (by simp)
      have := congrArg List.length e
      simp [expand] at this
      omega
  | cons a l ih =>
    intro s l' hs h h' e
    have ha := h a (by simp)
    cases l' with
    | nil =>
      have := congrArg List.length e
      simp [expand] at this
      omega
    | cons b l' =>
      have hb := h' b (by simp)
      have key : ∀ (c : Int) (m : List Int), AllPos m → ∀ k, k < c.toNat → (List.replicate c.toNat s ++ expand (1 - s) m)[k]? = some s := by
        intro c m _ k hk
        rw [List.getElem?_append_left (by simpa using hk)]
        simp [hk]
      have nxt : ∀ (c : Int) (m : List Int), AllPos m → (List.replicate c.toNat s ++ expand (1 - s) m)[c.toNat]? ≠ some s := by
        intro c m hm
        rw [List.getElem?_append_right (by simp)]
        simp
        cases m with
        | nil => simp [expand]
        | cons d m =>
          have hd := hm d (by simp)
          have : (expand (1 - s) (d :: m))[0]? = some (1 - s) := by
            show (List.replicate d.toNat (1 - s) ++ expand (1 - (1 - s)) m)[0]? = _
            rw [List.getElem?_append_left (by simp; omega), List.getElem?_replicate, if_pos (by omega)]
          rw [this]
          intro q; injection q with q; omega
      have e' : List.replicate a.toNat s ++ expand (1 - s) l = List.replicate b.toNat s ++ expand (1 - s) l' := e
      have hl : AllPos l := fun x hx => h x (by simp [hx])
      have hl' : AllPos l' := fun x hx => h' x (by simp [hx])
      have hab : a.toNat = b.toNat := by
        rcases Nat.lt_trichotomy a.toNat b.toNat with g | g | g
        · exact absurd (by rw [e']; exact key b l' hl' _ g) (nxt a l hl)
        · exact g
        · exact absurd (by rw [← e']; exact key a l hl _ g) (nxt b l' hl')
      rw [hab] at e'
      have := ih (1 - s) l' (by omega) hl hl' (List.append_cancel_left e')
      rw [this, show a = b from by omega]

/-- The blasts of the first k seconds, as the program counts them. -/
def incLast (l : List Int) : List Int := l.set (l.length - 1) (l.getD (l.length - 1) 0 + 1)
def newB (xs : List Int) (k : Nat) : Bool := k == 0 || xs.getD k 0 != xs.getD (k - 1) 0
def blTo (xs : List Int) : Nat → List Int
  | 0 => []
  | k + 1 => incLast (if newB xs k then blTo xs k ++ [0] else blTo xs k)
def blL (xs : List Int) : List Int := blTo xs xs.length
theorem incLast_snoc (l : List Int) (m : Int) : incLast (l ++ [m]) = l ++ [m + 1] := by
  unfold incLast
  simp [List.getD_eq_getElem?_getD]
theorem blTo_new {xs : List Int} {k : Nat} (h : newB xs k = true) : blTo xs (k + 1) = blTo xs k ++ [1] := by
  show incLast (if _ then _ else _) = _
  rw [if_pos h, incLast_snoc]
  simp
theorem blTo_old {xs : List Int} {k : Nat} (h : newB xs k = false) : blTo xs (k + 1) = incLast (blTo xs k) := by
  show incLast (if _ then _ else _) = _
  rw [h]; rfl

/-- What the first k seconds' blasts are: they expand to these seconds; the last one is of the last second. -/
theorem blTo_spec {xs : List Int} (hb : bitsB xs = true) (h0 : xs.getD 0 0 = 1) : ∀ k, 1 ≤ k → k ≤ xs.length →
    ∃ (l : List Int) (m : Int), blTo xs k = l ++ [m] ∧ 1 ≤ m ∧ AllPos l ∧ expand 1 (l ++ [m]) = xs.take k ∧ parV 1 l.length = xs.getD (k - 1) 0 ∧ m ≤ k ∧ (l.length : Int) + 1 ≤ k := by
  intro k
  induction k with
  | zero => intro h; omega
  | succ k ih =>
    intro _ hk
    have ht : xs.take (k + 1) = xs.take k ++ [xs.getD k 0] := by
      rw [List.take_succ_eq_append_getElem (by omega)]
      simp [List.getD_eq_getElem?_getD, show k < xs.length from by omega]
    by_cases h1 : k = 0
    · subst h1
      refine ⟨[], 1, blTo_new rfl, by omega, fun x hx => by simp at hx, ?_, ?_, by omega, by simp⟩
      · rw [ht, h0]; rfl
      · simpa [parV] using h0.symm
    · obtain ⟨l, m, e1, e2, e3, e4, e5, e6, e7⟩ := ih (by omega) (by omega)
      cases hn : newB xs k with
      | true =>
        have hne : xs.getD k 0 ≠ xs.getD (k - 1) 0 := by
          simp [newB, h1] at hn
          simpa [List.getD_eq_getElem?_getD] using hn
        refine ⟨l ++ [m], 1, by rw [blTo_new hn, e1], by omega, ?_, ?_, ?_, by omega, by simp; omega⟩
        · intro x hx
          rcases List.mem_append.1 hx with g | g
          · exact e3 x g
          · simp at g; omega
        · rw [expand_snoc, e4, ht, List.length_append]
          congr 1
          show [parV 1 (l.length + 1)] = _
          rw [← parV_succ]
          congr 1
          have a := getD_bits hb k
          have b := getD_bits hb (k - 1)
          unfold parV at *
          by_cases hp : l.length % 2 = 0
          · rw [if_pos hp] at *; omega
          · rw [if_neg hp] at *; omega
        · rw [List.length_append]
          show parV 1 (l.length + 1) = xs.getD k 0
          rw [← parV_succ]
          have a := getD_bits hb k
          have b := getD_bits hb (k - 1)
          unfold parV at *
          by_cases hp : l.length % 2 = 0
          · rw [if_pos hp] at *; omega
          · rw [if_neg hp] at *; omega
      | false =>
        have heq : xs.getD k 0 = xs.getD (k - 1) 0 := by
          simp [newB, h1] at hn
          simpa [List.getD_eq_getElem?_getD] using hn
        refine ⟨l, m + 1, by rw [blTo_old hn, e1, incLast_snoc], by omega, e3, ?_, ?_, by omega, by omega⟩
        · rw [expand_snoc] at e4 ⊢
          rw [ht, ← e4, List.append_assoc]
          congr 1
          rw [heq, ← e5, show (m + 1).toNat = m.toNat + 1 from by omega, List.replicate_succ']
        · rw [show k + 1 - 1 = k from by omega, heq, e5]

theorem expand_length (l : List Int) : ∀ s, ((expand s l).length : Int) = (l.map fun x => ((x.toNat : Nat) : Int)).sum := by
  induction l with
  | nil => intro s; simp [expand]
  | cons a l ih => intro s; simp [expand, ih]

/-! The same, counted as the document's own answer does. -/
def endB (xs : List Int) (k : Nat) : Bool := k + 1 == xs.length || xs.getD (k + 1) 0 != xs.getD k 0
def rrun (xs : List Int) : Nat → Int
  | 0 => 0
  | k + 1 => if endB xs k then 0 else rrun xs k + 1
def rlist (xs : List Int) : Nat → List Int
  | 0 => []
  | k + 1 => if endB xs k then rlist xs k ++ [rrun xs k + 1] else rlist xs k
theorem rrun_end {xs : List Int} {k : Nat} (h : endB xs k = true) : rrun xs (k + 1) = 0 := by
  show (if _ then _ else _) = _
  rw [if_pos h]
theorem rrun_go {xs : List Int} {k : Nat} (h : endB xs k = false) : rrun xs (k + 1) = rrun xs k + 1 := by
  show (if _ then _ else _) = _
  rw [h]; rfl
theorem rlist_end {xs : List Int} {k : Nat} (h : endB xs k = true) : rlist xs (k + 1) = rlist xs k ++ [rrun xs k + 1] := by
  show (if _ then _ else _) = _
  rw [if_pos h]
theorem rlist_go {xs : List Int} {k : Nat} (h : endB xs k = false) : rlist xs (k + 1) = rlist xs k := by
  show (if _ then _ else _) = _
  rw [h]; rfl
theorem rrun_bd (xs : List Int) (k : Nat) : 0 ≤ rrun xs k ∧ rrun xs k ≤ k := by
  induction k with
  | zero => simp [rrun]
  | succ k ih =>
    cases h : endB xs k with
    | true => rw [rrun_end h]; omega
    | false => rw [rrun_go h]; omega
theorem rlist_len (xs : List Int) (k : Nat) : (rlist xs k).length ≤ k := by
  induction k with
  | zero => simp [rlist]
  | succ k ih =>
    cases h : endB xs k with
    | true => rw [rlist_end h]; simp; omega
    | false => rw [rlist_go h]; omega
theorem newB_iff {xs : List Int} {k : Nat} (hk : k < xs.length) : newB xs k = true ↔ rrun xs k = 0 := by
  cases k with
  | zero => simp [newB, rrun]
  | succ k =>
    have he : endB xs k = (xs.getD (k + 1) 0 != xs.getD k 0) := by
      unfold endB
      have : (k + 1 == xs.length) = false := by simp; omega
      rw [this]; rfl
    have hn : newB xs (k + 1) = (xs.getD (k + 1) 0 != xs.getD k 0) := by
      unfold newB
      have : (k + 1 == 0) = false := by simp
      rw [this]; rfl
    rw [hn, ← he]
    have := (rrun_bd xs k).1
    cases h : endB xs k with
    | true => rw [rrun_end h]; simp
    | false => rw [rrun_go h]; simp; omega
theorem blTo_eq {xs : List Int} : ∀ k, k ≤ xs.length → blTo xs k = if rrun xs k = 0 then rlist xs k else rlist xs k ++ [rrun xs k] := by
  intro k
  induction k with
  | zero => intro _; simp [blTo, rrun, rlist]
  | succ k ih =>
    intro hk
    have hi := ih (by omega)
    have hg := (rrun_bd xs k).1
    have step : blTo xs (k + 1) = rlist xs k ++ [rrun xs k + 1] := by
      by_cases hr : rrun xs k = 0
      · rw [blTo_new ((newB_iff (by omega)).2 hr), hi, if_pos hr, hr]; rfl
      · have : newB xs k = false := by
          cases h : newB xs k with
          | false => rfl
          | true => exact absurd ((newB_iff (by omega)).1 h) hr
        rw [blTo_old this, hi, if_neg hr, incLast_snoc]
    rw [step]
    cases h : endB xs k with
    | true => rw [rlist_end h, rrun_end h, if_pos rfl]
    | false => rw [rlist_go h, rrun_go h, if_neg (by omega)]
theorem blL_eq {xs : List Int} (h : 1 ≤ xs.length) : blL xs = rlist xs xs.length := by
  unfold blL
  rw [blTo_eq _ (Nat.le_refl _)]
  have : rrun xs xs.length = 0 := by
    have e : xs.length = (xs.length - 1) + 1 := by omega
    rw [e]
    exact rrun_end (by unfold endB; simp; left; omega)
  rw [if_pos this]
def ruleB (xs : List Int) : Bool := xs.getD 0 0 == 1 && xs.getD (xs.length - 1) 0 == 0
def errBl (xs : List Int) : Int := if errOf xs = 0 then (if ruleB xs then 0 else 6) else errOf xs
theorem errBl_ne {xs : List Int} (h : errOf xs ≠ 0) : errBl xs = errOf xs := by unfold errBl; rw [if_neg h]
theorem errBl_yes {xs : List Int} (h : errOf xs = 0) (h2 : ruleB xs = true) : errBl xs = 0 := by unfold errBl; rw [if_pos h, if_pos h2]
theorem errBl_no {xs : List Int} (h : errOf xs = 0) (h2 : ruleB xs = false) : errBl xs = 6 := by unfold errBl; rw [if_pos h, h2]; rfl

end Go.Proofs.Ytbehnhhgoeiofaa
