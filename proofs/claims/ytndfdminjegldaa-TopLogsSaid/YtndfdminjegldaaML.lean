/- Mathematics of logs: comparisons, their costs, and the smallest one. -/
import Derived.Test.YtndfdminjegldaaRows
namespace Go.Proofs.Ytndfdminjegldaa

/-- Costs: to leave out, to put in, to change. -/
structure Cst where
  o : Int
  i : Int
  h : Int
def Cst.ok (c : Cst) : Prop := (1 ≤ c.o ∧ c.o ≤ 9) ∧ (1 ≤ c.i ∧ c.i ≤ 9) ∧ (1 ≤ c.h ∧ c.h ≤ 9)
def chg (c : Cst) (x y : Int) : Int := if x = y then 0 else c.h
theorem chg_self (c : Cst) (x : Int) : chg c x x = 0 := if_pos rfl
theorem chg_bd {c : Cst} (hc : c.ok) (x y : Int) : 0 ≤ chg c x y ∧ chg c x y ≤ 9 := by
  unfold chg Cst.ok at *
  split <;> omega
theorem chg_comm (c : Cst) (x y : Int) : chg c x y = chg c y x := by
  unfold chg
  by_cases h : x = y
  · rw [if_pos h, if_pos h.symm]
  · rw [if_neg h, if_neg (fun e => h e.symm)]
theorem chg_tri {c : Cst} (hc : c.ok) (x y z : Int) : chg c x z ≤ chg c x y + chg c y z := by
  unfold chg Cst.ok at *
  split <;> split <;> split <;> first | omega | (subst_vars; contradiction)
/-- The logs can be compared with cost d. -/
inductive Al (c : Cst) : List Int → List Int → Int → Prop
  | nil : Al c [] [] 0
  | out {l m : List Int} {d : Int} (x : Int) : Al c l m d → Al c (x :: l) m (d + c.o)
  | inn {l m : List Int} {d : Int} (y : Int) : Al c l m d → Al c l (y :: m) (d + c.i)
  | pair {l m : List Int} {d : Int} (x y : Int) : Al c l m d → Al c (x :: l) (y :: m) (d + chg c x y)
section
variable {c : Cst} {l m l' m' : List Int} {d e : Int}
theorem Al.cast (h : Al c l m d) (hd : d = e) : Al c l m e := hd ▸ h
theorem Al.app (h : Al c l m d) (k : Al c l' m' e) : Al c (l ++ l') (m ++ m') (d + e) := by
  induction h with
  | nil => exact k.cast (by omega)
  | out x _ ih => exact (ih.out x).cast (by omega)
  | inn y _ ih => exact (ih.inn y).cast (by omega)
  | pair x y _ ih => exact (ih.pair x y).cast (by omega)
theorem Al.outs (c : Cst) : ∀ l : List Int, Al c l [] (c.o * l.length)
  | [] => Al.nil.cast (by simp)
  | x :: l => ((Al.outs c l).out x).cast (by rw [List.length_cons, Int.natCast_add, Int.mul_add]; simp)
theorem Al.inns (c : Cst) : ∀ m : List Int, Al c [] m (c.i * m.length)
  | [] => Al.nil.cast (by simp)
  | y :: m => ((Al.inns c m).inn y).cast (by rw [List.length_cons, Int.natCast_add, Int.mul_add]; simp)
theorem Al.base (c : Cst) (l m : List Int) : Al c l m (c.o * l.length + c.i * m.length) := by
  simpa using (Al.outs c l).app (Al.inns c m)
theorem Al.rev (h : Al c l m d) : Al c l.reverse m.reverse d := by
  induction h with
  | nil => exact .nil
  | out x _ ih => rw [List.reverse_cons]; simpa using (ih.app ((Al.nil (c := c)).out x)).cast (by omega)
  | inn y _ ih => rw [List.reverse_cons]; simpa using (ih.app ((Al.nil (c := c)).inn y)).cast (by omega)
  | pair x y _ ih => rw [List.reverse_cons, List.reverse_cons]; exact (ih.app ((Al.nil (c := c)).pair x y)).cast (by omega)
theorem Al.pos (hc : c.ok) (h : Al c l m d) : 0 ≤ d := by
  induction h with
  | nil => omega
  | out x _ ih => unfold Cst.ok at hc; omega
  | inn y _ ih => unfold Cst.ok at hc; omega
  | pair x y _ ih => have := chg_bd hc x y; omega
theorem Al.same (c : Cst) : ∀ l : List Int, Al c l l 0
  | [] => .nil
  | x :: l => ((Al.same c l).pair x x).cast (by rw [chg_self]; omega)
theorem Al.eq_of_zero (hc : c.ok) (h : Al c l m d) (hd : d = 0) : l = m := by
  induction h with
  | nil => rfl
  | out x h ih => have := h.pos hc; unfold Cst.ok at hc; omega
  | inn y h ih => have := h.pos hc; unfold Cst.ok at hc; omega
  | pair x y h ih =>
    have h1 := h.pos hc
    have h2 := chg_bd hc x y
    have h3 : x = y := by
      unfold chg at hd h2
      unfold Cst.ok at hc
      by_cases e : x = y
      · exact e
      · rw [if_neg e] at hd; omega
    rw [h3, ih (by omega)]
/-- The way over a third log. -/
theorem Al.trans (hc : c.ok) {k : List Int} (h : Al c l k d) : ∀ {m : List Int} {e : Int}, Al c k m e → ∃ f, f ≤ d + e ∧ Al c l m f := by
  induction h with
  | nil => exact fun {m e} h => ⟨e, by omega, h⟩
  | out x _ ih =>
    intro m e h
    obtain ⟨f, h1, h2⟩ := ih h
    exact ⟨_, by omega, h2.out x⟩
  | @inn l k d y h ih =>
    intro m e h'
    generalize hk : y :: k = k' at h'
    induction h' with
    | nil => cases hk
    | out x h1 _ =>
      cases hk
      obtain ⟨f, h2, h3⟩ := ih h1
      exact ⟨f, by unfold Cst.ok at hc; omega, h3⟩
    | inn z h1 ih1 =>
      obtain ⟨f, h2, h3⟩ := ih1 hk
      exact ⟨_, by omega, h3.inn z⟩
    | pair x z h1 _ =>
      cases hk
      obtain ⟨f, h2, h3⟩ := ih h1
      exact ⟨_, by have := chg_bd hc y z; omega, h3.inn z⟩
  | @pair l k d x y h ih =>
    intro m e h'
    generalize hk : y :: k = k' at h'
    induction h' with
    | nil => cases hk
    | out x' h1 _ =>
      cases hk
      obtain ⟨f, h2, h3⟩ := ih h1
      exact ⟨_, by have := chg_bd hc x y; omega, h3.out x⟩
    | inn z h1 ih1 =>
      obtain ⟨f, h2, h3⟩ := ih1 hk
      exact ⟨_, by omega, h3.inn z⟩
    | pair x' z h1 _ =>
      cases hk
      obtain ⟨f, h2, h3⟩ := ih h1
      exact ⟨_, by have := chg_tri hc x y z; omega, h3.pair x z⟩
/-- Exchanged. -/
def Cst.swap (c : Cst) : Cst := ⟨c.i, c.o, c.h⟩
theorem Al.swap (h : Al c l m d) : Al c.swap m l d := by
  induction h with
  | nil => exact .nil
  | out x _ ih => exact ih.inn x
  | inn y _ ih => exact ih.out y
  | pair x y _ ih => exact (ih.pair y x).cast (by rw [show chg c.swap y x = chg c y x from rfl, chg_comm])
/-- Renamed. -/
theorem Al.map (f : Int → Int) (h : Al c l m d) (hf : ∀ x ∈ l, ∀ y ∈ m, f x = f y → x = y) : Al c (l.map f) (m.map f) d := by
  induction h with
  | nil => exact .nil
  | out x _ ih => exact (ih (fun a ha b hb => hf a (by simp [ha]) b hb)).out _
  | inn y _ ih => exact (ih (fun a ha b hb => hf a ha b (by simp [hb]))).inn _
  | pair x y _ ih =>
    refine ((ih (fun a ha b hb => hf a (by simp [ha]) b (by simp [hb]))).pair (f x) (f y)).cast ?_
    have : chg c (f x) (f y) = chg c x y := by
      unfold chg
      by_cases e : x = y
      · rw [if_pos e, if_pos (by rw [e])]
      · rw [if_neg e, if_neg (fun h => e (hf x (by simp) y (by simp) h))]
    rw [this]
/-- Where the first pair stands. -/
theorem Al.first (h : Al c l m d) : d = c.o * l.length + c.i * m.length ∨ ∃ a b e, a < l.length ∧ b < m.length ∧ d = c.o * (a : Int) + c.i * (b : Int) + chg c (l.getD a 0) (m.getD b 0) + e ∧ Al c (l.drop (a + 1)) (m.drop (b + 1)) e := by
  induction h with
  | nil => exact .inl (by simp)
  | out x _ ih =>
    rcases ih with ih | ⟨a, b, e, ha, hb, hd, hr⟩
    · exact .inl (by rw [ih, List.length_cons, Int.natCast_add, Int.mul_add]; simp; omega)
    · exact .inr ⟨a + 1, b, e, by simpa using ha, hb, by rw [hd, Int.natCast_add, Int.mul_add]; simp; omega, by simpa using hr⟩
  | inn y _ ih =>
    rcases ih with ih | ⟨a, b, e, ha, hb, hd, hr⟩
    · exact .inl (by rw [ih, List.length_cons, Int.natCast_add, Int.mul_add]; simp; omega)
    · exact .inr ⟨a, b + 1, e, ha, by simpa using hb, by rw [hd, Int.natCast_add, Int.mul_add]; simp; omega, by simpa using hr⟩
  | @pair l m d x y h _ => exact .inr ⟨0, 0, d, by simp, by simp, by simp; omega, by simpa using h⟩
theorem Al.at_ {a b : Nat} {e : Int} (ha : a < l.length) (hb : b < m.length) (h : Al c (l.drop (a + 1)) (m.drop (b + 1)) e) : Al c l m (c.o * (a : Int) + c.i * (b : Int) + chg c (l.getD a 0) (m.getD b 0) + e) := by
  have h1 := ((Al.base c (l.take a) (m.take b)).app (h.pair (l.getD a 0) (m.getD b 0)))
  have e1 : l.take a ++ l.getD a 0 :: l.drop (a + 1) = l := by
    rw [List.getD_eq_getElem?_getD, List.getElem?_eq_getElem ha, Option.getD_some, ← List.drop_eq_getElem_cons ha, List.take_append_drop]
  have e2 : m.take b ++ m.getD b 0 :: m.drop (b + 1) = m := by
    rw [List.getD_eq_getElem?_getD, List.getElem?_eq_getElem hb, Option.getD_some, ← List.drop_eq_getElem_cons hb, List.take_append_drop]
  rw [e1, e2] at h1
  refine h1.cast ?_
  rw [List.length_take, List.length_take, Nat.min_eq_left (by omega), Nat.min_eq_left (by omega)]
  omega
end

/-- The table: the smallest cost of comparing the first r signs with the first k. -/
def dd (l m : List Int) (c : Cst) : Nat → Nat → Int
  | 0, 0 => 0
  | r + 1, 0 => dd l m c r 0 + c.o
  | 0, k + 1 => dd l m c 0 k + c.i
  | r + 1, k + 1 => min (min (dd l m c r (k + 1) + c.o) (dd l m c (r + 1) k + c.i)) (dd l m c r k + chg c (l.getD r 0) (m.getD k 0))
termination_by r k => (r, k)
theorem take_rev {l : List Int} {r : Nat} (h : r < l.length) : (l.take (r + 1)).reverse = l.getD r 0 :: (l.take r).reverse := by
  rw [List.take_succ_eq_append_getElem h, List.reverse_append, List.getD_eq_getElem?_getD, List.getElem?_eq_getElem h]
  rfl
section
variable {c : Cst} {l m : List Int}
theorem dd_al : ∀ (r k : Nat), r ≤ l.length → k ≤ m.length → Al c (l.take r).reverse (m.take k).reverse (dd l m c r k)
  | 0, 0, _, _ => by simpa [dd] using Al.nil
  | r + 1, 0, hr, hk => by
    have h := dd_al r 0 (by omega) hk
    rw [take_rev (by omega), dd]
    exact h.out _
  | 0, k + 1, hr, hk => by
    have h := dd_al 0 k hr (by omega)
    rw [take_rev (l := m) (by omega), dd]
    exact h.inn _
  | r + 1, k + 1, hr, hk => by
    have h1 := dd_al r (k + 1) (by omega) hk
    have h2 := dd_al (r + 1) k hr (by omega)
    have h3 := dd_al r k (by omega) (by omega)
    rw [dd]
    rw [take_rev (l := l) (r := r) (by omega)] at h2 ⊢
    rw [take_rev (l := m) (r := k) (by omega)] at h1 ⊢
    have k1 := h1.out (l.getD r 0)
    have k2 := h2.inn (m.getD k 0)
    have k3 := h3.pair (l.getD r 0) (m.getD k 0)
    generalize dd l m c r (k + 1) + c.o = A at *
    generalize dd l m c (r + 1) k + c.i = B at *
    generalize dd l m c r k + chg c (l.getD r 0) (m.getD k 0) = C at *
    rcases Int.le_total A B with h | h
    · rw [Int.min_eq_left h]
      rcases Int.le_total A C with h' | h'
      · rw [Int.min_eq_left h']; exact k1
      · rw [Int.min_eq_right h']; exact k3
    · rw [Int.min_eq_right h]
      rcases Int.le_total B C with h' | h'
      · rw [Int.min_eq_left h']; exact k2
      · rw [Int.min_eq_right h']; exact k3
termination_by r k => (r, k)
/-- A table that grows slowly is nowhere above the smallest cost. -/
theorem slow_le (T : Nat → Nat → Int) (h0 : T 0 0 = 0) (h1 : ∀ r k, r < l.length → k ≤ m.length → T (r + 1) k ≤ T r k + c.o) (h2 : ∀ r k, r ≤ l.length → k < m.length → T r (k + 1) ≤ T r k + c.i) (h3 : ∀ r k, r < l.length → k < m.length → T (r + 1) (k + 1) ≤ T r k + chg c (l.getD r 0) (m.getD k 0)) :
    ∀ (x y : List Int) (d : Int), Al c x y d → ∀ r k, r ≤ l.length → k ≤ m.length → (l.take r).reverse = x → (m.take k).reverse = y → T r k ≤ d := by
  intro x y d h
  induction h with
  | nil =>
    intro r k hr hk ex ey
    have er := congrArg List.length ex
    have ek := congrArg List.length ey
    simp at er ek
    obtain rfl : r = 0 := by rcases er with e | e; exact e; subst e; simpa using hr
    obtain rfl : k = 0 := by rcases ek with e | e; exact e; subst e; simpa using hk
    omega
  | out x _ ih =>
    intro r k hr hk ex ey
    cases r with
    | zero => simp at ex
    | succ r =>
      rw [take_rev (by omega)] at ex
      injection ex with _ ex
      have := ih r k (by omega) hk ex ey
      have := h1 r k (by omega) hk
      omega
  | inn y _ ih =>
    intro r k hr hk ex ey
    cases k with
    | zero => simp at ey
    | succ k =>
      rw [take_rev (by omega)] at ey
      injection ey with _ ey
      have := ih r k hr (by omega) ex ey
      have := h2 r k hr (by omega)
      omega
  | pair x y _ ih =>
    intro r k hr hk ex ey
    cases r with
    | zero => simp at ex
    | succ r =>
      cases k with
      | zero => simp at ey
      | succ k =>
        rw [take_rev (by omega)] at ex ey
        injection ex with e1 ex
        injection ey with e2 ey
        have := ih r k (by omega) (by omega) ex ey
        have := h3 r k (by omega) (by omega)
        rw [e1, e2] at this
        omega
theorem dd_out (r k : Nat) : dd l m c (r + 1) k ≤ dd l m c r k + c.o := by
  cases k with
  | zero => rw [dd]; omega
  | succ k => rw [dd]; omega
theorem dd_inn (r k : Nat) : dd l m c r (k + 1) ≤ dd l m c r k + c.i := by
  cases r with
  | zero => rw [dd]; omega
  | succ r => rw [dd]; omega
theorem dd_pair (r k : Nat) : dd l m c (r + 1) (k + 1) ≤ dd l m c r k + chg c (l.getD r 0) (m.getD k 0) := by
  rw [dd]; omega
theorem dd_le {r k : Nat} (hr : r ≤ l.length) (hk : k ≤ m.length) {d : Int} (h : Al c (l.take r).reverse (m.take k).reverse d) : dd l m c r k ≤ d :=
  slow_le (l := l) (m := m) (fun r k => dd l m c r k) (by simp [dd]) (fun r k _ _ => dd_out r k) (fun r k _ _ => dd_inn r k) (fun r k _ _ => dd_pair r k) _ _ d h r k hr hk rfl rfl
/-- The distance. -/
def dist (l m : List Int) (c : Cst) : Int := dd l m c l.length m.length
theorem dist_al (l m : List Int) (c : Cst) : Al c l m (dist l m c) := by
  have := (dd_al (l := l) (m := m) (c := c) l.length m.length (Nat.le_refl _) (Nat.le_refl _)).rev
  show Al c l m (dd l m c l.length m.length)
  simpa using this
theorem dist_le {d : Int} (h : Al c l m d) : dist l m c ≤ d :=
  dd_le (Nat.le_refl _) (Nat.le_refl _) (by simpa using h.rev)
theorem dist_of {d : Int} (h : Al c l m d) (hm : ∀ e, Al c l m e → d ≤ e) : dist l m c = d := by
  have h1 := dist_le h
  have h2 := hm _ (dist_al l m c)
  omega
theorem dd_take {r k : Nat} (hr : r ≤ l.length) (hk : k ≤ m.length) : dd l m c r k = dist (l.take r) (m.take k) c := by
  refine (dist_of (by simpa using (dd_al (c := c) r k hr hk).rev) fun e he => dd_le hr hk he.rev).symm
theorem slow_dist (T : Nat → Nat → Int) (h0 : T 0 0 = 0) (h1 : ∀ r k, r < l.length → k ≤ m.length → T (r + 1) k ≤ T r k + c.o) (h2 : ∀ r k, r ≤ l.length → k < m.length → T r (k + 1) ≤ T r k + c.i) (h3 : ∀ r k, r < l.length → k < m.length → T (r + 1) (k + 1) ≤ T r k + chg c (l.getD r 0) (m.getD k 0)) : T l.length m.length ≤ dist l m c :=
  slow_le T h0 h1 h2 h3 _ _ _ (by simpa using (dist_al l m c).rev) l.length m.length (Nat.le_refl _) (Nat.le_refl _) rfl rfl
theorem dist_nn (hc : c.ok) (l m : List Int) : 0 ≤ dist l m c := (dist_al l m c).pos hc
theorem dist_zero (hc : c.ok) (l m : List Int) : dist l m c = 0 ↔ l = m := by
  constructor
  · exact fun h => (dist_al l m c).eq_of_zero hc h
  · rintro rfl
    have h1 := dist_le (Al.same c l)
    have h2 := dist_nn hc l l
    omega
theorem dist_rev (l m : List Int) (c : Cst) : dist l.reverse m.reverse c = dist l m c :=
  dist_of (dist_al l m c).rev fun e he => by have := dist_le (c := c) (l := l) (m := m) (by simpa using he.rev); exact this
theorem dist_swap (l m : List Int) (c : Cst) : dist m l c.swap = dist l m c :=
  dist_of (dist_al l m c).swap fun e he => dist_le (by simpa [Cst.swap] using he.swap)
theorem dist_tri (hc : c.ok) (l k m : List Int) : dist l m c ≤ dist l k c + dist k m c := by
  obtain ⟨f, h1, h2⟩ := (dist_al l k c).trans hc (dist_al k m c)
  have := dist_le h2
  omega
theorem dist_base (l m : List Int) (c : Cst) : dist l m c ≤ c.o * l.length + c.i * m.length := dist_le (Al.base c l m)
end
end Go.Proofs.Ytndfdminjegldaa
