/- Plain mathematics: the hours of a plan's starts as a set; how many sets make a cheapest plan that starts in all their hours. No program. -/
import Derived.Test.YtlndjjdggedljaaWalkAs
namespace Go.Proofs.Ytlndjjdggedljaa
open Go.RowKit

theorem pumpL_mem (p : Nat → Int) (x : Int) : ∀ k : Nat, x ∈ pumpL p k ↔ ∃ s, s < k ∧ 0 < p s ∧ x = (s : Int) := by
  intro k
  induction k with
  | zero =>
    constructor
    · intro h
      cases h
    · rintro ⟨s, h, _⟩
      omega
  | succ k ih =>
    by_cases h : 0 < p k
    · rw [pumpL_yes h, List.mem_append, ih, List.mem_singleton]
      constructor
      · rintro (⟨s, h1, h2, h3⟩ | e)
        · exact ⟨s, by omega, h2, h3⟩
        · exact ⟨k, by omega, h, e⟩
      · rintro ⟨s, h1, h2, h3⟩
        by_cases e : s = k
        · subst e; exact Or.inr h3
        · exact Or.inl ⟨s, by omega, h2, h3⟩
    · rw [pumpL_no h, ih]
      constructor
      · rintro ⟨s, h1, h2, h3⟩
        exact ⟨s, by omega, h2, h3⟩
      · rintro ⟨s, h1, h2, h3⟩
        by_cases e : s = k
        · subst e; exact absurd h2 h
        · exact ⟨s, by omega, h2, h3⟩
theorem pumpL_in (p : Nat → Int) (k s : Nat) : inS (pumpL p k) s = decide (s < k ∧ 0 < p s) := by
  unfold inS
  apply decide_eq_decide.2
  rw [pumpL_mem]
  constructor
  · rintro ⟨r, h1, h2, h3⟩
    obtain rfl : s = r := by omega
    exact ⟨h1, h2⟩
  · rintro ⟨h1, h2⟩
    exact ⟨s, h1, h2, rfl⟩
theorem getD_mem {xs : List Int} {j : Nat} (h : j < xs.length) : xs.getD j 0 ∈ xs := by
  rw [List.getD_eq_getElem?_getD, List.getElem?_eq_getElem h]
  exact List.getElem_mem h
theorem pumpL_set (p : Nat → Int) {n : Nat} : ∀ {k : Nat}, (∀ s, s < k → 0 < p s → s < n) → SetTo (pumpL p k) n (pumpL p k).length := by
  intro k
  induction k with
  | zero => intro _ j hj; exact absurd hj (Nat.not_lt_zero _)
  | succ k ih =>
    intro f
    have ih := ih fun s h1 h2 => f s (by omega) h2
    by_cases h : 0 < p k
    · rw [pumpL_yes h]
      intro j hj
      rw [List.length_append, List.length_singleton] at hj
      have g : ∀ i, i < (pumpL p k).length → (pumpL p k ++ [(k : Int)]).getD i 0 = (pumpL p k).getD i 0 := fun i hi => by
        rw [List.getD_eq_getElem?_getD, List.getD_eq_getElem?_getD, List.getElem?_append_left hi]
      have gl : (pumpL p k ++ [(k : Int)]).getD (pumpL p k).length 0 = (k : Int) := by
        rw [List.getD_eq_getElem?_getD, List.getElem?_append_right (Nat.le_refl _), Nat.sub_self]
        rfl
      have fk := f k (by omega) h
      by_cases e : j = (pumpL p k).length
      · subst e
        rw [gl]
        refine ⟨⟨by omega, by omega⟩, fun q => ?_⟩
        rw [g _ (by omega)]
        obtain ⟨s, h1, _, h3⟩ := (pumpL_mem p _ k).1 (getD_mem (xs := pumpL p k) (j := (pumpL p k).length - 1) (by omega))
        omega
      · rw [g j (by omega)]
        have a := ih j (by omega)
        exact ⟨a.1, fun q => by rw [g _ (by omega)]; exact a.2 q⟩
    · rw [pumpL_no h]
      exact ih
theorem pumpL_congr {p q : Nat → Int} : ∀ {k : Nat}, (∀ i, i < k → (0 < p i ↔ 0 < q i)) → pumpL p k = pumpL q k := by
  intro k
  induction k with
  | zero => intro _; rfl
  | succ k ih =>
    intro h
    have a := ih fun i hi => h i (by omega)
    by_cases g : 0 < p k
    · rw [pumpL_yes g, pumpL_yes ((h k (by omega)).1 g), a]
    · rw [pumpL_no g, pumpL_no fun q => g ((h k (by omega)).2 q), a]
theorem pumpL_skip {q : Nat → Int} {n : Nat} : ∀ {k : Nat}, n ≤ k → (∀ i, n ≤ i → i < k → ¬ 0 < q i) → pumpL q k = pumpL q n := by
  intro k
  induction k with
  | zero =>
    intro h _
    obtain rfl : n = 0 := by omega
    rfl
  | succ k ih =>
    intro h f
    by_cases e : n = k + 1
    · rw [e]
    · rw [pumpL_no (f k (by omega) (by omega)), ih (by omega) fun i h1 h2 => f i h1 (by omega)]
theorem pumpL_eq {p q : Nat → Int} {n k : Nat} (h : n ≤ k) (f : ∀ i, n ≤ i → i < k → ¬ 0 < q i) : pumpL p n = pumpL q k ↔ ∀ i, i < n → (0 < p i ↔ 0 < q i) := by
  rw [pumpL_skip h f]
  constructor
  · intro e i hi
    have a := pumpL_in p n i
    rw [e, pumpL_in] at a
    have b := decide_eq_decide.1 a
    constructor
    · intro g; exact (b.2 ⟨hi, g⟩).2
    · intro g; exact (b.1 ⟨hi, g⟩).2
  · exact pumpL_congr

/-- 1 for the hours of the set that x stands for. -/
def bitP (x i : Nat) : Int := if bitS x i = true then 1 else 0
theorem bitP_pos (x i : Nat) : 0 < bitP x i ↔ bitS x i = true := by
  unfold bitP
  split <;> simp_all
theorem bit_out {x n i : Nat} (hn : n ≤ 12) (hx : x < 2 ^ n) (h : n ≤ i) (hi : i < 64) : ¬ bitS x i = true := by
  have a : 2 ^ n ≤ 2 ^ 12 := Nat.pow_le_pow_right (by omega) hn
  have b : 2 ^ n ≤ 2 ^ i := Nat.pow_le_pow_right (by omega) h
  rw [bitS_eq _ _ (by omega) hi, Nat.testBit_lt_two_pow (by omega)]
  simp

section
variable {t : Tk} {n : Nat}
/-- The set that x stands for makes a cheapest plan that starts in all its hours. -/
def Tk.Full (t : Tk) (n x : Nat) : Prop := t.Can (bitS x) n ∧ (∀ i, i < n → (0 < t.asg (t.ast (bitS x)) n i ↔ bitS x i = true)) ∧ t.setC n x = t.f n
open Classical in
/-- How many of the sets below j do. -/
noncomputable def Tk.cn (t : Tk) (n : Nat) : Nat → Nat
  | 0 => 0
  | j + 1 => if t.Full n j then Tk.cn t n j + 1 else Tk.cn t n j
theorem Tk.cn_yes {j : Nat} (h : t.Full n j) : t.cn n (j + 1) = t.cn n j + 1 := by rw [Tk.cn, if_pos h]
theorem Tk.cn_no {j : Nat} (h : ¬ t.Full n j) : t.cn n (j + 1) = t.cn n j := by rw [Tk.cn, if_neg h]
theorem Tk.cn_le (t : Tk) (n : Nat) : ∀ j : Nat, t.cn n j ≤ j := by
  intro j
  induction j with
  | zero => exact Nat.le_refl _
  | succ j ih =>
    by_cases h : t.Full n j
    · rw [Tk.cn_yes h]; omega
    · rw [Tk.cn_no h]; omega
theorem Tk.cn_pos {x : Nat} (h : t.Full n x) : ∀ {j : Nat}, x < j → 0 < t.cn n j := by
  intro j
  induction j with
  | zero => intro h; omega
  | succ j ih =>
    intro hx
    by_cases e : x = j
    · subst e; rw [Tk.cn_yes h]; omega
    · have := ih (by omega)
      by_cases g : t.Full n j
      · rw [Tk.cn_yes g]; omega
      · rw [Tk.cn_no g]; omega
/-- In an hour in which a plan of a set starts, the set has it. -/
theorem asg_in {S : Nat → Bool} (can : t.Can S n) {i : Nat} (h : 0 < t.asg (t.ast S) n i) : S i = true := by
  apply Classical.byContradiction
  intro g
  have z : t.asg (t.ast S) n i = 0 := sm_none fun u _ hu => by
    by_cases e : t.ast S u = i
    · rw [if_pos e]
      by_cases d : t.d u = 0
      · exact d
      · exfalso
        cases q : t.near S u (u + 1) with
        | none => exact can u hu d q
        | some b =>
          have a : t.ast S u = b := by unfold Tk.ast; rw [q]; rfl
          have c := ((t.near_spec S u (u + 1)).2 b q).2.1
          rw [← a, e] at c
          exact g c
    · rw [if_neg e]
  omega
theorem full_ex (ok : t.Ok n) (hn : n ≤ 12) : ∀ x : Nat, x < 2 ^ n → t.Can (bitS x) n → t.setC n x = t.f n → ∃ y, y < 2 ^ n ∧ t.Full n y := by
  intro x
  induction x using Nat.strongRecOn with
  | ind x ih =>
    intro hx can hc
    have h4 : 2 ^ n ≤ 2 ^ 12 := Nat.pow_le_pow_right (by omega) hn
    by_cases full : ∀ i, i < n → (0 < t.asg (t.ast (bitS x)) n i ↔ bitS x i = true)
    · exact ⟨x, hx, can, full, hc⟩
    · obtain ⟨y, hy, hb⟩ := set_num (fun s => decide (0 < t.asg (t.ast (bitS x)) n s)) n
      have r := Tk.asg_right ok hn (a := t.ast (bitS x)) fun u _ => t.ast_le _ u
      obtain ⟨can', le⟩ := Tk.set_le ok hn r (S := bitS y) (fun s hs => by rw [bitS_eq y s (by omega) (by omega), hb s hs]; simp)
      have sub : ∀ s, y.testBit s = true → x.testBit s = true := fun s hs => by
        by_cases q : s < n
        · rw [hb s q, decide_eq_true_iff] at hs
          have := asg_in can hs
          rwa [bitS_eq x s (by omega) (by omega)] at this
        · have : 2 ^ n ≤ 2 ^ s := Nat.pow_le_pow_right (by omega) (by omega)
          rw [Nat.testBit_lt_two_pow (by omega)] at hs
          cases hs
      have an : y &&& x = y := Nat.eq_of_testBit_eq fun s => by
        rw [Nat.testBit_and]
        cases q : y.testBit s with
        | false => rfl
        | true => rw [sub s q]; rfl
      have yx : y ≤ x := by rw [← an]; exact Nat.and_le_right
      have ne : y ≠ x := fun e => full fun i hi => by
        rw [bitS_eq x i (by omega) (by omega), ← e, hb i hi]
        simp [e]
      refine ih y (by omega) hy can' ?_
      have g := setC_ge ok hn y
      rw [setC_eq] at g ⊢
      rw [setC_eq] at hc
      omega
theorem cn_some (ok : t.Ok n) (hn : n ≤ 12) : 0 < t.cn n (2 ^ n) := by
  obtain ⟨x, hx, hb⟩ := set_num (fun s => decide (0 < t.bp n s)) n
  have h4 : 2 ^ n ≤ 2 ^ 12 := Nat.pow_le_pow_right (by omega) hn
  have r := ok.bp_right hn
  obtain ⟨can, le⟩ := Tk.set_le ok hn r (S := bitS x) (fun s hs => by rw [bitS_eq x s (by omega) (by omega), hb s hs]; simp)
  rw [← setC_eq, (ok.good (Nat.le_refl n)).cost] at le
  have g := setC_ge ok hn x
  obtain ⟨y, hy, hf⟩ := full_ex ok hn x hx can (by omega)
  exact Tk.cn_pos hf hy
end
end Go.Proofs.Ytlndjjdggedljaa
