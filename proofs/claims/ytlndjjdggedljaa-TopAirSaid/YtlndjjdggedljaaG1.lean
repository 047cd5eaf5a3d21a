/- Group 1: texts MathA, MathB, Base, Own, WalkA, WalkB, WalkC. -/
import Derived.Test.YtlndjjdggedljaaRows
import Derived.WalkKit
import Derived.WalkSpells
import Derived.WalkLawsBesides
import Derived.Below
import Derived.Deep.QuietTactic
import Derived.BigQuiet
import Derived.Lib.Hide
import Derived.Laws.OwnMore
import Derived.Laws.Rows
import Derived.Deep.Draws
import Derived.OwnWalk
import Derived.Laws.AppendOwn
/- MathA -/
namespace Go.Proofs.Ytlndjjdggedljaa

/-- The sum of f from s on and before n. -/
def sm (f : Nat → Int) (s : Nat) : Nat → Int
  | 0 => 0
  | n + 1 => if s ≤ n then sm f s n + f n else 0
theorem sm_succ {f : Nat → Int} {s n : Nat} (h : s ≤ n) : sm f s (n + 1) = sm f s n + f n := by
  show (if _ then _ else _) = _
  rw [if_pos h]
theorem sm_ge {f : Nat → Int} {s n : Nat} (h : n ≤ s) : sm f s n = 0 := by
  cases n with
  | zero => rfl
  | succ n => show (if _ then _ else _) = _; rw [if_neg (by omega)]
theorem sm_self (f : Nat → Int) (s : Nat) : sm f s s = 0 := sm_ge (Nat.le_refl _)
theorem sm_congr {f g : Nat → Int} {s : Nat} : ∀ {n : Nat}, (∀ i, s ≤ i → i < n → f i = g i) → sm f s n = sm g s n := by
  intro n
  induction n with
  | zero => intro _; rfl
  | succ n ih =>
    intro h
    by_cases hs : s ≤ n
    · rw [sm_succ hs, sm_succ hs, ih (fun i h1 h2 => h i h1 (by omega)), h n hs (by omega)]
    · rw [sm_ge (by omega), sm_ge (by omega)]
theorem sm_mono {f g : Nat → Int} {s : Nat} : ∀ {n : Nat}, (∀ i, s ≤ i → i < n → f i ≤ g i) → sm f s n ≤ sm g s n := by
  intro n
  induction n with
  | zero => intro _; exact Int.le_refl _
  | succ n ih =>
    intro h
    by_cases hs : s ≤ n
    · rw [sm_succ hs, sm_succ hs]
      have := ih (fun i h1 h2 => h i h1 (by omega))
      have := h n hs (by omega)
      omega
    · rw [sm_ge (by omega), sm_ge (by omega)]; exact Int.le_refl _
theorem sm_zero {s : Nat} : ∀ {n : Nat}, sm (fun _ => 0) s n = 0 := by
  intro n
  induction n with
  | zero => rfl
  | succ n ih =>
    by_cases hs : s ≤ n
    · rw [sm_succ hs, ih]; rfl
    · rw [sm_ge (by omega)]
theorem sm_nonneg {f : Nat → Int} {s n : Nat} (h : ∀ i, s ≤ i → i < n → 0 ≤ f i) : 0 ≤ sm f s n := by
  have := sm_mono (f := fun _ => 0) (g := f) h
  rw [sm_zero] at this
  exact this
theorem sm_split {f : Nat → Int} {s m : Nat} (h1 : s ≤ m) : ∀ {n : Nat}, m ≤ n → sm f s n = sm f s m + sm f m n := by
  intro n
  induction n with
  | zero => intro h; obtain rfl : m = 0 := by omega
            simp [sm]
  | succ n ih =>
    intro h
    by_cases hm : m ≤ n
    · rw [sm_succ (by omega : s ≤ n), sm_succ hm, ih hm]; omega
    · obtain rfl : m = n + 1 := by omega
      rw [sm_self]; omega
theorem sm_add (f g : Nat → Int) (s n : Nat) : sm (fun i => f i + g i) s n = sm f s n + sm g s n := by
  induction n with
  | zero => rfl
  | succ n ih =>
    by_cases hs : s ≤ n
    · rw [sm_succ hs, sm_succ hs, sm_succ hs, ih]; omega
    · rw [sm_ge (by omega), sm_ge (by omega), sm_ge (by omega)]; rfl
theorem sm_sub (f g : Nat → Int) (s n : Nat) : sm (fun i => f i - g i) s n = sm f s n - sm g s n := by
  induction n with
  | zero => rfl
  | succ n ih =>
    by_cases hs : s ≤ n
    · rw [sm_succ hs, sm_succ hs, sm_succ hs, ih]; omega
    · rw [sm_ge (by omega), sm_ge (by omega), sm_ge (by omega)]; rfl
theorem sm_mul (k : Int) (f : Nat → Int) (s n : Nat) : sm (fun i => k * f i) s n = k * sm f s n := by
  induction n with
  | zero => show (0 : Int) = k * 0; rw [Int.mul_zero]
  | succ n ih =>
    by_cases hs : s ≤ n
    · rw [sm_succ hs, sm_succ hs, ih, Int.mul_add]
    · rw [sm_ge (by omega), sm_ge (by omega), Int.mul_zero]
theorem sm_bound {f : Nat → Int} {s : Nat} {b : Int} (hb : 0 ≤ b) : ∀ {n : Nat}, (∀ i, s ≤ i → i < n → f i ≤ b) → sm f s n ≤ (n : Int) * b := by
  intro n
  induction n with
  | zero => intro _; simp [sm]
  | succ n ih =>
    intro h
    have e : ((n + 1 : Nat) : Int) * b = (n : Int) * b + b := by rw [Int.natCast_add, Int.add_mul]; simp
    by_cases hs : s ≤ n
    · rw [sm_succ hs, e]
      have := ih (fun i h1 h2 => h i h1 (by omega))
      have := h n hs (by omega)
      omega
    · rw [sm_ge (by omega), e]
      have : 0 ≤ (n : Int) * b := Int.mul_nonneg (by omega) hb
      omega
theorem sm_pos {f : Nat → Int} {s n i : Nat} (h : ∀ j, s ≤ j → j < n → 0 ≤ f j) (h1 : s ≤ i) (h2 : i < n) : f i ≤ sm f s n := by
  rw [sm_split (by omega : s ≤ i) (by omega : i ≤ n), sm_split (by omega : i ≤ i + 1) (by omega : i + 1 ≤ n), sm_succ (Nat.le_refl _), sm_self]
  have a1 := sm_nonneg (f := f) (s := s) (n := i) fun j h3 h4 => h j h3 (by omega)
  have a2 := sm_nonneg (f := f) (s := i + 1) (n := n) fun j h3 h4 => h j (by omega) h4
  omega
theorem sm_le {f : Nat → Int} {s m n : Nat} (h : ∀ j, s ≤ j → j < n → 0 ≤ f j) (hm : m ≤ n) : sm f s m ≤ sm f s n := by
  by_cases hs : s ≤ m
  · rw [sm_split hs hm]
    have := sm_nonneg (f := f) (s := m) (n := n) fun j h3 h4 => h j (by omega) h4
    omega
  · rw [sm_ge (by omega)]
    exact sm_nonneg h

/-- A task: the cost of a start, that of keeping, and for each hour the cost of pumping and the need. -/
structure Tk where
  K : Int
  h : Int
  c : Nat → Int
  d : Nat → Int
def tk (K h : Int) (cs ds : List Int) : Tk := ⟨K, h, fun i => cs.getD i 0, fun i => ds.getD i 0⟩
structure Tk.Ok (t : Tk) (n : Nat) : Prop where
  K0 : 0 ≤ t.K
  K1 : t.K ≤ 999
  h0 : 0 ≤ t.h
  h1 : t.h ≤ 20
  c0 : ∀ i, i < n → 0 ≤ t.c i
  c1 : ∀ i, i < n → t.c i ≤ 20
  d0 : ∀ i, i < n → 0 ≤ t.d i
  d1 : ∀ i, i < n → t.d i ≤ 50

def Tk.way (t : Tk) (s u : Nat) : Int := t.c s + t.h * ((u : Int) - (s : Int))
def Tk.units (t : Tk) (s n : Nat) : Int := sm t.d s n
def Tk.save (t : Tk) (s n : Nat) : Int := sm (fun u => t.d u * t.way s u) s n
def Tk.tog (t : Tk) (s n : Nat) : Int := if t.units s n = 0 then 0 else t.K + t.save s n

section
variable {t : Tk} {n : Nat}
theorem Tk.Ok.less (ok : t.Ok n) {m : Nat} (h : m ≤ n) : t.Ok m :=
  ⟨ok.K0, ok.K1, ok.h0, ok.h1, fun i hi => ok.c0 i (by omega), fun i hi => ok.c1 i (by omega), fun i hi => ok.d0 i (by omega), fun i hi => ok.d1 i (by omega)⟩
theorem Tk.Ok.way0 (ok : t.Ok n) {s u : Nat} (h1 : s ≤ u) (h2 : u < n) : 0 ≤ t.way s u := by
  have a := ok.c0 s (by omega)
  have b : 0 ≤ t.h * ((u : Int) - (s : Int)) := Int.mul_nonneg ok.h0 (by omega)
  unfold Tk.way
  omega
theorem Tk.Ok.way1 (ok : t.Ok n) {s u : Nat} (h1 : s ≤ u) (h2 : u < n) (hn : n ≤ 12) : t.way s u ≤ 240 := by
  have a := ok.c1 s (by omega)
  have b : t.h * ((u : Int) - (s : Int)) ≤ 20 * 11 := Int.mul_le_mul ok.h1 (by omega) (by omega) (by omega)
  unfold Tk.way
  omega
theorem Tk.Ok.dw0 (ok : t.Ok n) {s u : Nat} (h1 : s ≤ u) (h2 : u < n) : 0 ≤ t.d u * t.way s u :=
  Int.mul_nonneg (ok.d0 u h2) (ok.way0 h1 h2)
theorem Tk.Ok.dw1 (ok : t.Ok n) {s u : Nat} (h1 : s ≤ u) (h2 : u < n) (hn : n ≤ 12) : t.d u * t.way s u ≤ 12000 := by
  have : t.d u * t.way s u ≤ 50 * 240 := Int.mul_le_mul (ok.d1 u h2) (ok.way1 h1 h2 hn) (ok.way0 h1 h2) (by omega)
  omega
theorem Tk.Ok.units0 (ok : t.Ok n) (s : Nat) {m : Nat} (hm : m ≤ n) : 0 ≤ t.units s m := sm_nonneg fun i _ h => ok.d0 i (by omega)
theorem Tk.Ok.units1 (ok : t.Ok n) (s : Nat) {m : Nat} (hm : m ≤ n) (hn : n ≤ 12) : t.units s m ≤ 600 := by
  have := sm_bound (f := t.d) (s := s) (b := 50) (by omega) (n := m) fun i _ h => ok.d1 i (by omega)
  unfold Tk.units
  omega
theorem Tk.Ok.save0 (ok : t.Ok n) (s : Nat) {m : Nat} (hm : m ≤ n) : 0 ≤ t.save s m := sm_nonneg fun i h1 h => ok.dw0 h1 (by omega)
theorem Tk.Ok.save1 (ok : t.Ok n) (s : Nat) {m : Nat} (hm : m ≤ n) (hn : n ≤ 12) : t.save s m ≤ 144000 := by
  have := sm_bound (f := fun u => t.d u * t.way s u) (s := s) (b := 12000) (by omega) (n := m) fun i h1 h => ok.dw1 h1 (by omega) hn
  unfold Tk.save
  omega
theorem Tk.Ok.tog0 (ok : t.Ok n) (s : Nat) {m : Nat} (hm : m ≤ n) : 0 ≤ t.tog s m := by
  have := ok.save0 s hm
  have := ok.K0
  unfold Tk.tog
  split <;> omega
theorem Tk.Ok.tog1 (ok : t.Ok n) (s : Nat) {m : Nat} (hm : m ≤ n) (hn : n ≤ 12) : t.tog s m ≤ 144999 := by
  have := ok.save1 s hm hn
  have := ok.K1
  unfold Tk.tog
  split <;> omega
/-- Nothing needed: nothing spent. -/
theorem Tk.Ok.units_zero (ok : t.Ok n) {s m : Nat} (hm : m ≤ n) (h : t.units s m = 0) : ∀ i, s ≤ i → i < m → t.d i = 0 := by
  intro i h1 h2
  have a := sm_pos (f := t.d) (s := s) (n := m) (fun j _ hj => ok.d0 j (by omega)) h1 h2
  have b := ok.d0 i (by omega)
  unfold Tk.units at h
  omega
theorem Tk.Ok.save_zero (ok : t.Ok n) {s m : Nat} (hm : m ≤ n) (h : t.units s m = 0) : t.save s m = 0 := by
  have := ok.units_zero hm h
  unfold Tk.save
  rw [sm_congr (g := fun _ => 0) (fun i h1 h2 => by rw [this i h1 h2, Int.zero_mul]), sm_zero]
theorem Tk.Ok.save_le_tog (ok : t.Ok n) {s m : Nat} (hm : m ≤ n) : t.save s m ≤ t.tog s m := by
  unfold Tk.tog
  split
  · rename_i h; rw [ok.save_zero hm h]; exact Int.le_refl _
  · have := ok.K0; omega
theorem Tk.tog_le (t : Tk) (h0 : 0 ≤ t.K) {s m : Nat} (hs : 0 ≤ t.save s m) : t.tog s m ≤ t.K + t.save s m := by
  unfold Tk.tog
  split <;> omega
theorem Tk.tog_pos {s m : Nat} (h : t.units s m ≠ 0) : t.tog s m = t.K + t.save s m := by unfold Tk.tog; rw [if_neg h]
theorem Tk.units_succ {s u : Nat} (h : s ≤ u) : t.units s (u + 1) = t.units s u + t.d u := sm_succ h
theorem Tk.save_succ {s u : Nat} (h : s ≤ u) : t.save s (u + 1) = t.save s u + t.d u * t.way s u := sm_succ h
end

/-- The first of the smallest of f 0 .. f (k - 1), and where it is. -/
def firstMin (f : Nat → Int) : Nat → Int × Nat
  | 0 => (0, 0)
  | k + 1 => if k = 0 ∨ f k < (firstMin f k).1 then (f k, k) else firstMin f k
theorem firstMin_yes {f : Nat → Int} {k : Nat} (h : k = 0 ∨ f k < (firstMin f k).1) : firstMin f (k + 1) = (f k, k) := by
  show (if _ then _ else _) = _
  rw [if_pos h]
theorem firstMin_no {f : Nat → Int} {k : Nat} (h1 : k ≠ 0) (h2 : ¬ f k < (firstMin f k).1) : firstMin f (k + 1) = firstMin f k := by
  show (if _ then _ else _) = _
  rw [if_neg (by omega)]
theorem firstMin_spec (f : Nat → Int) : ∀ k, 1 ≤ k → (firstMin f k).1 = f (firstMin f k).2 ∧ (firstMin f k).2 < k ∧ ∀ j, j < k → (firstMin f k).1 ≤ f j := by
  intro k
  induction k with
  | zero => intro h; omega
  | succ k ih =>
    intro _
    by_cases h : k = 0 ∨ f k < (firstMin f k).1
    · rw [firstMin_yes h]
      refine ⟨rfl, by simp, fun j hj => ?_⟩
      by_cases hjk : j = k
      · subst hjk; exact Int.le_refl _
      · have := (ih (by omega)).2.2 j (by omega)
        show f k ≤ f j
        omega
    · rw [firstMin_no (by omega) (by omega)]
      obtain ⟨h1, h2, h3⟩ := ih (by omega)
      refine ⟨h1, by omega, fun j hj => ?_⟩
      by_cases hjk : j = k
      · subst hjk; omega
      · exact h3 j (by omega)
theorem firstMin_congr {f g : Nat → Int} : ∀ {k : Nat}, (∀ j, j < k → f j = g j) → firstMin f k = firstMin g k := by
  intro k
  induction k with
  | zero => intro _; rfl
  | succ k ih =>
    intro h
    have e := ih fun j hj => h j (by omega)
    show (if _ then _ else _) = (if _ then _ else _)
    rw [e, h k (by omega)]

/-- The least cost of the first n hours, and the last hour in which such a plan starts anew. -/
def Tk.F (t : Tk) (n : Nat) : Int × Nat := firstMin (fun l => if _h : l < n then (Tk.F t l).1 + t.tog l n else 0) n
termination_by n
def Tk.G (t : Tk) (n l : Nat) : Int := (t.F l).1 + t.tog l n
theorem Tk.F_eq (t : Tk) (n : Nat) : t.F n = firstMin (t.G n) n := by
  rw [Tk.F]
  exact firstMin_congr fun j hj => by rw [dif_pos hj]; rfl
theorem Tk.F_zero (t : Tk) : t.F 0 = (0, 0) := by rw [Tk.F_eq]; rfl
def Tk.f (t : Tk) (n : Nat) : Int := (t.F n).1
def Tk.q (t : Tk) (n : Nat) : Nat := (t.F n).2
theorem Tk.f_zero (t : Tk) : t.f 0 = 0 := by unfold Tk.f; rw [Tk.F_zero]
theorem Tk.f_eq (t : Tk) {n : Nat} (h : 1 ≤ n) : t.f n = t.f (t.q n) + t.tog (t.q n) n ∧ t.q n < n ∧ ∀ l, l < n → t.f n ≤ t.f l + t.tog l n := by
  have := firstMin_spec (t.G n) n h
  rw [← Tk.F_eq] at this
  exact this
section
variable {t : Tk} {n : Nat}
theorem Tk.Ok.f0 (ok : t.Ok n) : ∀ {m : Nat}, m ≤ n → 0 ≤ t.f m := by
  intro m
  induction m using Nat.strongRecOn with
  | ind m ih =>
    intro hm
    by_cases h : m = 0
    · subst h; rw [Tk.f_zero]; omega
    · obtain ⟨h1, h2, _⟩ := t.f_eq (n := m) (by omega)
      have := ih (t.q m) h2 (by omega)
      have := ok.tog0 (t.q m) hm
      omega
theorem Tk.Ok.fstep (_ok : t.Ok n) {u : Nat} (_hu : u < n) : t.f (u + 1) ≤ t.f u + t.tog u (u + 1) := (t.f_eq (n := u + 1) (by omega)).2.2 u (by omega)
theorem Tk.Ok.f1 (ok : t.Ok n) (hn : n ≤ 12) {m : Nat} (hm : m ≤ n) : t.f m ≤ 144999 := by
  by_cases h : m = 0
  · subst h; rw [Tk.f_zero]; omega
  · have := (t.f_eq (n := m) (by omega)).2.2 0 (by omega)
    rw [Tk.f_zero] at this
    have := ok.tog1 0 hm hn
    omega
/-- The costs of a block grow with its end. -/
theorem Tk.Ok.tog_mono (ok : t.Ok n) {s u : Nat} (hs : s ≤ u) (hu : u < n) : t.tog s u + t.d u * t.way s u ≤ t.tog s (u + 1) := by
  have d0 := ok.d0 u hu
  have w0 := ok.dw0 hs hu
  have u0 := ok.units0 s (m := u) (by omega)
  by_cases h : t.units s (u + 1) = 0
  · have e := h
    rw [Tk.units_succ hs] at e
    have e1 : t.units s u = 0 := by omega
    have e2 : t.d u = 0 := by omega
    unfold Tk.tog
    rw [if_pos h, if_pos e1, e2, Int.zero_mul]
    omega
  · rw [Tk.tog_pos h, Tk.save_succ hs]
    have := ok.save0 s (m := u) (by omega)
    have := t.tog_le ok.K0 this
    omega
theorem Tk.Ok.fall (ok : t.Ok n) {u : Nat} (hu : u < n) : t.f u ≤ t.f (u + 1) := by
  obtain ⟨h1, h2, _⟩ := t.f_eq (n := u + 1) (by omega)
  by_cases hq : t.q (u + 1) = u
  · rw [hq] at h1
    have := ok.tog0 u (m := u + 1) (by omega)
    omega
  · have a := (t.f_eq (n := u) (by omega)).2.2 (t.q (u + 1)) (by omega)
    have b := ok.tog_mono (s := t.q (u + 1)) (u := u) (by omega) hu
    have c := ok.dw0 (s := t.q (u + 1)) (u := u) (by omega) hu
    omega
end

end Go.Proofs.Ytlndjjdggedljaa

/- MathB -/
namespace Go.Proofs.Ytlndjjdggedljaa

/-- What of the price of an hour is above what is pumped for it in the hour s. -/
def Tk.over (t : Tk) (v : Nat → Int) (s u : Nat) : Int := if v u - t.d u * t.way s u < 0 then 0 else v u - t.d u * t.way s u
def Tk.above (t : Tk) (v : Nat → Int) (s n : Nat) : Int := sm (t.over v s) s n
/-- The prices hold. -/
def Tk.Holds (t : Tk) (v : Nat → Int) (n : Nat) : Prop := ∀ s, s < n → (t.d s = 0 → v s = 0) ∧ t.above v s n ≤ t.K
theorem Tk.over0 (t : Tk) (v : Nat → Int) (s u : Nat) : 0 ≤ t.over v s u := by unfold Tk.over; split <;> omega
theorem Tk.over_le (t : Tk) (v : Nat → Int) (s u : Nat) : v u - t.d u * t.way s u ≤ t.over v s u := by unfold Tk.over; split <;> omega
theorem Tk.above_succ (t : Tk) (v : Nat → Int) {s n : Nat} (h : s ≤ n) : t.above v s (n + 1) = t.above v s n + t.over v s n := sm_succ h
theorem Tk.above_le (t : Tk) (v : Nat → Int) {s m n : Nat} (h : m ≤ n) : t.above v s m ≤ t.above v s n := sm_le (fun j _ _ => t.over0 v s j) h

section
variable {t : Tk} {n : Nat} {v : Nat → Int}

/-- The worth of prices that hold is at most the least cost. -/
theorem Tk.Ok.worth_le (ok : t.Ok n) (hv : t.Holds v n) : ∀ {m : Nat}, m ≤ n → sm v 0 m ≤ t.f m := by
  intro m
  induction m using Nat.strongRecOn with
  | ind m ih =>
    intro hm
    by_cases h : m = 0
    · subst h; rw [Tk.f_zero]; exact Int.le_refl _
    · obtain ⟨h1, h2, _⟩ := t.f_eq (n := m) (by omega)
      have a := ih (t.q m) h2 (by omega)
      rw [sm_split (Nat.zero_le _) (by omega : t.q m ≤ m)]
      suffices sm v (t.q m) m ≤ t.tog (t.q m) m by omega
      unfold Tk.tog
      split
      · rename_i hz
        have z := ok.units_zero hm hz
        rw [sm_congr (g := fun _ => 0) (fun i h3 h4 => (hv i (by omega)).1 (z i h3 h4)), sm_zero]
        exact Int.le_refl _
      · have b := (hv (t.q m) (by omega)).2
        have c := t.above_le v (s := t.q m) hm
        have d : sm v (t.q m) m ≤ sm (fun u => t.over v (t.q m) u + t.d u * t.way (t.q m) u) (t.q m) m :=
          sm_mono fun i _ _ => by have := t.over_le v (t.q m) i; omega
        rw [sm_add] at d
        have e : sm (t.over v (t.q m)) (t.q m) m = t.above v (t.q m) m := rfl
        have e2 : sm (fun u => t.d u * t.way (t.q m) u) (t.q m) m = t.save (t.q m) m := rfl
        omega

/-- The price of an hour: what it adds to the least cost. -/
def Tk.p (t : Tk) (u : Nat) : Int := t.f (u + 1) - t.f u
theorem Tk.Ok.p0 (ok : t.Ok n) {u : Nat} (h : u < n) : 0 ≤ t.p u := by
  have := ok.fall h
  unfold Tk.p
  omega
theorem Tk.Ok.p_zero (ok : t.Ok n) {u : Nat} (h : u < n) (hd : t.d u = 0) : t.p u = 0 := by
  have a := ok.fall h
  have b := ok.fstep h
  have e : t.tog u (u + 1) = 0 := by
    unfold Tk.tog
    rw [if_pos]
    rw [Tk.units_succ (Nat.le_refl _), hd]
    unfold Tk.units
    rw [sm_self]
    rfl
  unfold Tk.p
  omega
theorem Tk.Ok.p1 (ok : t.Ok n) {u : Nat} (h : u < n) : t.p u ≤ 1999 := by
  have b := ok.fstep h
  have c := ok.d0 u h
  have e : t.save u (u + 1) = t.d u * t.way u u := by
    rw [Tk.save_succ (Nat.le_refl _)]
    unfold Tk.save
    rw [sm_self]
    omega
  have w : t.way u u = t.c u := by unfold Tk.way; simp
  have g : t.d u * t.way u u ≤ 50 * 20 := by
    rw [w]
    exact Int.mul_le_mul (ok.d1 u h) (ok.c1 u h) (ok.c0 u h) (by omega)
  have k := ok.K1
  have := ok.K0
  have := ok.save0 u (m := u + 1) (by omega)
  have := t.tog_le (s := u) (m := u + 1) ok.K0 this
  unfold Tk.p
  omega
theorem Tk.p_sum (t : Tk) {s n : Nat} (h : s ≤ n) : sm t.p s n = t.f n - t.f s := by
  induction n with
  | zero => obtain rfl : s = 0 := by omega
            simp [sm]
  | succ n ih =>
    by_cases hs : s ≤ n
    · rw [sm_succ hs, ih hs]; unfold Tk.p; omega
    · obtain rfl : s = n + 1 := by omega
      rw [sm_self]; omega
/-- What an hour pays is at least its way from the start of its block. -/
theorem Tk.Ok.p_ge (ok : t.Ok n) {u : Nat} (h : u < n) : t.d u * t.way (t.q (u + 1)) u ≤ t.p u := by
  obtain ⟨h1, h2, _⟩ := t.f_eq (n := u + 1) (by omega)
  have m := ok.tog_mono (s := t.q (u + 1)) (u := u) (by omega) h
  unfold Tk.p
  by_cases hq : t.q (u + 1) = u
  · rw [hq] at h1 m ⊢
    have := ok.tog0 u (m := u) (by omega)
    omega
  · have a := (t.f_eq (n := u) (by omega)).2.2 (t.q (u + 1)) (by omega)
    omega
/-- Some block that ends at u begins at an hour that is not dearer than s. -/
def Tk.Near (t : Tk) (s u : Nat) : Prop := ∃ r, r < u ∧ t.f u = t.f r + t.tog r u ∧ t.units r u ≠ 0 ∧ t.c r - t.h * (r : Int) ≤ t.c s - t.h * (s : Int)
theorem Tk.way_le {r s u : Nat} (h : t.c r - t.h * (r : Int) ≤ t.c s - t.h * (s : Int)) : t.way r u ≤ t.way s u := by
  unfold Tk.way
  rw [Int.mul_sub, Int.mul_sub]
  omega
theorem Tk.way_lt {r s u : Nat} (h : t.way r u ≤ t.way s u) : t.c r - t.h * (r : Int) ≤ t.c s - t.h * (s : Int) := by
  unfold Tk.way at h
  rw [Int.mul_sub, Int.mul_sub] at h
  omega
theorem Tk.Ok.near_price (ok : t.Ok n) {s u : Nat} (h : u < n) (hs : t.Near s u) : t.p u ≤ t.d u * t.way s u := by
  obtain ⟨r, h1, h2, h3, h4⟩ := hs
  have a := (t.f_eq (n := u + 1) (by omega)).2.2 r (by omega)
  have d0 := ok.d0 u h
  have u0 := ok.units0 r (m := u) (by omega)
  have e1 : t.tog r (u + 1) = t.tog r u + t.d u * t.way r u := by
    rw [Tk.tog_pos h3, Tk.tog_pos (by rw [Tk.units_succ (by omega)]; omega), Tk.save_succ (by omega)]
    omega
  have e2 : t.d u * t.way r u ≤ t.d u * t.way s u := Int.mul_le_mul_of_nonneg_left (Tk.way_le h4) d0
  unfold Tk.p
  omega
theorem Tk.Ok.near_next (ok : t.Ok n) {s u : Nat} (h : u < n) (hs : t.Near s u) : t.Near s (u + 1) := by
  have hp := ok.near_price h hs
  have d0 := ok.d0 u h
  by_cases hd : t.d u = 0
  · obtain ⟨r, h1, h2, h3, h4⟩ := hs
    have hz := ok.p_zero h hd
    refine ⟨r, by omega, ?_, ?_, h4⟩
    · rw [Tk.tog_pos h3] at h2
      rw [Tk.tog_pos (by rw [Tk.units_succ (by omega), hd]; omega), Tk.save_succ (by omega), hd]
      unfold Tk.p at hz
      omega
    · rw [Tk.units_succ (by omega), hd]; omega
  · obtain ⟨h1, h2, _⟩ := t.f_eq (n := u + 1) (by omega)
    have g := ok.p_ge h
    have u0 := ok.units0 (t.q (u + 1)) (m := u) (by omega)
    refine ⟨t.q (u + 1), h2, h1, by rw [Tk.units_succ (by omega)]; omega, Tk.way_lt (u := u) ?_⟩
    exact Int.le_of_mul_le_mul_left (a := t.d u) (by omega) (by omega)
theorem Tk.Ok.near_first (ok : t.Ok n) {s u : Nat} (h : u < n) (hp : t.p u < t.d u * t.way s u) : t.Near s (u + 1) := by
  have d0 := ok.d0 u h
  have hd : t.d u ≠ 0 := by
    intro hd
    rw [ok.p_zero h hd, hd] at hp
    omega
  obtain ⟨h1, h2, _⟩ := t.f_eq (n := u + 1) (by omega)
  have g := ok.p_ge h
  have u0 := ok.units0 (t.q (u + 1)) (m := u) (by omega)
  refine ⟨t.q (u + 1), h2, h1, by rw [Tk.units_succ (by omega)]; omega, Tk.way_lt (u := u) ?_⟩
  exact Int.le_of_mul_le_mul_left (a := t.d u) (by omega) (by omega)
/-- Up to an hour either every hour pays its way from s, or a nearer block has come and the sum stands. -/
theorem Tk.Ok.hold_to (ok : t.Ok n) {s : Nat} : ∀ {m : Nat}, s ≤ m → m ≤ n →
    ((t.above t.p s m = t.f m - t.f s - t.save s m) ∨ t.Near s m) ∧ t.above t.p s m ≤ t.K := by
  intro m hs
  induction m with
  | zero =>
    intro _
    obtain rfl : s = 0 := by omega
    refine ⟨.inl ?_, ?_⟩
    · simp [Tk.above, Tk.save, sm]
    · have := ok.K0; simpa [Tk.above, sm] using this
  | succ m ih =>
    intro hm
    by_cases hsm : s ≤ m
    · obtain ⟨h1, h2⟩ := ih hsm (by omega)
      have dw := ok.dw0 hsm (u := m) (by omega)
      rw [Tk.above_succ _ _ hsm]
      rcases h1 with h1 | h1
      · by_cases hp : t.p m < t.d m * t.way s m
        · have e : t.over t.p s m = 0 := by unfold Tk.over; rw [if_pos (by omega)]
          rw [e]
          exact ⟨.inr (ok.near_first (by omega) hp), by omega⟩
        · have e : t.over t.p s m = t.p m - t.d m * t.way s m := by unfold Tk.over; rw [if_neg (by omega)]
          have e2 : t.above t.p s m + t.over t.p s m = t.f (m + 1) - t.f s - t.save s (m + 1) := by
            rw [e, h1, Tk.save_succ hsm]
            unfold Tk.p
            omega
          refine ⟨.inl e2, ?_⟩
          rw [e2]
          have a := (t.f_eq (n := m + 1) (by omega)).2.2 s (by omega)
          have b := t.tog_le (s := s) (m := m + 1) ok.K0 (ok.save0 s hm)
          omega
      · have g := ok.near_price (by omega) h1
        have e : t.over t.p s m = 0 := by unfold Tk.over; split <;> omega
        rw [e]
        exact ⟨.inr (ok.near_next (by omega) h1), by omega⟩
    · obtain rfl : s = m + 1 := by omega
      have e : t.above t.p (m + 1) (m + 1) = 0 := sm_self _ _
      have e2 : t.save (m + 1) (m + 1) = 0 := sm_self _ _
      have := ok.K0
      rw [e, e2]
      exact ⟨.inl (by omega), by omega⟩
/-- The prices that the hours add hold. -/
theorem Tk.Ok.holds (ok : t.Ok n) : t.Holds t.p n := fun _ hs =>
  ⟨fun h => ok.p_zero hs h, (ok.hold_to (Nat.le_of_lt hs) (Nat.le_refl _)).2⟩
theorem Tk.Ok.worth (_ok : t.Ok n) : sm t.p 0 n = t.f n := by
  rw [t.p_sum (Nat.zero_le _), Tk.f_zero]
  omega
end

end Go.Proofs.Ytlndjjdggedljaa

/- Base -/
namespace Go.Proofs.Ytlndjjdggedljaa
open Go.RowKit

theorem hide {p : Prop} (h : p) : Hid p := h

/-- The slice value '.slice A n c' reads as the integers xs in the world w; b, off say where it lies (they mean nothing where it is empty). -/
structure RowAt (w : World) (A : Option Addr) (n c : Nat) (xs : List Int) (b off : Nat) : Prop where
  len : xs.length = n
  cap : n ≤ c
  max : c ≤ 9223372036854775807
  at_ : 0 < n → A = some ⟨b, off, none⟩
  lt : 0 < n → b < w.heap.size
  cell : ∀ k, k < n → w.cell? ⟨b, off + k, none⟩ = some (.int .i64 (xs.getD k 0))

def Row (w : World) (A : Option Addr) (n c : Nat) (xs : List Int) : Prop := ∃ b off, RowAt w A n c xs b off
theorem Row.length {w : World} {A : Option Addr} {n c : Nat} {xs : List Int} (h : Row w A n c xs) : xs.length = n := by
  obtain ⟨b, off, h1, hc, hm, h2, h3, h4⟩ := h
  exact h1
theorem RowAt.below {w w' : World} {A : Option Addr} {n c : Nat} {xs : List Int} {b off B : Nat} (h : RowAt w A n c xs b off) (hb : Below B w w') (hB : w.heap.size ≤ B) : RowAt w' A n c xs b off := by
  obtain ⟨h1, hc, hm, h2, h3, h4⟩ := h
  refine ⟨h1, hc, hm, h2, fun hn => Nat.lt_of_lt_of_le (h3 hn) hb.size, fun k hk => ?_⟩
  rw [hb.cell (p := ⟨b, off + k, none⟩) (Nat.lt_of_lt_of_le (h3 (by omega)) hB)]
  exact h4 k hk
theorem Row.below {w w' : World} {A : Option Addr} {n c : Nat} {xs : List Int} {B : Nat} (h : Row w A n c xs) (hb : Below B w w') (hB : w.heap.size ≤ B) : Row w' A n c xs := by
  obtain ⟨b, off, h⟩ := h
  exact ⟨b, off, h.below hb hB⟩
theorem RowAt.alloc {w : World} {A : Option Addr} {n c : Nat} {xs : List Int} {b off : Nat} (h : RowAt w A n c xs b off) (o : Obj) : RowAt (w.alloc o) A n c xs b off :=
  h.below ((Below.refl w.heap.size w).alloc (Nat.le_refl _) o) (Nat.le_refl _)
theorem Row.alloc {w : World} {A : Option Addr} {n c : Nat} {xs : List Int} (h : Row w A n c xs) (o : Obj) : Row (w.alloc o) A n c xs :=
  h.below ((Below.refl w.heap.size w).alloc (Nat.le_refl _) o) (Nat.le_refl _)
theorem RowAt.drewN {w : World} {A : Option Addr} {n c : Nat} {xs : List Int} {b off : Nat} (h : RowAt w A n c xs b off) (k : Nat) : RowAt (w.drewN k) A n c xs b off :=
  ⟨h.len, h.cap, h.max, h.at_, h.lt, h.cell⟩
/-- A task's two slices. -/
def Tin (w : World) (A : Option Addr) (n c : Nat) (cs : List Int) (A' : Option Addr) (n' c' : Nat) (ds : List Int) : Prop := Row w A n c cs ∧ Row w A' n' c' ds
section
variable {w w' : World} {A : Option Addr} {n c : Nat} {cs : List Int} {A' : Option Addr} {n' c' : Nat} {ds : List Int}
theorem Tin.below {B : Nat} (h : Tin w A n c cs A' n' c' ds) (hb : Below B w w') (hB : w.heap.size ≤ B) : Tin w' A n c cs A' n' c' ds := ⟨h.1.below hb hB, h.2.below hb hB⟩
theorem Tin.alloc (h : Tin w A n c cs A' n' c' ds) (o : Obj) : Tin (w.alloc o) A n c cs A' n' c' ds := ⟨h.1.alloc o, h.2.alloc o⟩
end
theorem bcell {W w1 : World} (hb : Below W.heap.size W w1) : (∀ b o, b < W.heap.size → w1.cell? ⟨b, o, none⟩ = W.cell? ⟨b, o, none⟩) ∧ (∀ b o, b < W.heap.size → w1.frozen? ⟨b, o, none⟩ = W.frozen? ⟨b, o, none⟩) :=
  ⟨fun b o h => hb.cell (p := ⟨b, o, none⟩) h, fun b o h => hb.frozen (p := ⟨b, o, none⟩) h⟩
theorem quiet_add_left {P : Program} {f : FuncId} {args : Array Value} {w : World} {a n : Nat} {v : Value}
    (h : Calls P f args (w.drewN (a + n)) fun e w' => e = .returned v ∧ w.drewN (a + n) = w') :
    Calls P f args (w.drewN (a + n)) fun e w'' => e = .returned v ∧ ∃ m, w'' = w.drewN (a + m) :=
  h.mono fun _ _ ⟨he, hm⟩ => ⟨he, n, hm.symm⟩
theorem quiet_left {P : Program} {f : FuncId} {args : Array Value} {w : World} {n : Nat} {v : Value}
    (h : Calls P f args (w.drewN n) fun e w' => e = .returned v ∧ w.drewN n = w') : Calls P f args (w.drewN n) fun e w'' => e = .returned v ∧ ∃ m, w'' = w.drewN m :=
  h.mono fun _ _ ⟨he, hm⟩ => ⟨he, n, hm.symm⟩
theorem below_drewN {B : Nat} {a w : World} (h : Below B a w) (n : Nat) : Below B a (w.drewN n) := ⟨h.os, h.tape, h.output, h.size, h.block⟩
theorem Row.drewN {w : World} {A : Option Addr} {n c : Nat} {xs : List Int} (h : Row w A n c xs) (k : Nat) : Row (w.drewN k) A n c xs := by
  obtain ⟨b, off, h⟩ := h
  exact ⟨b, off, h.len, h.cap, h.max, h.at_, h.lt, h.cell⟩
/-- Block g of the world is the cells cs, of type t. -/
def Bk (w : World) (g : Nat) (t : TypeId) (cs : Array Value) : Prop := w.heap[g]? = some (.cells cs t (0, 0))
section
variable {w w' : World} {g : Nat} {t : TypeId} {cs : Array Value}
theorem Bk.in_ (h : Bk w g t cs) : g < w.heap.size := (Array.getElem?_eq_some_iff.1 h).1
theorem Bk.at_ (h : Bk w g t cs) (i : Nat) : w.cell? ⟨g, i, none⟩ = cs[i]? := cell_of_row w g i cs t (0, 0) h
theorem Bk.fr (h : Bk w g t cs) (i : Nat) : w.frozen? ⟨g, i, none⟩ = false := by
  have h' : w.heap[g]? = some (.cells cs t (0, 0)) := h
  simp [World.frozen?, h']
theorem Bk.born (w : World) (t : TypeId) (cs : Array Value) : Bk (w.alloc (.cells cs t)) w.heap.size t cs := heap_alloc_new w _
theorem Bk.more (h : Bk w g t cs) (o : Obj) : Bk (w.alloc o) g t cs := (Below.heap_alloc w o g h.in_).trans h
theorem Bk.draw (h : Bk w g t cs) : Bk w.drew g t cs := h
theorem Bk.draws (h : Bk w g t cs) (n : Nat) : Bk (w.drewN n) g t cs := h
theorem Bk.put (h : Bk w g t cs) (i : Nat) (u : Value) : Bk (w.setCell ⟨g, i, none⟩ u) g t (cs.setIfInBounds i u) := by
  have h' : w.heap[g]? = some (.cells cs t (0, 0)) := h
  unfold Bk
  simp [World.setCell, Array.getElem?_modify, h']
theorem Bk.apart (h : Bk w g t cs) {p : Addr} (hp : g ≠ p.block) (u : Value) : Bk (w.setCell p u) g t cs := (Below.heap_setCell w p u g hp).trans h
theorem Bk.keep {B : Nat} (h : Bk w g t cs) (hb : Below B w w') (hg : g < B) : Bk w' g t cs := (hb.block g hg).trans h
theorem Bk.two {x y : Value} (h : Bk w g t #[x, y]) : w.cell? ⟨g, 0, none⟩ = some x ∧ w.cell? ⟨g, 1, none⟩ = some y ∧ w.frozen? ⟨g, 0, none⟩ = false ∧ w.frozen? ⟨g, 1, none⟩ = false ∧ g < w.heap.size :=
  ⟨h.at_ 0, h.at_ 1, h.fr 0, h.fr 1, h.in_⟩
theorem Bk.set2 {x y x' y' : Value} (h : Bk w g t #[x, y]) : Bk ((w.setCell ⟨g, 0, none⟩ x').setCell ⟨g, 1, none⟩ y') g t #[x', y'] := (h.put 0 x').put 1 y'
theorem Bk.res2 {x y : Value} (h : Bk w g t #[x, y]) (x' y' : Value) : (w.setCell ⟨g, 0, none⟩ x').cell? ⟨g, 0, none⟩ = some x' ∧ ((w.setCell ⟨g, 0, none⟩ x').setCell ⟨g, 1, none⟩ y').cell? ⟨g, 0, none⟩ = some x' ∧
    ((w.setCell ⟨g, 0, none⟩ x').setCell ⟨g, 1, none⟩ y').cell? ⟨g, 1, none⟩ = some y' :=
  ⟨(h.put 0 x').at_ 0, ((h.put 0 x').put 1 y').at_ 0, ((h.put 0 x').put 1 y').at_ 1⟩
end
theorem Bk.four {x y z u : Value} {w : World} {g : Nat} {t : TypeId} (h : Bk w g t #[x, y, z, u]) : w.cell? ⟨g, 0, none⟩ = some x ∧ w.cell? ⟨g, 1, none⟩ = some y ∧ w.cell? ⟨g, 2, none⟩ = some z ∧ w.cell? ⟨g, 3, none⟩ = some u ∧ g < w.heap.size :=
  ⟨h.at_ 0, h.at_ 1, h.at_ 2, h.at_ 3, h.in_⟩
theorem ret_i64 {a b : Int} (h : a = b) : Ending.returned (.int .i64 a) = .returned (.int .i64 b) := by rw [h]
theorem ret2_ii {a b c d : Int} (h : a = b) (h' : c = d) : Ending.returned (.tuple #[.int .i64 a, .int .i64 c]) = .returned (.tuple #[.int .i64 b, .int .i64 d]) := by rw [h, h']
theorem ret2_bi {a b : Bool} {c d : Int} (h : a = b) (h' : c = d) : Ending.returned (.tuple #[.bool a, .int .i64 c]) = .returned (.tuple #[.bool b, .int .i64 d]) := by rw [h, h']
theorem ret_bool {a b : Bool} (h : a = b) : Ending.returned (.bool a) = .returned (.bool b) := by rw [h]

end Go.Proofs.Ytlndjjdggedljaa

/- Own -/
namespace Go.Proofs.Ytlndjjdggedljaa
open Go.RowKit

theorem info_int : (Try.prog.info? 3).map (fun i => (i.zero, i.size, i.bytes)) = some (some (.int .i64 0), 1, 8) := by kernel_rfl

def ints (xs : List Int) : List Value := xs.map (Value.int .i64)
theorem ints_length (xs : List Int) : (ints xs).length = xs.length := by simp [ints]
theorem ints_append (xs ys : List Int) : ints (xs ++ ys) = ints xs ++ ints ys := by simp [ints]
theorem ints_one (xs : List Int) : ∀ u ∈ ints xs, u.oneCell' = true := by
  intro u hu
  obtain ⟨x, _, rfl⟩ := List.mem_map.1 hu
  rfl
theorem ints_get {xs : List Int} {k : Nat} (h : k < xs.length) : (ints xs)[k]? = some (.int .i64 (xs.getD k 0)) := by
  simp [ints, List.getElem?_map, List.getD_eq_getElem?_getD, List.getElem?_eq_getElem h]

/-- The slice value owns its row, from block B on, and holds xs. -/
def Own (w : World) (B : Nat) (A : Option Addr) (n c : Nat) (xs : List Int) : Prop := w.ownsRow B 3 1 (.slice A n c) n (ints xs)

section
variable {w w' : World} {B n c : Nat} {A : Option Addr} {xs : List Int}

theorem Own.len (h : Own w B A n c xs) : xs.length = n := by
  have := h.1
  rw [ints_length] at this
  omega
theorem Own.nil (w : World) (B : Nat) : Own w B none 0 0 [] := World.ownsRow_nil w B 3 1
theorem Own.form (h : Own w B A n c xs) : (A = none ∧ n = 0 ∧ c = 0 ∧ xs = []) ∨ ∃ g, A = some ⟨g, 0, none⟩ ∧ B ≤ g ∧ g < w.heap.size ∧ n ≤ c ∧ c ≤ maxLen := by
  have hl := h.len
  rcases h.2 with ⟨hv, hn⟩ | ⟨g, cap, cur, hv, hb, hg, hnc, hcm, _⟩
  · simp at hv
    obtain ⟨rfl, rfl, rfl⟩ := hv
    exact .inl ⟨rfl, rfl, rfl, List.eq_nil_of_length_eq_zero hl⟩
  · simp at hv
    obtain ⟨rfl, rfl⟩ := hv
    exact .inr ⟨g, rfl, hb, (Array.getElem?_eq_some_iff.1 hg).1, hnc, hcm⟩
theorem Own.cell {g : Nat} (h : Own w B (some ⟨g, 0, none⟩) n c xs) {k : Nat} (hk : k < n) : w.cell? ⟨g, k, none⟩ = some (.int .i64 (xs.getD k 0)) := by
  have e := World.ownsRow.cellAt h k (by omega)
  rw [e, ints_get (by rw [h.len]; exact hk)]
theorem Own.frozen {g : Nat} (h : Own w B (some ⟨g, 0, none⟩) n c xs) (k : Nat) : w.frozen? ⟨g, k, none⟩ = false := World.ownsRow.frozenAt h k
theorem Own.row (h : Own w B A n c xs) : Row w A n c xs := by
  rcases h.form with ⟨rfl, rfl, rfl, rfl⟩ | ⟨g, rfl, _, hlt, hnc', hcm'⟩
  · exact ⟨0, 0, rfl, by omega, by omega, fun h => by omega, fun h => by omega, fun k hk => by omega⟩
  · exact ⟨g, 0, h.len, hnc', hcm', fun _ => rfl, fun _ => hlt, fun k hk => by rw [Nat.zero_add]; exact h.cell hk⟩
theorem Own.kept (h : Own w B A n c xs) {row : Option Nat} (hg : w.grownBy w' row) (hne : (Value.slice A n c).ownBlock = none ∨ (Value.slice A n c).ownBlock ≠ row) : Own w' B A n c xs :=
  World.ownsRow.kept h hg hne
theorem grown_of_below {B : Nat} (h : Below B w w') (hB : w.heap.size ≤ B) (row : Option Nat) : w.grownBy w' row :=
  ⟨h.os, h.tape, h.output, h.size, fun k hk _ => h.block k (by omega)⟩
theorem Own.below (h : Own w B A n c xs) {B' : Nat} (hb : Below B' w w') (hB : w.heap.size ≤ B') : Own w' B A n c xs :=
  h.kept (grown_of_below hb hB none) (by cases hv : (Value.slice A n c).ownBlock <;> simp)
theorem Own.alloc (h : Own w B A n c xs) (o : Obj) : Own (w.alloc o) B A n c xs := World.ownsRow.alloc h o
theorem Own.drewN (h : Own w B A n c xs) (k : Nat) : Own (w.drewN k) B A n c xs := h
theorem Own.drew (h : Own w B A n c xs) : Own w.drew B A n c xs := h
theorem Own.more (h : Own w B A n c xs) {B' : Nat} (hB : B' ≤ B) : Own w B' A n c xs := by
  refine ⟨h.1, ?_⟩
  rcases h.2 with h2 | ⟨g, cap, cur, hv, hb, r⟩
  · exact .inl h2
  · exact .inr ⟨g, cap, cur, hv, by omega, r⟩
theorem Own.stored {g : Nat} (h : Own w B (some ⟨g, 0, none⟩) n c xs) (k : Nat) (y : Int) : Own (w.setCell ⟨g, k, none⟩ (.int .i64 y)) B (some ⟨g, 0, none⟩) n c (xs.set k y) := by
  have e := (World.ownsRow.stored h k (.int .i64 y)).1
  have : (ints xs).set k (.int .i64 y) = ints (xs.set k y) := by simp [ints, List.map_set]
  rw [this] at e
  exact e
theorem Own.lit (w : World) (xs : List Int) (hB : B ≤ w.heap.size) (hl : xs.length ≤ maxLen) : Own (w.alloc (.cells (ints xs).toArray 3)) B (some ⟨w.heap.size, 0, none⟩) xs.length xs.length xs := by
  have e := World.ownsRow_lit (w := w) (base := B) (e := 3) (size := 1) (ints xs).toArray xs.length hB hl (by simp [ints])
  simpa [Own] using e
theorem Own.litAt (w : World) (xs : List Int) (g : Nat) (hg : g = w.heap.size) (hB : B ≤ w.heap.size) (hl : xs.length ≤ maxLen) : Own (w.alloc (.cells (ints xs).toArray 3)) B (some ⟨g, 0, none⟩) xs.length xs.length xs := by
  subst hg; exact Own.lit w xs hB hl
end

section
variable (w : World) {ops : Array Oper} {rest : List Oper} {o : Oper} {a : Act} {Q : Exit → Act → World → Prop}

/-- out = append(out, y): y lies in a new block of its own. -/
theorem wpList_app1 (hgd : o.guard = none) (s x : Operand) (ho : o.op = .call { callee := .builtin .append, args := #[s, x], argTypes := #[22, 22] })
    (B n c : Nat) (A : Option Addr) (xs : List Int) (y : Int) (hs : a.eval s = .slice A n c) (hx : a.eval x = .slice (some ⟨w.heap.size, 0, none⟩) 1 1)
    (hown : Own w B A n c xs) (hn : n ≤ 1000000) (hB : B ≤ w.heap.size)
    (h : ∀ A' c' w', Own w' B A' (n + 1) c' (xs ++ [y]) → Below B w w' → w.grownBy w' (Value.slice A n c).ownBlock → wpList Try.prog ops Q rest (a.put o.dst (.slice A' (n + 1) c')) w') :
    wpList Try.prog ops Q (o :: rest) a (w.alloc (.cells #[.int .i64 y] 3)) := by
  obtain ⟨i0, hi, hz0, hz1, hz2⟩ := info_parts info_int
  refine wpList_append_own (P := Try.prog) _ hgd s x 22 ho B 3 i0 (.int .i64 0) 1 8 Try.underlying22 hi hz0 hz1 hz2 rfl (by decide) _ n (ints xs) hs (World.ownsRow.alloc hown _)
    ⟨w.heap.size, 0, none⟩ 1 1 [.int .i64 y] hx rfl ?_ (ints_one [y]) (by unfold maxLen; omega) (by omega) (by simp; omega) ?_
  · intro j u hu
    match j, hu with
    | 0, hu => simp at hu; subst hu; simp [Addr.add]
  · intro v' w' hown' hg _
    have hown2 : w'.ownsRow B 3 1 v' (n + 1) (ints (xs ++ [y])) := by rw [ints_append]; exact hown'
    have hg2 : w.grownBy w' (Value.slice A n c).ownBlock :=
      ⟨hg.os, hg.tape, hg.output, Nat.le_trans (by simp) hg.size, fun k hk hne => (hg.block k (by simp; omega) hne).trans (Below.heap_alloc w _ k hk)⟩
    have hv : ∃ A' c', v' = .slice A' (n + 1) c' := by
      rcases hown2.2 with ⟨_, hn0⟩ | ⟨g, cap, cur, hv, _⟩
      · omega
      · exact ⟨_, _, hv⟩
    obtain ⟨A', c', rfl⟩ := hv
    refine h A' c' w' hown2 ((Below.refl B w).grown hg2 hB fun k hk => ?_) hg2
    rcases Own.form (xs := xs) hown with ⟨rfl, _⟩ | ⟨g, rfl, hbg, _⟩
    · simp [Value.ownBlock] at hk
    · simp [Value.ownBlock] at hk; omega

/-- out = append(out, ys...), ys a slice of at least one element. -/
theorem wpList_appN (hgd : o.guard = none) (s x : Operand) (ho : o.op = .call { callee := .builtin .append, args := #[s, x], argTypes := #[22, 22] })
    (B n c : Nat) (A : Option Addr) (xs : List Int) (A2 : Option Addr) (m c2 : Nat) (ys : List Int) (hs : a.eval s = .slice A n c) (hx : a.eval x = .slice A2 m c2)
    (hown : Own w B A n c xs) (hrow : Row w A2 m c2 ys) (hm : 1 ≤ m) (hm2 : m ≤ 1000000) (hn : n ≤ 1000000) (hB : B ≤ w.heap.size)
    (h : ∀ A' c' w', Own w' B A' (n + m) c' (xs ++ ys) → Below B w w' → w.grownBy w' (Value.slice A n c).ownBlock → wpList Try.prog ops Q rest (a.put o.dst (.slice A' (n + m) c')) w') :
    wpList Try.prog ops Q (o :: rest) a w := by
  obtain ⟨i0, hi, hz0, hz1, hz2⟩ := info_parts info_int
  obtain ⟨b, off, r1, rcap, rmax, r2, r3, r4⟩ := hrow
  obtain rfl := r2 (by omega)
  refine wpList_append_own (P := Try.prog) _ hgd s x 22 ho B 3 i0 (.int .i64 0) 1 8 Try.underlying22 hi hz0 hz1 hz2 rfl (by decide) _ n (ints xs) hs hown
    ⟨b, off, none⟩ m c2 (ints ys) hx (by rw [ints_length]; omega) ?_ (ints_one ys) (by unfold maxLen; omega) (by omega) hB ?_
  · intro j u hu
    have hj : j < ys.length := by
      have := (List.getElem?_eq_some_iff.1 hu).1
      rwa [ints_length] at this
    rw [ints_get hj] at hu
    have := r4 j (by omega)
    rw [hu] at this
    unfold Addr.add
    split
    · rename_i h0; subst h0; exact this
    · exact this
  · intro v' w' hown' hg _
    have hown2 : w'.ownsRow B 3 1 v' (n + m) (ints (xs ++ ys)) := by rw [ints_append]; exact hown'
    have hv : ∃ A' c', v' = .slice A' (n + m) c' := by
      rcases hown2.2 with ⟨_, hn0⟩ | ⟨g, cap, cur, hv, _⟩
      · omega
      · exact ⟨_, _, hv⟩
    obtain ⟨A', c', rfl⟩ := hv
    refine h A' c' w' hown2 ((Below.refl B w).grown hg hB fun k hk => ?_) hg
    rcases Own.form (xs := xs) hown with ⟨rfl, _⟩ | ⟨g, rfl, hbg, _⟩
    · simp [Value.ownBlock] at hk
    · simp [Value.ownBlock] at hk; omega

/-- make([]int, n). -/
theorem wpList_mk (hgd : o.guard = none) (l c : Operand) (hop : o.op = Op.makeSlice 22 l c) (B n : Nat) (hl : a.eval l = .int .i64 n) (hc : a.eval c = .int .i64 n)
    (hn : n ≤ 1000000) (hB : B ≤ w.heap.size)
    (h : ∀ w', Own w' B (some ⟨w.heap.size, 0, none⟩) n n (List.replicate n 0) → Below w.heap.size w w' → w.heap.size < w'.heap.size → wpList Try.prog ops Q rest (a.put o.dst (.slice (some ⟨w.heap.size, 0, none⟩) n n)) w') :
    wpList Try.prog ops Q (o :: rest) a w := by
  obtain ⟨i0, hi, hz0, hz1, hz2⟩ := info_parts info_int
  refine wpList_make_full (P := Try.prog) w hgd l c 22 hop B 3 i0 (.int .i64 0) 1 Try.underlying22 hi hz0 hz1 .i64 .i64 n n n hl hc rfl rfl (by rw [hz2]; omega) (by unfold maxLen; omega) hB fun w' hown hg => ?_
  have e : (madeCells (Value.int .i64 0).cells (n * 1)).toList = ints (List.replicate n 0) := by
    rw [Nat.mul_one]
    show (madeCells #[Value.int .i64 0] n).toList = _
    rw [toList_madeCells_one]
    simp [ints]
  rw [e] at hown
  have ho : Own w' B (some ⟨w.heap.size, 0, none⟩) n n (List.replicate n 0) := hown
  refine h w' ho ((Below.refl _ w).grown hg (Nat.le_refl _) fun k hk => by cases hk) ?_
  rcases ho.form with ⟨hh, _⟩ | ⟨g, hA, _, hlt, _⟩
  · cases hh
  · injection hA with hA; injection hA with hA; omega
end

end Go.Proofs.Ytlndjjdggedljaa

/- WalkA -/
namespace Go.Proofs.Ytlndjjdggedljaa
open Go.RowKit

/-- m is the least of the first k numbers. -/
def LeastTo (xs : List Int) (k : Nat) (m : Int) : Prop := (∀ j, j < k → m ≤ xs.getD j 0) ∧ ∃ j, j < k ∧ xs.getD j 0 = m
def MostTo (xs : List Int) (k : Nat) (m : Int) : Prop := (∀ j, j < k → xs.getD j 0 ≤ m) ∧ ∃ j, j < k ∧ xs.getD j 0 = m
theorem leastTo_one (xs : List Int) : LeastTo xs 1 (xs.getD 0 0) :=
  ⟨fun j hj => by obtain rfl : j = 0 := by omega
                  exact Int.le_refl _, 0, by omega, rfl⟩
theorem mostTo_one (xs : List Int) : MostTo xs 1 (xs.getD 0 0) :=
  ⟨fun j hj => by obtain rfl : j = 0 := by omega
                  exact Int.le_refl _, 0, by omega, rfl⟩
theorem leastTo_succ {xs : List Int} {k : Nat} {m x : Int} (h : LeastTo xs k m) (hx : xs.getD k 0 = x) : LeastTo xs (k + 1) (if x < m then x else m) := by
  obtain ⟨h1, j, hj, h2⟩ := h
  refine ⟨fun i hi => ?_, ?_⟩
  · by_cases e : i = k
    · subst e; rw [hx]; split <;> omega
    · have := h1 i (by omega); split <;> omega
  · by_cases e : m ≤ x
    · exact ⟨j, by omega, by rw [if_neg (by omega)]; exact h2⟩
    · exact ⟨k, by omega, by rw [if_pos (by omega)]; exact hx⟩
theorem mostTo_succ {xs : List Int} {k : Nat} {m x : Int} (h : MostTo xs k m) (hx : xs.getD k 0 = x) : MostTo xs (k + 1) (if m < x then x else m) := by
  obtain ⟨h1, j, hj, h2⟩ := h
  refine ⟨fun i hi => ?_, ?_⟩
  · by_cases e : i = k
    · subst e; rw [hx]; split <;> omega
    · have := h1 i (by omega); split <;> omega
  · by_cases e : x ≤ m
    · exact ⟨j, by omega, by rw [if_neg (by omega)]; exact h2⟩
    · exact ⟨k, by omega, by rw [if_pos (by omega)]; exact hx⟩

theorem leastTo_ex (xs : List Int) : ∀ k n, n = k + 1 → LeastTo xs n ((List.range k).foldl (fun m j => if xs.getD (j + 1) 0 < m then xs.getD (j + 1) 0 else m) (xs.getD 0 0)) := by
  intro k
  induction k with
  | zero => intro n hn; subst hn; exact leastTo_one xs
  | succ k ih =>
    intro n hn
    subst hn
    rw [List.range_succ, List.foldl_append]
    exact leastTo_succ (ih _ rfl) rfl
theorem mostTo_ex (xs : List Int) : ∀ k n, n = k + 1 → MostTo xs n ((List.range k).foldl (fun m j => if m < xs.getD (j + 1) 0 then xs.getD (j + 1) 0 else m) (xs.getD 0 0)) := by
  intro k
  induction k with
  | zero => intro n hn; subst hn; exact mostTo_one xs
  | succ k ih =>
    intro n hn
    subst hn
    rw [List.range_succ, List.foldl_append]
    exact mostTo_succ (ih _ rfl) rfl
theorem leastTo_one_value {xs : List Int} {n : Nat} {a b : Int} (h1 : LeastTo xs n a) (h2 : LeastTo xs n b) : a = b := by
  obtain ⟨a1, i, hi, a2⟩ := h1
  obtain ⟨b1, j, hj, b2⟩ := h2
  have := a1 j hj
  have := b1 i hi
  omega
theorem mostTo_one_value {xs : List Int} {n : Nat} {a b : Int} (h1 : MostTo xs n a) (h2 : MostTo xs n b) : a = b := by
  obtain ⟨a1, i, hi, a2⟩ := h1
  obtain ⟨b1, j, hj, b2⟩ := h2
  have := a1 j hj
  have := b1 i hi
  omega

set_option maxHeartbeats 1000000 in
theorem Min_any (A : Option Addr) (n c : Nat) (xs : List Int) (w : World) (h : Row w A n c xs) (hn1 : 1 ≤ n) (hn2 : n ≤ 1000) :
    Calls Try.prog 80 #[.slice A n c] w fun e w' => ∃ m, e = .returned (.int .i64 m) ∧ LeastTo xs n m ∧ w = w' := by
  obtain ⟨b, off, h1, hcap, hmax, h2, h3, h4⟩ := h
  have H4 := hide h4
  obtain rfl := h2 (by omega)
  have hc0 := h4 0 (by omega)
  rw [Nat.add_zero] at hc0
  have H0 := hide (leastTo_one xs)
  clear h1 h2 h3 h4
  generalize hx0 : xs.getD 0 0 = x0 at *
  clear hx0
  go_enter Try.func80, Try.ntmps80
  go_wp2

  go_loop [3, 4] (fun s i => ∃ (k : Nat) (m : Int), 1 ≤ k ∧ k ≤ n ∧ i = .int .i64 k ∧ s = .int .i64 m ∧ LeastTo xs k m) (fun _ i => n - (intOf i).toNat)
  case atStart => exact ⟨1, x0, by omega, by omega, rfl, rfl, H0.out⟩
  case round =>
    obtain ⟨k, m, hk1, hk, rfl, rfl, hm⟩ := hrel
    have HM := hide hm
    clear hm
    by_cases hlt : k < n
    · have hcell := H4.out k hlt
      have HX := hide (fun x (hx : xs.getD k 0 = x) => leastTo_succ HM.out hx)
      generalize hx : xs.getD k 0 = x at hcell HX
      clear hx
      go_wp2
      go_round
      case rel => exact ⟨k + 1, _, by omega, by omega, by go_num, rfl, HX.out x rfl⟩
      case measure => simp [intOf]; omega
    · go_wp2
      go_ret
      obtain rfl : k = n := by omega
      exact ⟨m, rfl, HM.out, rfl⟩

set_option maxHeartbeats 1000000 in
theorem Max_any (A : Option Addr) (n c : Nat) (xs : List Int) (w : World) (h : Row w A n c xs) (hn1 : 1 ≤ n) (hn2 : n ≤ 1000) :
    Calls Try.prog 81 #[.slice A n c] w fun e w' => ∃ m, e = .returned (.int .i64 m) ∧ MostTo xs n m ∧ w = w' := by
  obtain ⟨b, off, h1, hcap, hmax, h2, h3, h4⟩ := h
  have H4 := hide h4
  obtain rfl := h2 (by omega)
  have hc0 := h4 0 (by omega)
  rw [Nat.add_zero] at hc0
  have H0 := hide (mostTo_one xs)
  clear h1 h2 h3 h4
  generalize hx0 : xs.getD 0 0 = x0 at *
  clear hx0
  go_enter Try.func81, Try.ntmps81
  go_wp2

  go_loop [3, 4] (fun s i => ∃ (k : Nat) (m : Int), 1 ≤ k ∧ k ≤ n ∧ i = .int .i64 k ∧ s = .int .i64 m ∧ MostTo xs k m) (fun _ i => n - (intOf i).toNat)
  case atStart => exact ⟨1, x0, by omega, by omega, rfl, rfl, H0.out⟩
  case round =>
    obtain ⟨k, m, hk1, hk, rfl, rfl, hm⟩ := hrel
    have HM := hide hm
    clear hm
    by_cases hlt : k < n
    · have hcell := H4.out k hlt
      have HX := hide (fun x (hx : xs.getD k 0 = x) => mostTo_succ HM.out hx)
      generalize hx : xs.getD k 0 = x at hcell HX
      clear hx
      go_wp2
      go_round
      case rel => exact ⟨k + 1, _, by omega, by omega, by go_num, rfl, HX.out x rfl⟩
      case measure => simp [intOf]; omega
    · go_wp2
      go_ret
      obtain rfl : k = n := by omega
      exact ⟨m, rfl, HM.out, rfl⟩

/-- A list with a number from 0 to hi for each of n hours. -/
def AllOk (xs : List Int) (n : Int) (hi : Int) : Prop := (xs.length : Int) = n ∧ ∀ j, j < xs.length → 0 ≤ xs.getD j 0 ∧ xs.getD j 0 ≤ hi
instance (xs : List Int) (n hi : Int) : Decidable (AllOk xs n hi) := inferInstanceAs (Decidable (_ ∧ _))
def allB (xs : List Int) (n hi : Int) : Bool := decide (AllOk xs n hi)
theorem allB_true {xs : List Int} {n hi : Int} (h : AllOk xs n hi) : allB xs n hi = true := decide_eq_true h
theorem allB_false {xs : List Int} {n hi : Int} (h : ¬ AllOk xs n hi) : allB xs n hi = false := decide_eq_false h
theorem allB_iff {xs : List Int} {n hi : Int} : allB xs n hi = true ↔ AllOk xs n hi := by unfold allB; simp
theorem allB_minmax {xs : List Int} {n : Nat} {hi lo up : Int} (hl : xs.length = n) (h1 : LeastTo xs n lo) (h2 : MostTo xs n up) : allB xs n hi = (decide (0 ≤ lo) && decide (up ≤ hi)) := by
  obtain ⟨a1, j, hj, a2⟩ := h1
  obtain ⟨b1, i, hi', b2⟩ := h2
  rw [Bool.eq_iff_iff, allB_iff]
  simp only [AllOk, Bool.and_eq_true, decide_eq_true_eq]
  constructor
  · rintro ⟨_, h⟩
    exact ⟨by have := (h j (by omega)).1; omega, by have := (h i (by omega)).2; omega⟩
  · rintro ⟨h1, h2⟩
    exact ⟨by omega, fun k hk => ⟨by have := a1 k (by omega); omega, by have := b1 k (by omega); omega⟩⟩

set_option maxHeartbeats 1000000 in
theorem isForEach_any (m : Int) (A : Option Addr) (n c : Nat) (xs : List Int) (hi : Int) (w : World) (h : Row w A n c xs) (hm1 : 1 ≤ m) (hm2 : m ≤ 1000) :
    Calls Try.prog 60 #[.int .i64 m, .slice A n c, .int .i64 hi] w fun e w' => e = .returned (.bool (allB xs m hi)) ∧ w = w' := by
  have HR := hide h
  have hl := h.length
  have HL := hide hl
  clear h hl
  by_cases hmn : (n : Int) = m
  · subst hmn
    obtain ⟨lo, hlo⟩ : ∃ lo, LeastTo xs n lo := ⟨_, leastTo_ex xs (n - 1) n (by omega)⟩
    obtain ⟨up, hup⟩ : ∃ lo, MostTo xs n lo := ⟨_, mostTo_ex xs (n - 1) n (by omega)⟩
    have HLO := hide hlo
    have HUP := hide hup
    have HV := hide (allB_minmax (hi := hi) HL.out hlo hup)
    clear hlo hup
    by_cases h1 : 0 ≤ lo
    · by_cases h2 : up ≤ hi
      all_goals
        go_enter Try.func60, Try.ntmps60
        go_wp2_with (first | (go_at_call 80; refine (Min_any _ _ _ xs _ HR.out (by omega) (by omega)).mono ?_; rintro e w' ⟨m', rfl, hm', rfl⟩; obtain rfl := leastTo_one_value HLO.out hm'; clear hm') | (go_at_call 81; refine (Max_any _ _ _ xs _ HR.out (by omega) (by omega)).mono ?_; rintro e w' ⟨m', rfl, hm', rfl⟩; obtain rfl := mostTo_one_value HUP.out hm'; clear hm'))
        go_ret
        exact ⟨ret_bool (by rw [HV.out]; simp [h1, h2]), rfl⟩
    · go_enter Try.func60, Try.ntmps60
      go_wp2_with (first | (go_at_call 80; refine (Min_any _ _ _ xs _ HR.out (by omega) (by omega)).mono ?_; rintro e w' ⟨m', rfl, hm', rfl⟩; obtain rfl := leastTo_one_value HLO.out hm'; clear hm'))
      go_ret
      exact ⟨ret_bool (by rw [HV.out]; simp; omega), rfl⟩
  · have hv : allB xs m hi = false := allB_false (fun h => hmn (by rw [← HL.out]; exact h.1))
    have HV := hide hv
    clear hv
    go_enter Try.func60, Try.ntmps60
    go_wp2_with fail
    go_ret
    exact ⟨ret_bool HV.out.symm, rfl⟩

end Go.Proofs.Ytlndjjdggedljaa

/- WalkB -/
namespace Go.Proofs.Ytlndjjdggedljaa
open Go.RowKit

/-- The task is as the document asks. -/
structure OkT (K h : Int) (cs ds : List Int) : Prop where
  K0 : 0 ≤ K
  K1 : K ≤ 999
  h0 : 0 ≤ h
  h1 : h ≤ 20
  n1 : 1 ≤ ds.length
  n2 : ds.length ≤ 12
  c : AllOk cs ds.length 20
  d : AllOk ds ds.length 50
theorem okT_iff (K h : Int) (cs ds : List Int) : OkT K h cs ds ↔ (0 ≤ K ∧ K ≤ 999) ∧ (0 ≤ h ∧ h ≤ 20) ∧ (1 ≤ ds.length ∧ ds.length ≤ 12) ∧ AllOk cs ds.length 20 ∧ AllOk ds ds.length 50 :=
  ⟨fun ⟨a, b, c, d, e, f, g, i⟩ => ⟨⟨a, b⟩, ⟨c, d⟩, ⟨e, f⟩, g, i⟩, fun ⟨⟨a, b⟩, ⟨c, d⟩, ⟨e, f⟩, g, i⟩ => ⟨a, b, c, d, e, f, g, i⟩⟩
instance (K h : Int) (cs ds : List Int) : Decidable (OkT K h cs ds) := decidable_of_iff _ (okT_iff K h cs ds).symm
def errT (K h : Int) (cs ds : List Int) : Int := if OkT K h cs ds then 0 else 1
theorem errT_ok {K h : Int} {cs ds : List Int} (o : OkT K h cs ds) : errT K h cs ds = 0 := by unfold errT; rw [if_pos o]
theorem errT_no {K h : Int} {cs ds : List Int} (o : ¬ OkT K h cs ds) : errT K h cs ds = 1 := by unfold errT; rw [if_neg o]
theorem errT_zero {K h : Int} {cs ds : List Int} (o : errT K h cs ds = 0) : OkT K h cs ds := by
  unfold errT at o
  split at o
  · assumption
  · contradiction
theorem errT_ne {K h : Int} {cs ds : List Int} (o : ¬ errT K h cs ds = 0) : errT K h cs ds = 1 := by
  unfold errT at o ⊢
  split <;> simp_all
theorem OkT.tk {K h : Int} {cs ds : List Int} (o : OkT K h cs ds) : (tk K h cs ds).Ok ds.length :=
  ⟨o.K0, o.K1, o.h0, o.h1, fun i hi => (o.c.2 i (by have := o.c.1; omega)).1, fun i hi => (o.c.2 i (by have := o.c.1; omega)).2, fun i hi => (o.d.2 i hi).1, fun i hi => (o.d.2 i hi).2⟩

set_option maxHeartbeats 1000000 in
theorem Validate_any (K h : Int) (A : Option Addr) (n c : Nat) (cs : List Int) (A' : Option Addr) (n' c' : Nat) (ds : List Int) (w : World) (hT : Tin w A n c cs A' n' c' ds) :
    Calls Try.prog 22 #[.agg #[.int .i64 K, .int .i64 h, .slice A n c, .slice A' n' c']] w fun e w' => e = .returned (.int .i64 (errT K h cs ds)) ∧ Below w.heap.size w w' := by
  have HT := hide hT
  have HL := hide hT.1.length
  have HL' := hide hT.2.length
  have HB := hide ((Below.refl w.heap.size w).alloc (Nat.le_refl _) (.cells #[.int .i64 K, .int .i64 h, .slice A n c, .slice A' n' c'] 24))
  obtain ⟨b', o', r'⟩ := hT.2
  have hm' := r'.max
  have hc' := r'.cap
  clear hT r'
  by_cases h1 : K < 0
  · have HV := hide (errT_no (K := K) (h := h) (cs := cs) (ds := ds) fun o => by have := o.K0; omega)
    go_enter Try.func22, Try.ntmps22
    go_wp2_with fail
    go_ret
    exact ⟨ret_i64 HV.out.symm, HB.out⟩
  by_cases h2 : 999 < K
  · have HV := hide (errT_no (K := K) (h := h) (cs := cs) (ds := ds) fun o => by have := o.K1; omega)
    go_enter Try.func22, Try.ntmps22
    go_wp2_with fail
    go_ret
    exact ⟨ret_i64 HV.out.symm, HB.out⟩
  by_cases h3 : h < 0
  · have HV := hide (errT_no (K := K) (h := h) (cs := cs) (ds := ds) fun o => by have := o.h0; omega)
    go_enter Try.func22, Try.ntmps22
    go_wp2_with fail
    go_ret
    exact ⟨ret_i64 HV.out.symm, HB.out⟩
  by_cases h4 : 20 < h
  · have HV := hide (errT_no (K := K) (h := h) (cs := cs) (ds := ds) fun o => by have := o.h1; omega)
    go_enter Try.func22, Try.ntmps22
    go_wp2_with fail
    go_ret
    exact ⟨ret_i64 HV.out.symm, HB.out⟩
  by_cases h5 : n' < 1
  · have HV := hide (errT_no (K := K) (h := h) (cs := cs) (ds := ds) fun o => by have := o.n1; have := HL'.out; omega)
    go_enter Try.func22, Try.ntmps22
    go_wp2_with fail
    go_ret
    exact ⟨ret_i64 HV.out.symm, HB.out⟩
  by_cases h6 : 12 < n'
  · have HV := hide (errT_no (K := K) (h := h) (cs := cs) (ds := ds) fun o => by have := o.n2; have := HL'.out; omega)
    go_enter Try.func22, Try.ntmps22
    go_wp2_with fail
    go_ret
    exact ⟨ret_i64 HV.out.symm, HB.out⟩
  by_cases h7 : allB cs n' 20 = true
  · by_cases h8 : allB ds n' 50 = true
    · have HV := hide (errT_ok (K := K) (h := h) (cs := cs) (ds := ds) ⟨by omega, by omega, by omega, by omega, by have := HL'.out; omega, by have := HL'.out; omega, by rw [HL'.out]; exact allB_iff.1 h7, by rw [HL'.out]; exact allB_iff.1 h8⟩)
      go_enter Try.func22, Try.ntmps22
      go_wp2_with fail
      refine (isForEach_any _ _ _ _ cs _ _ (HT.out.1.alloc _) (by omega) (by omega)).mono ?_
      rintro e w1 ⟨rfl, rfl⟩
      rw [h7]
      go_wp2_with fail
      refine (isForEach_any _ _ _ _ ds _ _ (HT.out.2.alloc _) (by omega) (by omega)).mono ?_
      rintro e w1 ⟨rfl, rfl⟩
      rw [h8]
      go_wp2_with fail
      go_ret
      exact ⟨ret_i64 HV.out.symm, HB.out⟩
    · have h8' : allB ds n' 50 = false := by simpa using h8
      have HV := hide (errT_no (K := K) (h := h) (cs := cs) (ds := ds) fun o => h8 (allB_iff.2 (by have := o.d; rw [HL'.out] at this; exact this)))
      clear h8
      go_enter Try.func22, Try.ntmps22
      go_wp2_with fail
      refine (isForEach_any _ _ _ _ cs _ _ (HT.out.1.alloc _) (by omega) (by omega)).mono ?_
      rintro e w1 ⟨rfl, rfl⟩
      rw [h7]
      go_wp2_with fail
      refine (isForEach_any _ _ _ _ ds _ _ (HT.out.2.alloc _) (by omega) (by omega)).mono ?_
      rintro e w1 ⟨rfl, rfl⟩
      rw [h8']
      go_wp2_with fail
      go_ret
      exact ⟨ret_i64 HV.out.symm, HB.out⟩
  · have h7' : allB cs n' 20 = false := by simpa using h7
    have HV := hide (errT_no (K := K) (h := h) (cs := cs) (ds := ds) fun o => h7 (allB_iff.2 (by have := o.c; rw [HL'.out] at this; exact this)))
    clear h7
    go_enter Try.func22, Try.ntmps22
    go_wp2_with fail
    refine (isForEach_any _ _ _ _ cs _ _ (HT.out.1.alloc _) (by omega) (by omega)).mono ?_
    rintro e w1 ⟨rfl, rfl⟩
    rw [h7']
    go_wp2_with fail
    go_ret
    exact ⟨ret_i64 HV.out.symm, HB.out⟩

end Go.Proofs.Ytlndjjdggedljaa

/- WalkC -/
namespace Go.Proofs.Ytlndjjdggedljaa
open Go.RowKit

def withinB (n lo hi : Int) : Bool := decide (lo ≤ n) && decide (n ≤ hi)
theorem withinB_true {n lo hi : Int} (h1 : lo ≤ n) (h2 : n ≤ hi) : withinB n lo hi = true := by simp [withinB, h1, h2]
theorem withinB_false {n lo hi : Int} (h : n < lo ∨ hi < n) : withinB n lo hi = false := by
  simp [withinB]; omega
theorem withinB_no {n lo hi : Int} (h : ¬ (lo ≤ n ∧ n ≤ hi)) : withinB n lo hi = false := withinB_false (by omega)

set_option maxHeartbeats 400000 in
theorem within_any (n lo hi : Int) (w : World) :
    Calls Try.prog 61 #[.int .i64 n, .int .i64 lo, .int .i64 hi] w fun e w' => e = .returned (.bool (withinB n lo hi)) ∧ w = w' := by
  by_cases h1 : lo ≤ n
  · by_cases h2 : n ≤ hi
    · go_enter Try.func61, Try.ntmps61
      go_wp2
      go_ret
      exact ⟨ret_bool (withinB_true h1 h2).symm, rfl⟩
    · have h2' : hi < n := by omega
      go_enter Try.func61, Try.ntmps61
      go_wp2
      go_ret
      exact ⟨ret_bool (withinB_false (.inr h2')).symm, rfl⟩
  · have h1' : n < lo := by omega
    go_enter Try.func61, Try.ntmps61
    go_wp2
    go_ret
    exact ⟨ret_bool (withinB_false (.inl h1')).symm, rfl⟩

/-- The first k numbers are from 0 to hi. -/
def AllTo (xs : List Int) (hi : Int) (k : Nat) : Prop := ∀ j, j < k → 0 ≤ xs.getD j 0 ∧ xs.getD j 0 ≤ hi
theorem allTo_zero (xs : List Int) (hi : Int) : AllTo xs hi 0 := fun _ h => absurd h (Nat.not_lt_zero _)
theorem allTo_succ {xs : List Int} {hi : Int} {k : Nat} (h : AllTo xs hi k) (e : 0 ≤ xs.getD k 0 ∧ xs.getD k 0 ≤ hi) : AllTo xs hi (k + 1) := fun j hj => by
  by_cases hjk : j = k
  · subst hjk; exact e
  · exact h j (by omega)

set_option maxHeartbeats 1000000 in
theorem rall_any (A : Option Addr) (n c : Nat) (xs : List Int) (m hi : Int) (w : World) (h : Row w A n c xs) :
    Calls Try.prog 62 #[.slice A n c, .int .i64 m, .int .i64 hi] w fun e w' => e = .returned (.bool (allB xs m hi)) ∧ w = w' := by
  obtain ⟨b, off, h1, hcap, hmax, h2, h3, h4⟩ := h
  have H4 := hide h4
  have H2 := hide h2
  have HL := hide h1
  clear h1 h2 h3 h4
  by_cases hmn : (n : Int) = m
  · subst hmn
    go_enter Try.func62, Try.ntmps62
    go_wp2
    go_loop [7] (fun i => ∃ k : Nat, k ≤ n ∧ i = .int .i64 k ∧ AllTo xs hi k) (fun i => n - (intOf i).toNat)
    case atStart => exact ⟨0, by omega, rfl, allTo_zero _ _⟩
    case round =>
      obtain ⟨k, hk, rfl, hm⟩ := hrel
      have HM := hide hm
      clear hm
      by_cases hlt : k < n
      · have hcell := H4.out k hlt
        obtain rfl := H2.out (by omega)
        have HY := hide (fun h => allTo_succ HM.out (k := k) h)
        have HN := hide (fun (h : ¬ (0 ≤ xs.getD k 0 ∧ xs.getD k 0 ≤ hi)) => allB_false (xs := xs) (n := n) (hi := hi) fun o => h (o.2 k (by rw [HL.out]; exact hlt)))
        generalize hx : xs.getD k 0 = x at hcell HY HN
        clear hx
        by_cases hc : 0 ≤ x ∧ x ≤ hi
        · have hw := withinB_true hc.1 hc.2
          go_wp2_with fail
          refine (within_any _ _ _ _).mono ?_
          rintro e w1 ⟨rfl, rfl⟩
          rw [hw]
          go_wp2
          go_round
          case rel => exact ⟨k + 1, by omega, by go_num, HY.out hc⟩
          case measure => simp [intOf]; omega
        · have hw := withinB_no hc
          go_wp2_with fail
          refine (within_any _ _ _ _).mono ?_
          rintro e w1 ⟨rfl, rfl⟩
          rw [hw]
          go_wp2
          go_ret
          exact ⟨ret_bool (HN.out hc).symm, rfl⟩
      · go_wp2
        go_ret
        exact ⟨ret_bool (allB_true ⟨by rw [HL.out], fun j hj => HM.out j (by rw [HL.out] at hj; omega)⟩).symm, rfl⟩
  · have hv : allB xs m hi = false := allB_false (fun h => hmn (by rw [← HL.out]; exact h.1))
    have HV := hide hv
    clear hv
    go_enter Try.func62, Try.ntmps62
    go_wp2
    go_ret
    exact ⟨ret_bool HV.out.symm, rfl⟩

set_option maxHeartbeats 2000000 in
theorem rValidate_any (K h : Int) (A : Option Addr) (n c : Nat) (cs : List Int) (A' : Option Addr) (n' c' : Nat) (ds : List Int) (w : World) (hT : Tin w A n c cs A' n' c' ds) :
    Calls Try.prog 23 #[.agg #[.int .i64 K, .int .i64 h, .slice A n c, .slice A' n' c']] w fun e w' => e = .returned (.int .i64 (errT K h cs ds)) ∧ Below w.heap.size w w' := by
  have HT := hide hT
  have HL := hide hT.1.length
  have HL' := hide hT.2.length
  have HB := hide ((Below.refl w.heap.size w).alloc (Nat.le_refl _) (.cells #[.int .i64 K, .int .i64 h, .slice A n c, .slice A' n' c'] 24))
  obtain ⟨b', o', r'⟩ := hT.2
  have hm' := r'.max
  have hc' := r'.cap
  clear hT r'
  by_cases h1 : 0 ≤ K ∧ K ≤ 999
  case neg =>
    have HV := hide (errT_no (K := K) (h := h) (cs := cs) (ds := ds) (fun o => h1 ⟨o.K0, o.K1⟩))
    have g1 := withinB_no h1
    clear h1
    go_enter Try.func23, Try.ntmps23
    go_wp2_with fail
    refine (within_any _ _ _ _).mono ?_
    rintro e w1 ⟨rfl, rfl⟩
    rw [g1]
    go_wp2_with fail
    go_ret
    exact ⟨ret_i64 HV.out.symm, HB.out⟩
  have g1 := withinB_true h1.1 h1.2
  by_cases h2 : 0 ≤ h ∧ h ≤ 20
  case neg =>
    have HV := hide (errT_no (K := K) (h := h) (cs := cs) (ds := ds) (fun o => h2 ⟨o.h0, o.h1⟩))
    have g2 := withinB_no h2
    clear h2
    go_enter Try.func23, Try.ntmps23
    go_wp2_with fail
    refine (within_any _ _ _ _).mono ?_
    rintro e w1 ⟨rfl, rfl⟩
    rw [g1]
    go_wp2_with fail
    refine (within_any _ _ _ _).mono ?_
    rintro e w1 ⟨rfl, rfl⟩
    rw [g2]
    go_wp2_with fail
    go_ret
    exact ⟨ret_i64 HV.out.symm, HB.out⟩
  have g2 := withinB_true h2.1 h2.2
  by_cases h3 : 1 ≤ (n' : Int) ∧ (n' : Int) ≤ 12
  case neg =>
    have HV := hide (errT_no (K := K) (h := h) (cs := cs) (ds := ds) (fun o => h3 (by have := o.n1; have := o.n2; have := HL'.out; omega)))
    have g3 := withinB_no h3
    clear h3
    go_enter Try.func23, Try.ntmps23
    go_wp2_with fail
    refine (within_any _ _ _ _).mono ?_
    rintro e w1 ⟨rfl, rfl⟩
    rw [g1]
    go_wp2_with fail
    refine (within_any _ _ _ _).mono ?_
    rintro e w1 ⟨rfl, rfl⟩
    rw [g2]
    go_wp2_with fail
    refine (within_any _ _ _ _).mono ?_
    rintro e w1 ⟨rfl, rfl⟩
    rw [g3]
    go_wp2_with fail
    go_ret
    exact ⟨ret_i64 HV.out.symm, HB.out⟩
  have g3 := withinB_true h3.1 h3.2
  by_cases h7 : allB cs n' 20 = true
  case neg =>
    have h7' : allB cs n' 20 = false := by simpa using h7
    have HV := hide (errT_no (K := K) (h := h) (cs := cs) (ds := ds) fun o => h7 (allB_iff.2 (by have := o.c; rw [HL'.out] at this; exact this)))
    clear h7
    go_enter Try.func23, Try.ntmps23
    go_wp2_with fail
    refine (within_any _ _ _ _).mono ?_
    rintro e w1 ⟨rfl, rfl⟩
    rw [g1]
    go_wp2_with fail
    refine (within_any _ _ _ _).mono ?_
    rintro e w1 ⟨rfl, rfl⟩
    rw [g2]
    go_wp2_with fail
    refine (within_any _ _ _ _).mono ?_
    rintro e w1 ⟨rfl, rfl⟩
    rw [g3]
    go_wp2_with fail
    refine (rall_any _ _ _ cs _ _ _ (HT.out.1.alloc _)).mono ?_
    rintro e w1 ⟨rfl, rfl⟩
    rw [h7']
    go_wp2_with fail
    go_ret
    exact ⟨ret_i64 HV.out.symm, HB.out⟩
  by_cases h8 : allB ds n' 50 = true
  case neg =>
    have h8' : allB ds n' 50 = false := by simpa using h8
    have HV := hide (errT_no (K := K) (h := h) (cs := cs) (ds := ds) fun o => h8 (allB_iff.2 (by have := o.d; rw [HL'.out] at this; exact this)))
    clear h8
    go_enter Try.func23, Try.ntmps23
    go_wp2_with fail
    refine (within_any _ _ _ _).mono ?_
    rintro e w1 ⟨rfl, rfl⟩
    rw [g1]
    go_wp2_with fail
    refine (within_any _ _ _ _).mono ?_
    rintro e w1 ⟨rfl, rfl⟩
    rw [g2]
    go_wp2_with fail
    refine (within_any _ _ _ _).mono ?_
    rintro e w1 ⟨rfl, rfl⟩
    rw [g3]
    go_wp2_with fail
    refine (rall_any _ _ _ cs _ _ _ (HT.out.1.alloc _)).mono ?_
    rintro e w1 ⟨rfl, rfl⟩
    rw [h7]
    go_wp2_with fail
    refine (rall_any _ _ _ ds _ _ _ (HT.out.2.alloc _)).mono ?_
    rintro e w1 ⟨rfl, rfl⟩
    rw [h8']
    go_wp2_with fail
    go_ret
    exact ⟨ret_i64 HV.out.symm, HB.out⟩
  have HV := hide (errT_ok (K := K) (h := h) (cs := cs) (ds := ds) ⟨by omega, by omega, by omega, by omega, by have := HL'.out; omega, by have := HL'.out; omega, by rw [HL'.out]; exact allB_iff.1 h7, by rw [HL'.out]; exact allB_iff.1 h8⟩)
  go_enter Try.func23, Try.ntmps23
  go_wp2_with fail
  refine (within_any _ _ _ _).mono ?_
  rintro e w1 ⟨rfl, rfl⟩
  rw [g1]
  go_wp2_with fail
  refine (within_any _ _ _ _).mono ?_
  rintro e w1 ⟨rfl, rfl⟩
  rw [g2]
  go_wp2_with fail
  refine (within_any _ _ _ _).mono ?_
  rintro e w1 ⟨rfl, rfl⟩
  rw [g3]
  go_wp2_with fail
  refine (rall_any _ _ _ cs _ _ _ (HT.out.1.alloc _)).mono ?_
  rintro e w1 ⟨rfl, rfl⟩
  rw [h7]
  go_wp2_with fail
  refine (rall_any _ _ _ ds _ _ _ (HT.out.2.alloc _)).mono ?_
  rintro e w1 ⟨rfl, rfl⟩
  rw [h8]
  go_wp2_with fail
  go_ret
  exact ⟨ret_i64 HV.out.symm, HB.out⟩

theorem large_any (A : Option Addr) (n c : Nat) (xs : List Int) (w : World) (h : Row w A n c xs) :
    Calls Try.prog 18 #[.slice A n c] w fun e w' => e = .returned (.bool (decide (100 < n))) ∧ w = w' := by
  obtain ⟨b, off, h1, hcap, hmax, h2, h3, h4⟩ := h
  clear h1 h2 h3 h4
  go_enter Try.func18, Try.ntmps18
  go_wp2
  go_ret
  exact ⟨ret_bool (by simp; omega), rfl⟩
theorem Long_any (K h : Int) (A : Option Addr) (n c : Nat) (cs : List Int) (A' : Option Addr) (n' c' : Nat) (ds : List Int) (w : World) (hT : Tin w A n c cs A' n' c' ds) :
    Calls Try.prog 17 #[.agg #[.int .i64 K, .int .i64 h, .slice A n c, .slice A' n' c']] w fun e w' => e = .returned (.bool (decide (100 < n ∨ 100 < n'))) ∧ Below w.heap.size w w' := by
  have HT := hide hT
  have HB := hide ((Below.refl w.heap.size w).alloc (Nat.le_refl _) (.cells #[.int .i64 K, .int .i64 h, .slice A n c, .slice A' n' c'] 24))
  clear hT
  by_cases hn : 100 < n
  · go_enter Try.func17, Try.ntmps17
    go_wp2_with fail
    refine (large_any _ _ _ cs _ (HT.out.1.alloc _)).mono ?_
    rintro e w1 ⟨rfl, rfl⟩
    rw [decide_eq_true hn]
    go_wp2_with fail
    go_ret
    exact ⟨ret_bool (by simp [hn]), HB.out⟩
  · go_enter Try.func17, Try.ntmps17
    go_wp2_with fail
    refine (large_any _ _ _ cs _ (HT.out.1.alloc _)).mono ?_
    rintro e w1 ⟨rfl, rfl⟩
    rw [decide_eq_false hn]
    go_wp2_with fail
    refine (large_any _ _ _ ds _ (HT.out.2.alloc _)).mono ?_
    rintro e w1 ⟨rfl, rfl⟩
    go_wp2_with fail
    go_ret
    exact ⟨ret_bool (by simp [hn]), HB.out⟩

end Go.Proofs.Ytlndjjdggedljaa
