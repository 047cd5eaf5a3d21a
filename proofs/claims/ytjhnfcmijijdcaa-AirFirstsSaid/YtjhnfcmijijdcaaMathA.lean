/- Plain mathematics of plans: sums, what a start costs, the table of the least costs. No program. -/
namespace Go.Proofs.Ytjhnfcmijijdcaa

/-- The sum of f from s on and before n. -/
def sm (f : Nat → Int) (s : Nat) : Nat → Int
  | 0 => 0
  | n + 1 => if s ≤ n then sm f s n + f n else 0
theorem sm_succ {f : Nat → Int} {s n : Nat} (h : s ≤ n) : sm f s (n + 1) = sm f s n + f n := by
  show (if _ then _ else _) = _
  rw [if_pos h]
theorem sm_ge {f : Nat → Int} {s n : Nat} (h : n ≤ s) : sm f s n = 0 := by
  cases n with
  | zero => rfl
  | succ n => show (if _ then _ else _) = _; rw [if_neg (by omega)]
theorem sm_self (f : Nat → Int) (s : Nat) : sm f s s = 0 := sm_ge (Nat.le_refl _)
theorem sm_congr {f g : Nat → Int} {s : Nat} : ∀ {n : Nat}, (∀ i, s ≤ i → i < n → f i = g i) → sm f s n = sm g s n := by
  intro n
  induction n with
  | zero => intro _; rfl
  | succ n ih =>
    intro h
    by_cases hs : s ≤ n
    · rw [sm_succ hs, sm_succ hs, ih (fun i h1 h2 => h i h1 (by omega)), h n hs (by omega)]
    · rw [sm_ge (by omega), sm_ge (by omega)]
theorem sm_mono {f g : Nat → Int} {s : Nat} : ∀ {n : Nat}, (∀ i, s ≤ i → i < n → f i ≤ g i) → sm f s n ≤ sm g s n := by
  intro n
  induction n with
  | zero => intro _; exact Int.le_refl _
  | succ n ih =>
    intro h
    by_cases hs : s ≤ n
    · rw [sm_succ hs, sm_succ hs]
      have := ih (fun i h1 h2 => h i h1 (by omega))
      have := h n hs (by omega)
      omega
    · rw [sm_ge (by omega), sm_ge (by omega)]; exact Int.le_refl _
theorem sm_zero {s : Nat} : ∀ {n : Nat}, sm (fun _ => 0) s n = 0 := by
  intro n
  induction n with
  | zero => rfl
  | succ n ih =>
    by_cases hs : s ≤ n
    · rw [sm_succ hs, ih]; rfl
    · rw [sm_ge (by omega)]
theorem sm_nonneg {f : Nat → Int} {s n : Nat} (h : ∀ i, s ≤ i → i < n → 0 ≤ f i) : 0 ≤ sm f s n := by
  have := sm_mono (f := fun _ => 0) (g := f) h
  rw [sm_zero] at this
  exact this
theorem sm_split {f : Nat → Int} {s m : Nat} (h1 : s ≤ m) : ∀ {n : Nat}, m ≤ n → sm f s n = sm f s m + sm f m n := by
  intro n
  induction n with
  | zero => intro h; obtain rfl : m = 0 := by omega
            simp [sm]
  | succ n ih =>
    intro h
    by_cases hm : m ≤ n
    · rw [sm_succ (by omega : s ≤ n), sm_succ hm, ih hm]; omega
    · obtain rfl : m = n + 1 := by omega
      rw [sm_self]; omega
theorem sm_add (f g : Nat → Int) (s n : Nat) : sm (fun i => f i + g i) s n = sm f s n + sm g s n := by
  induction n with
  | zero => rfl
  | succ n ih =>
    by_cases hs : s ≤ n
    · rw [sm_succ hs, sm_succ hs, sm_succ hs, ih]; omega
    · rw [sm_ge (by omega), sm_ge (by omega), sm_ge (by omega)]; rfl
theorem sm_sub (f g : Nat → Int) (s n : Nat) : sm (fun i => f i - g i) s n = sm f s n - sm g s n := by
  induction n with
  | zero => rfl
  | succ n ih =>
    by_cases hs : s ≤ n
    · rw [sm_succ hs, sm_succ hs, sm_succ hs, ih]; omega
    · rw [sm_ge (by omega), sm_ge (by omega), sm_ge (by omega)]; rfl
theorem sm_mul (k : Int) (f : Nat → Int) (s n : Nat) : sm (fun i => k * f i) s n = k * sm f s n := by
  induction n with
  | zero => show (0 : Int) = k * 0; rw [Int.mul_zero]
  | succ n ih =>
    by_cases hs : s ≤ n
    · rw [sm_succ hs, sm_succ hs, ih, Int.mul_add]
    · rw [sm_ge (by omega), sm_ge (by omega), Int.mul_zero]
theorem sm_bound {f : Nat → Int} {s : Nat} {b : Int} (hb : 0 ≤ b) : ∀ {n : Nat}, (∀ i, s ≤ i → i < n → f i ≤ b) → sm f s n ≤ (n : Int) * b := by
  intro n
  induction n with
  | zero => intro _; simp [sm]
  | succ n ih =>
    intro h
    have e : ((n + 1 : Nat) : Int) * b = (n : Int) * b + b := by rw [Int.natCast_add, Int.add_mul]; simp
    by_cases hs : s ≤ n
    · rw [sm_succ hs, e]
      have := ih (fun i h1 h2 => h i h1 (by omega))
      have := h n hs (by omega)
      omega
    · rw [sm_ge (by omega), e]
      have : 0 ≤ (n : Int) * b := Int.mul_nonneg (by omega) hb
      omega
theorem sm_pos {f : Nat → Int} {s n i : Nat} (h : ∀ j, s ≤ j → j < n → 0 ≤ f j) (h1 : s ≤ i) (h2 : i < n) : f i ≤ sm f s n := by
  rw [sm_split (by omega : s ≤ i) (by omega : i ≤ n), sm_split (by omega : i ≤ i + 1) (by omega : i + 1 ≤ n), sm_succ (Nat.le_refl _), sm_self]
  have a1 := sm_nonneg (f := f) (s := s) (n := i) fun j h3 h4 => h j h3 (by omega)
  have a2 := sm_nonneg (f := f) (s := i + 1) (n := n) fun j h3 h4 => h j (by omega) h4
  omega
theorem sm_le {f : Nat → Int} {s m n : Nat} (h : ∀ j, s ≤ j → j < n → 0 ≤ f j) (hm : m ≤ n) : sm f s m ≤ sm f s n := by
  by_cases hs : s ≤ m
  · rw [sm_split hs hm]
    have := sm_nonneg (f := f) (s := m) (n := n) fun j h3 h4 => h j (by omega) h4
    omega
  · rw [sm_ge (by omega)]
    exact sm_nonneg h

/-- A task: the cost of a start, that of keeping, and for each hour the cost of pumping and the need. -/
structure Tk where
  K : Int
  h : Int
  c : Nat → Int
  d : Nat → Int
def tk (K h : Int) (cs ds : List Int) : Tk := ⟨K, h, fun i => cs.getD i 0, fun i => ds.getD i 0⟩
structure Tk.Ok (t : Tk) (n : Nat) : Prop where
  K0 : 0 ≤ t.K
  K1 : t.K ≤ 999
  h0 : 0 ≤ t.h
  h1 : t.h ≤ 20
  c0 : ∀ i, i < n → 0 ≤ t.c i
  c1 : ∀ i, i < n → t.c i ≤ 20
  d0 : ∀ i, i < n → 0 ≤ t.d i
  d1 : ∀ i, i < n → t.d i ≤ 50

def Tk.way (t : Tk) (s u : Nat) : Int := t.c s + t.h * ((u : Int) - (s : Int))
def Tk.units (t : Tk) (s n : Nat) : Int := sm t.d s n
def Tk.save (t : Tk) (s n : Nat) : Int := sm (fun u => t.d u * t.way s u) s n
def Tk.tog (t : Tk) (s n : Nat) : Int := if t.units s n = 0 then 0 else t.K + t.save s n

section
variable {t : Tk} {n : Nat}
theorem Tk.Ok.less (ok : t.Ok n) {m : Nat} (h : m ≤ n) : t.Ok m :=
  ⟨ok.K0, ok.K1, ok.h0, ok.h1, fun i hi => ok.c0 i (by omega), fun i hi => ok.c1 i (by omega), fun i hi => ok.d0 i (by omega), fun i hi => ok.d1 i (by omega)⟩
theorem Tk.Ok.way0 (ok : t.Ok n) {s u : Nat} (h1 : s ≤ u) (h2 : u < n) : 0 ≤ t.way s u := by
  have a := ok.c0 s (by omega)
  have b : 0 ≤ t.h * ((u : Int) - (s : Int)) := Int.mul_nonneg ok.h0 (by omega)
  unfold Tk.way
  omega
theorem Tk.Ok.way1 (ok : t.Ok n) {s u : Nat} (h1 : s ≤ u) (h2 : u < n) (hn : n ≤ 12) : t.way s u ≤ 240 := by
  have a := ok.c1 s (by omega)
  have b : t.h * ((u : Int) - (s : Int)) ≤ 20 * 11 := Int.mul_le_mul ok.h1 (by omega) (by omega) (by omega)
  unfold Tk.way
  omega
theorem Tk.Ok.dw0 (ok : t.Ok n) {s u : Nat} (h1 : s ≤ u) (h2 : u < n) : 0 ≤ t.d u * t.way s u :=
  Int.mul_nonneg (ok.d0 u h2) (ok.way0 h1 h2)
theorem Tk.Ok.dw1 (ok : t.Ok n) {s u : Nat} (h1 : s ≤ u) (h2 : u < n) (hn : n ≤ 12) : t.d u * t.way s u ≤ 12000 := by
  have : t.d u * t.way s u ≤ 50 * 240 := Int.mul_le_mul (ok.d1 u h2) (ok.way1 h1 h2 hn) (ok.way0 h1 h2) (by omega)
  omega
theorem Tk.Ok.units0 (ok : t.Ok n) (s : Nat) {m : Nat} (hm : m ≤ n) : 0 ≤ t.units s m := sm_nonneg fun i _ h => ok.d0 i (by omega)
theorem Tk.Ok.units1 (ok : t.Ok n) (s : Nat) {m : Nat} (hm : m ≤ n) (hn : n ≤ 12) : t.units s m ≤ 600 := by
  have := sm_bound (f := t.d) (s := s) (b := 50) (by omega) (n := m) fun i _ h => ok.d1 i (by omega)
  unfold Tk.units
  omega
theorem Tk.Ok.save0 (ok : t.Ok n) (s : Nat) {m : Nat} (hm : m ≤ n) : 0 ≤ t.save s m := sm_nonneg fun i h1 h => ok.dw0 h1 (by omega)
theorem Tk.Ok.save1 (ok : t.Ok n) (s : Nat) {m : Nat} (hm : m ≤ n) (hn : n ≤ 12) : t.save s m ≤ 144000 := by
  have := sm_bound (f := fun u => t.d u * t.way s u) (s := s) (b := 12000) (by omega) (n := m) fun i h1 h => ok.dw1 h1 (by omega) hn
  unfold Tk.save
  omega
theorem Tk.Ok.tog0 (ok : t.Ok n) (s : Nat) {m : Nat} (hm : m ≤ n) : 0 ≤ t.tog s m := by
  have := ok.save0 s hm
  have := ok.K0
  unfold Tk.tog
  split <;> omega
theorem Tk.Ok.tog1 (ok : t.Ok n) (s : Nat) {m : Nat} (hm : m ≤ n) (hn : n ≤ 12) : t.tog s m ≤ 144999 := by
  have := ok.save1 s hm hn
  have := ok.K1
  unfold Tk.tog
  split <;> omega
/-- Nothing needed: nothing spent. -/
theorem Tk.Ok.units_zero (ok : t.Ok n) {s m : Nat} (hm : m ≤ n) (h : t.units s m = 0) : ∀ i, s ≤ i → i < m → t.d i = 0 := by
  intro i h1 h2
  have a := sm_pos (f := t.d) (s := s) (n := m) (fun j _ hj => ok.d0 j (by omega)) h1 h2
  have b := ok.d0 i (by omega)
  unfold Tk.units at h
  omega
theorem Tk.Ok.save_zero (ok : t.Ok n) {s m : Nat} (hm : m ≤ n) (h : t.units s m = 0) : t.save s m = 0 := by
  have := ok.units_zero hm h
  unfold Tk.save
  rw [sm_congr (g := fun _ => 0) (fun i h1 h2 => by rw [this i h1 h2, Int.zero_mul]), sm_zero]
theorem Tk.Ok.save_le_tog (ok : t.Ok n) {s m : Nat} (hm : m ≤ n) : t.save s m ≤ t.tog s m := by
  unfold Tk.tog
  split
  · rename_i h; rw [ok.save_zero hm h]; exact Int.le_refl _
  · have := ok.K0; omega
theorem Tk.tog_le (t : Tk) (h0 : 0 ≤ t.K) {s m : Nat} (hs : 0 ≤ t.save s m) : t.tog s m ≤ t.K + t.save s m := by
  unfold Tk.tog
  split <;> omega
theorem Tk.tog_pos {s m : Nat} (h : t.units s m ≠ 0) : t.tog s m = t.K + t.save s m := by unfold Tk.tog; rw [if_neg h]
theorem Tk.units_succ {s u : Nat} (h : s ≤ u) : t.units s (u + 1) = t.units s u + t.d u := sm_succ h
theorem Tk.save_succ {s u : Nat} (h : s ≤ u) : t.save s (u + 1) = t.save s u + t.d u * t.way s u := sm_succ h
end

/-- The first of the smallest of f 0 .. f (k - 1), and where it is. -/
def firstMin (f : Nat → Int) : Nat → Int × Nat
  | 0 => (0, 0)
  | k + 1 => if k = 0 ∨ f k < (firstMin f k).1 then (f k, k) else firstMin f k
theorem firstMin_yes {f : Nat → Int} {k : Nat} (h : k = 0 ∨ f k < (firstMin f k).1) : firstMin f (k + 1) = (f k, k) := by
  show (if _ then _ else _) = _
  rw [if_pos h]
theorem firstMin_no {f : Nat → Int} {k : Nat} (h1 : k ≠ 0) (h2 : ¬ f k < (firstMin f k).1) : firstMin f (k + 1) = firstMin f k := by
  show (if _ then _ else _) = _
  rw [if_neg (by omega)]
theorem firstMin_spec (f : Nat → Int) : ∀ k, 1 ≤ k → (firstMin f k).1 = f (firstMin f k).2 ∧ (firstMin f k).2 < k ∧ ∀ j, j < k → (firstMin f k).1 ≤ f j := by
  intro k
  induction k with
  | zero => intro h; omega
  | succ k ih =>
    intro _
    by_cases h : k = 0 ∨ f k < (firstMin f k).1
    · rw [firstMin_yes h]
      refine ⟨rfl, by simp, fun j hj => ?_⟩
      by_cases hjk : j = k
      · subst hjk; exact Int.le_refl _
      · have := (ih (by omega)).2.2 j (by omega)
        show f k ≤ f j
        omega
    · rw [firstMin_no (by omega) (by omega)]
      obtain ⟨h1, h2, h3⟩ := ih (by omega)
      refine ⟨h1, by omega, fun j hj => ?_⟩
      by_cases hjk : j = k
      · subst hjk; omega
      · exact h3 j (by omega)
theorem firstMin_congr {f g : Nat → Int} : ∀ {k : Nat}, (∀ j, j < k → f j = g j) → firstMin f k = firstMin g k := by
  intro k
  induction k with
  | zero => intro _; rfl
  | succ k ih =>
    intro h
    have e := ih fun j hj => h j (by omega)
    show (if _ then _ else _) = (if _ then _ else _)
    rw [e, h k (by omega)]

/-- The least cost of the first n hours, and the last hour in which such a plan starts anew. -/
def Tk.F (t : Tk) (n : Nat) : Int × Nat := firstMin (fun l => if _h : l < n then (Tk.F t l).1 + t.tog l n else 0) n
termination_by n
def Tk.G (t : Tk) (n l : Nat) : Int := (t.F l).1 + t.tog l n
theorem Tk.F_eq (t : Tk) (n : Nat) : t.F n = firstMin (t.G n) n := by
  rw [Tk.F]
  exact firstMin_congr fun j hj => by rw [dif_pos hj]; rfl
theorem Tk.F_zero (t : Tk) : t.F 0 = (0, 0) := by rw [Tk.F_eq]; rfl
def Tk.f (t : Tk) (n : Nat) : Int := (t.F n).1
def Tk.q (t : Tk) (n : Nat) : Nat := (t.F n).2
theorem Tk.f_zero (t : Tk) : t.f 0 = 0 := by unfold Tk.f; rw [Tk.F_zero]
theorem Tk.f_eq (t : Tk) {n : Nat} (h : 1 ≤ n) : t.f n = t.f (t.q n) + t.tog (t.q n) n ∧ t.q n < n ∧ ∀ l, l < n → t.f n ≤ t.f l + t.tog l n := by
  have := firstMin_spec (t.G n) n h
  rw [← Tk.F_eq] at this
  exact this
section
variable {t : Tk} {n : Nat}
theorem Tk.Ok.f0 (ok : t.Ok n) : ∀ {m : Nat}, m ≤ n → 0 ≤ t.f m := by
  intro m
  induction m using Nat.strongRecOn with
  | ind m ih =>
    intro hm
    by_cases h : m = 0
    · subst h; rw [Tk.f_zero]; omega
    · obtain ⟨h1, h2, _⟩ := t.f_eq (n := m) (by omega)
      have := ih (t.q m) h2 (by omega)
      have := ok.tog0 (t.q m) hm
      omega
theorem Tk.Ok.fstep (_ok : t.Ok n) {u : Nat} (_hu : u < n) : t.f (u + 1) ≤ t.f u + t.tog u (u + 1) := (t.f_eq (n := u + 1) (by omega)).2.2 u (by omega)
theorem Tk.Ok.f1 (ok : t.Ok n) (hn : n ≤ 12) {m : Nat} (hm : m ≤ n) : t.f m ≤ 144999 := by
  by_cases h : m = 0
  · subst h; rw [Tk.f_zero]; omega
  · have := (t.f_eq (n := m) (by omega)).2.2 0 (by omega)
    rw [Tk.f_zero] at this
    have := ok.tog1 0 hm hn
    omega
/-- The costs of a block grow with its end. -/
theorem Tk.Ok.tog_mono (ok : t.Ok n) {s u : Nat} (hs : s ≤ u) (hu : u < n) : t.tog s u + t.d u * t.way s u ≤ t.tog s (u + 1) := by
  have d0 := ok.d0 u hu
  have w0 := ok.dw0 hs hu
  have u0 := ok.units0 s (m := u) (by omega)
  by_cases h : t.units s (u + 1) = 0
  · have e := h
    rw [Tk.units_succ hs] at e
    have e1 : t.units s u = 0 := by omega
    have e2 : t.d u = 0 := by omega
    unfold Tk.tog
    rw [if_pos h, if_pos e1, e2, Int.zero_mul]
    omega
  · rw [Tk.tog_pos h, Tk.save_succ hs]
    have := ok.save0 s (m := u) (by omega)
    have := t.tog_le ok.K0 this
    omega
theorem Tk.Ok.fall (ok : t.Ok n) {u : Nat} (hu : u < n) : t.f u ≤ t.f (u + 1) := by
  obtain ⟨h1, h2, _⟩ := t.f_eq (n := u + 1) (by omega)
  by_cases hq : t.q (u + 1) = u
  · rw [hq] at h1
    have := ok.tog0 u (m := u + 1) (by omega)
    omega
  · have a := (t.f_eq (n := u) (by omega)).2.2 (t.q (u + 1)) (by omega)
    have b := ok.tog_mono (s := t.q (u + 1)) (u := u) (by omega) hu
    have c := ok.dw0 (s := t.q (u + 1)) (u := u) (by omega) hu
    omega
end

end Go.Proofs.Ytjhnfcmijijdcaa
