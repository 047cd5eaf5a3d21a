/- Plain mathematics of best falling rows over the rational numbers; no program. -/
namespace Go.Proofs.Ytlmmkaadoicogaa

def psum (f : Nat → Rat) : Nat → Rat
  | 0 => 0
  | k + 1 => psum f k + f k

theorem psum_le {f g : Nat → Rat} {a b : Nat} (hab : a ≤ b) (h : ∀ i, a ≤ i → i < b → f i ≤ g i) : psum f b - psum f a ≤ psum g b - psum g a := by
  induction b with
  | zero => obtain rfl : a = 0 := by omega
            simp [psum]
  | succ b ih =>
    by_cases e : a = b + 1
    · subst e; grind
    · have := ih (by omega) (fun i h1 h2 => h i h1 (by omega))
      have := h b (by omega) (by omega)
      simp only [psum]
      grind
theorem psum_congr {f g : Nat → Rat} {a b : Nat} (hab : a ≤ b) (h : ∀ i, a ≤ i → i < b → f i = g i) : psum f b - psum f a = psum g b - psum g a := by
  have h1 := psum_le hab (fun i h1 h2 => by rw [h i h1 h2]; exact Rat.le_refl : ∀ i, a ≤ i → i < b → f i ≤ g i)
  have h2 := psum_le hab (fun i h1 h2 => by rw [h i h1 h2]; exact Rat.le_refl : ∀ i, a ≤ i → i < b → g i ≤ f i)
  grind
theorem psum_congr0 {f g : Nat → Rat} {b : Nat} (h : ∀ i, i < b → f i = g i) : psum f b = psum g b := by
  have := psum_congr (Nat.zero_le b) (fun i _ h2 => h i h2)
  simp only [psum] at this
  grind
theorem psum_add (f g : Nat → Rat) (b : Nat) : psum (fun i => f i + g i) b = psum f b + psum g b := by
  induction b with
  | zero => simp only [psum]; grind
  | succ b ih => simp only [psum, ih]; grind
theorem psum_mul (f : Nat → Rat) (c : Rat) (b : Nat) : psum (fun i => c * f i) b = c * psum f b := by
  induction b with
  | zero => simp only [psum]; grind
  | succ b ih => simp only [psum, ih]; grind
theorem psum_sub (f g : Nat → Rat) (b : Nat) : psum (fun i => f i - g i) b = psum f b - psum g b := by
  induction b with
  | zero => simp only [psum]; grind
  | succ b ih => simp only [psum, ih]; grind
theorem psum_pos {f : Nat → Rat} {a b : Nat} (hab : a < b) (h : ∀ i, a ≤ i → i < b → 0 < f i) : 0 < psum f b - psum f a := by
  induction b with
  | zero => omega
  | succ b ih =>
    have h1 := h b (by omega) (by omega)
    by_cases e : a = b
    · subst e; simp only [psum]; grind
    · have := ih (by omega) (fun i h1 h2 => h i h1 (by omega))
      simp only [psum]; grind
theorem psum_nonneg {f : Nat → Rat} {a b : Nat} (hab : a ≤ b) (h : ∀ i, a ≤ i → i < b → 0 ≤ f i) : 0 ≤ psum f b - psum f a := by
  have h2 := psum_le (f := fun _ => 0) hab h
  have e : ∀ k, psum (fun _ => (0 : Rat)) k = 0 := by
    intro k; induction k with
    | zero => rfl
    | succ k ih => simp only [psum, ih]; grind
  rw [e, e] at h2
  grind

/-- The mean of the hours a to b. -/
def mn (v w : Nat → Rat) (a b : Nat) : Rat := (psum (fun i => w i * v i) (b + 1) - psum (fun i => w i * v i) a) / (psum w (b + 1) - psum w a)

theorem le_div' {a b c : Rat} (hb : 0 < b) : c ≤ a / b ↔ c * b ≤ a := by
  have h := Rat.div_lt_iff (a := a) (c := c) hb
  constructor
  · intro h1
    rcases (Rat.le_total : c * b ≤ a ∨ a ≤ c * b) with h2 | h2
    · exact h2
    · by_cases e : a = c * b
      · grind
      · have : a < c * b := by grind
        have := h.2 this
        grind
  · intro h1
    rcases (Rat.le_total : c ≤ a / b ∨ a / b ≤ c) with h2 | h2
    · exact h2
    · by_cases e : a / b = c
      · grind
      · have : a / b < c := by grind
        have := h.1 this
        grind
theorem div_le' {a b c : Rat} (hb : 0 < b) : a / b ≤ c ↔ a ≤ c * b := by
  have e : a / b * b = a := Rat.div_mul_cancel (by grind)
  constructor
  · intro h
    have := Rat.mul_le_mul_of_nonneg_right h (show (0 : Rat) ≤ b by grind)
    grind
  · intro h
    rcases (Rat.le_total : a / b ≤ c ∨ c ≤ a / b) with h2 | h2
    · exact h2
    · have h3 := (le_div' (a := a) (c := c) hb).1 h2
      have e1 : a = c * b := by grind
      have : c = a / b := by rw [e1]; rw [Rat.mul_div_cancel (by grind)]
      grind

structure KKT (n : Nat) (v w r : Nat → Rat) : Prop where
  fall : ∀ i, i + 1 < n → r (i + 1) ≤ r i
  low : ∀ k, k ≤ n → psum (fun i => w i * (v i - r i)) k ≤ 0
  tight : ∀ k, k + 1 < n → r (k + 1) < r k → psum (fun i => w i * (v i - r i)) (k + 1) = 0
  last : psum (fun i => w i * (v i - r i)) n = 0

theorem fall_le {n : Nat} {r : Nat → Rat} (h : ∀ i, i + 1 < n → r (i + 1) ≤ r i) {a b : Nat} (hab : a ≤ b) (hb : b < n) : r b ≤ r a := by
  induction b with
  | zero => obtain rfl : a = 0 := by omega
            exact Rat.le_refl
  | succ b ih =>
    by_cases e : a = b + 1
    · subst e; exact Rat.le_refl
    · have := ih (by omega) (by omega)
      have := h b hb
      grind

theorem KKT.left {n : Nat} {v w r : Nat → Rat} (h : KKT n v w r) {i : Nat} (hi : i < n) :
    ∃ s, s ≤ i ∧ r s = r i ∧ psum (fun i => w i * (v i - r i)) s = 0 := by
  induction i with
  | zero => exact ⟨0, Nat.le_refl _, rfl, rfl⟩
  | succ i ih =>
    by_cases e : r (i + 1) = r i
    · obtain ⟨s, h1, h2, h3⟩ := ih (by omega)
      exact ⟨s, by omega, by rw [h2, e], h3⟩
    · have := h.fall i hi
      exact ⟨i + 1, Nat.le_refl _, rfl, h.tight i hi (by grind)⟩
theorem KKT.right {n : Nat} {v w r : Nat → Rat} (h : KKT n v w r) {i : Nat} (hi : i < n) :
    ∃ t, i ≤ t ∧ t < n ∧ r t = r i ∧ psum (fun i => w i * (v i - r i)) (t + 1) = 0 := by
  obtain ⟨k, hk⟩ : ∃ k, i + k + 1 = n := ⟨n - 1 - i, by omega⟩
  induction k generalizing i with
  | zero => exact ⟨i, Nat.le_refl _, hi, rfl, by rw [show i + 1 = n by omega]; exact h.last⟩
  | succ k ih =>
    by_cases e : r (i + 1) = r i
    · obtain ⟨t, h1, h2, h3, h4⟩ := ih (i := i + 1) (by omega) (by omega)
      exact ⟨t, by omega, h2, by rw [h3, e], h4⟩
    · have := h.fall i (by omega)
      exact ⟨i, Nat.le_refl _, hi, rfl, h.tight i (by omega) (by grind)⟩

theorem psum_dev (v w r : Nat → Rat) (k : Nat) : psum (fun i => w i * (v i - r i)) k = psum (fun i => w i * v i) k - psum (fun i => w i * r i) k := by
  rw [← psum_sub]
  exact psum_congr0 fun i _ => by grind

theorem KKT.upper {n : Nat} {v w r : Nat → Rat} (h : KKT n v w r) (hw : ∀ i, i < n → 0 < w i) {i : Nat} (hi : i < n) :
    ∃ s, s ≤ i ∧ ∀ b, i ≤ b → b < n → mn v w s b ≤ r i := by
  obtain ⟨s, h1, h2, h3⟩ := h.left hi
  refine ⟨s, h1, fun b hb hbn => ?_⟩
  unfold mn
  rw [div_le' (psum_pos (by omega) fun i _ h2 => hw i (by omega))]
  have l := h.low (b + 1) (by omega)
  have m := psum_le (f := fun j => w j * r j) (g := fun j => r i * w j) (a := s) (b := b + 1) (by omega) (fun j h4 h5 => by
    have e1 := fall_le h.fall h4 (by omega)
    have e2 := hw j (by omega)
    have := Rat.mul_le_mul_of_nonneg_left (c := w j) (show r j ≤ r i by grind) (by grind)
    grind)
  simp only [psum_mul] at m
  rw [psum_dev] at l h3
  grind
theorem KKT.lower {n : Nat} {v w r : Nat → Rat} (h : KKT n v w r) (hw : ∀ i, i < n → 0 < w i) {i a : Nat} (hi : i < n) (ha : a ≤ i) :
    ∃ b, i ≤ b ∧ b < n ∧ r i ≤ mn v w a b := by
  obtain ⟨t, h1, h2, h3, h4⟩ := h.right hi
  refine ⟨t, h1, h2, ?_⟩
  unfold mn
  rw [le_div' (psum_pos (by omega) fun i _ h2 => hw i (by omega))]
  have l := h.low a (by omega)
  have m := psum_le (f := fun j => r i * w j) (g := fun j => w j * r j) (a := a) (b := t + 1) (by omega) (fun j h4 h5 => by
    have e1 := fall_le h.fall (show j ≤ t by omega) h2
    have e2 := hw j (by omega)
    have := Rat.mul_le_mul_of_nonneg_left (c := w j) (show r i ≤ r j by grind) (by grind)
    grind)
  simp only [psum_mul] at m
  rw [psum_dev] at l h4
  grind

def rmax (x y : Rat) : Rat := if x < y then y else x
def rmin (x y : Rat) : Rat := if y < x then y else x
/-- The greatest mean of the hours from a to i, i+1, .., i+k. -/
def hiTo (v w : Nat → Rat) (a i : Nat) : Nat → Rat
  | 0 => mn v w a i
  | k + 1 => rmax (hiTo v w a i k) (mn v w a (i + k + 1))
def hi (v w : Nat → Rat) (n a i : Nat) : Rat := hiTo v w a i (n - 1 - i)
def loTo (v w : Nat → Rat) (n i : Nat) : Nat → Rat
  | 0 => hi v w n 0 i
  | k + 1 => rmin (loTo v w n i k) (hi v w n (k + 1) i)
/-- The number of the best row. -/
def mm (v w : Nat → Rat) (n i : Nat) : Rat := loTo v w n i i

theorem hiTo_ge (v w : Nat → Rat) (a i : Nat) : ∀ k j, j ≤ k → mn v w a (i + j) ≤ hiTo v w a i k
  | 0, j, h => by obtain rfl : j = 0 := by omega
                  exact Rat.le_refl
  | k + 1, j, h => by
    unfold hiTo rmax
    by_cases e : j = k + 1
    · subst e; rw [← Nat.add_assoc]; grind
    · have := hiTo_ge v w a i k j (by omega)
      grind
theorem hiTo_le (v w : Nat → Rat) (a i : Nat) {c : Rat} : ∀ k, (∀ j, j ≤ k → mn v w a (i + j) ≤ c) → hiTo v w a i k ≤ c
  | 0, h => h 0 (Nat.le_refl _)
  | k + 1, h => by
    have h1 := hiTo_le v w a i k (c := c) fun j hj => h j (by omega)
    have h2 := h (k + 1) (Nat.le_refl _)
    rw [← Nat.add_assoc] at h2
    unfold hiTo rmax
    grind
theorem hi_ge (v w : Nat → Rat) {n a i b : Nat} (h1 : i ≤ b) (h2 : b < n) : mn v w a b ≤ hi v w n a i := by
  have := hiTo_ge v w a i (n - 1 - i) (b - i) (by omega)
  rwa [show i + (b - i) = b by omega] at this
theorem hi_le (v w : Nat → Rat) {n a i : Nat} {c : Rat} (hi' : i < n) (h : ∀ b, i ≤ b → b < n → mn v w a b ≤ c) : hi v w n a i ≤ c :=
  hiTo_le v w a i _ fun j hj => h (i + j) (by omega) (by omega)
theorem loTo_le (v w : Nat → Rat) (n i : Nat) : ∀ k a, a ≤ k → loTo v w n i k ≤ hi v w n a i
  | 0, a, h => by obtain rfl : a = 0 := by omega
                  exact Rat.le_refl
  | k + 1, a, h => by
    unfold loTo rmin
    by_cases e : a = k + 1
    · subst e; grind
    · have := loTo_le v w n i k a (by omega)
      grind
theorem loTo_ge (v w : Nat → Rat) (n i : Nat) {c : Rat} : ∀ k, (∀ a, a ≤ k → c ≤ hi v w n a i) → c ≤ loTo v w n i k
  | 0, h => h 0 (Nat.le_refl _)
  | k + 1, h => by
    have h1 := loTo_ge v w n i k (c := c) fun a ha => h a (by omega)
    have h2 := h (k + 1) (Nat.le_refl _)
    unfold loTo rmin
    grind

theorem KKT.mm {n : Nat} {v w r : Nat → Rat} (h : KKT n v w r) (hw : ∀ i, i < n → 0 < w i) {i : Nat} (hin : i < n) : r i = mm v w n i := by
  obtain ⟨s, hs, hb⟩ := h.upper hw hin
  have h1 : Ytlmmkaadoicogaa.mm v w n i ≤ r i := by
    have e1 := loTo_le v w n i i s hs
    have e2 := hi_le v w (a := s) hin hb
    unfold Ytlmmkaadoicogaa.mm
    grind
  have h2 : r i ≤ Ytlmmkaadoicogaa.mm v w n i := by
    refine loTo_ge v w n i i fun a ha => ?_
    obtain ⟨b, h3, h4, h5⟩ := h.lower hw hin ha
    have := hi_ge v w (a := a) h3 h4
    grind
  grind

theorem mn_mono {v v' w : Nat → Rat} {a b : Nat} (hab : a ≤ b) (hw : ∀ i, a ≤ i → i ≤ b → 0 < w i) (hv : ∀ i, a ≤ i → i ≤ b → v i ≤ v' i) : mn v w a b ≤ mn v' w a b := by
  unfold mn
  have hp := psum_pos (f := w) (show a < b + 1 by omega) fun i h1 h2 => hw i h1 (by omega)
  rw [div_le' hp]
  rw [Rat.div_mul_cancel (by grind)]
  refine psum_le (by omega) fun i h1 h2 => Rat.mul_le_mul_of_nonneg_left (hv i h1 (by omega)) ?_
  have := hw i h1 (by omega)
  grind
theorem hi_mono {v v' w : Nat → Rat} {n a i : Nat} (hin : i < n) (ha : a ≤ i) (hw : ∀ i, i < n → 0 < w i) (hv : ∀ i, i < n → v i ≤ v' i) : hi v w n a i ≤ hi v' w n a i := by
  refine hi_le v w hin fun b h1 h2 => ?_
  have e1 := mn_mono (v := v) (v' := v') (w := w) (a := a) (b := b) (by omega) (fun i _ h => hw i (by omega)) (fun i _ h => hv i (by omega))
  have e2 := hi_ge v' w (a := a) h1 h2
  grind
theorem mm_mono {v v' w : Nat → Rat} {n i : Nat} (hin : i < n) (hw : ∀ i, i < n → 0 < w i) (hv : ∀ i, i < n → v i ≤ v' i) : mm v w n i ≤ mm v' w n i := by
  refine loTo_ge v' w n i i fun a ha => ?_
  have e1 := loTo_le v w n i i a ha
  have e2 := hi_mono (a := a) hin ha hw hv
  unfold mm
  grind
/-- With fewer hours behind it a number is nowhere greater. -/
theorem mm_begin {v w : Nat → Rat} {m n i : Nat} (hin : i < m) (hmn : m ≤ n) : mm v w m i ≤ mm v w n i := by
  refine loTo_ge v w n i i fun a ha => ?_
  have e1 := loTo_le v w m i i a ha
  have e2 : hi v w m a i ≤ hi v w n a i := hi_le v w hin fun b h1 h2 => hi_ge v w h1 (by omega)
  unfold mm
  grind
theorem mm_le_hi {v w : Nat → Rat} {n i : Nat} : mm v w n i ≤ hi v w n 0 i := loTo_le v w n i i 0 (Nat.zero_le _)
theorem mm_zero {v w : Nat → Rat} {n : Nat} : mm v w n 0 = hi v w n 0 0 := rfl
theorem KKT.congr {n : Nat} {v w r v' w' r' : Nat → Rat} (h : KKT n v w r) (hv : ∀ i, i < n → v i = v' i) (hw : ∀ i, i < n → w i = w' i) (hr : ∀ i, i < n → r i = r' i) : KKT n v' w' r' := by
  have e : ∀ k, k ≤ n → psum (fun i => w' i * (v' i - r' i)) k = psum (fun i => w i * (v i - r i)) k := fun k hk => psum_congr0 fun i hi => by rw [hv i (by omega), hw i (by omega), hr i (by omega)]
  refine ⟨fun i hi => ?_, fun k hk => ?_, fun k hk hlt => ?_, ?_⟩
  · rw [← hr i (by omega), ← hr (i + 1) hi]; exact h.fall i hi
  · rw [e k hk]; exact h.low k hk
  · rw [e _ (by omega)]; exact h.tight k hk (by rw [hr _ hk, hr k (by omega)]; exact hlt)
  · rw [e _ (Nat.le_refl _)]; exact h.last
/-- A row that is all raised. -/
theorem KKT.raise {n : Nat} {v w r : Nat → Rat} (h : KKT n v w r) (c : Rat) : KKT n (fun i => v i + c) w (fun i => r i + c) := by
  have e : ∀ k, psum (fun i => w i * (v i + c - (r i + c))) k = psum (fun i => w i * (v i - r i)) k := fun k => psum_congr0 fun i _ => by grind
  refine ⟨fun i hi => ?_, fun k hk => ?_, fun k hk hlt => ?_, ?_⟩
  · have := h.fall i hi; grind
  · rw [e]; exact h.low k hk
  · rw [e]; exact h.tight k hk (by grind)
  · rw [e]; exact h.last

theorem psum_rev (f : Nat → Rat) (n : Nat) : ∀ k, k ≤ n → psum (fun i => f (n - 1 - i)) k = psum f n - psum f (n - k)
  | 0, _ => by simp [psum]; grind
  | k + 1, h => by
    have := psum_rev f n k (by omega)
    simp only [psum, this]
    have e : n - k = (n - (k + 1)) + 1 := by omega
    rw [e]
    simp only [psum]
    rw [show n - 1 - k = n - (k + 1) by omega]
    grind
theorem psum_neg (f : Nat → Rat) (k : Nat) : psum (fun i => - f i) k = - psum f k := by
  induction k with
  | zero => simp [psum]
  | succ k ih => simp only [psum, ih]; grind
/-- The opposite of the turned row. -/
theorem KKT.opposite {n : Nat} {v w r : Nat → Rat} (h : KKT n v w r) (c : Rat) :
    KKT n (fun i => c - v (n - 1 - i)) (fun i => w (n - 1 - i)) (fun i => c - r (n - 1 - i)) := by
  have e : ∀ k, k ≤ n → psum (fun i => w (n - 1 - i) * (c - v (n - 1 - i) - (c - r (n - 1 - i)))) k = psum (fun i => w i * (v i - r i)) (n - k) := fun k hk => by
    have h1 := psum_rev (fun i => - (w i * (v i - r i))) n k hk
    rw [psum_neg (fun i => w i * (v i - r i)), psum_neg (fun i => w i * (v i - r i)), h.last] at h1
    rw [psum_congr0 (g := fun i => -(w (n - 1 - i) * (v (n - 1 - i) - r (n - 1 - i)))) (fun i _ => by grind), h1]
    grind
  refine ⟨fun i hi => ?_, fun k hk => ?_, fun k hk hlt => ?_, ?_⟩
  · have := h.fall (n - 1 - (i + 1)) (by omega)
    rw [show n - 1 - (i + 1) + 1 = n - 1 - i by omega] at this
    grind
  · rw [e k hk]; exact h.low _ (by omega)
  · rw [e _ (by omega)]
    have := h.tight (n - 1 - (k + 1)) (by omega) (by rw [show n - 1 - (k + 1) + 1 = n - 1 - k by omega]; grind)
    rw [show n - 1 - (k + 1) + 1 = n - (k + 1) by omega] at this
    exact this
  · rw [e _ (Nat.le_refl _), Nat.sub_self]; rfl

theorem psum_set {f g : Nat → Rat} {i : Nat} (h : ∀ j, j ≠ i → j ≠ i + 1 → f j = g j) (e : f i + f (i + 1) = g i + g (i + 1)) : ∀ k, k ≠ i + 1 → psum f k = psum g k := by
  have lo : ∀ k, k ≤ i → psum f k = psum g k := fun k hk => psum_congr0 fun j hj => h j (by omega) (by omega)
  intro k hk
  by_cases h1 : k ≤ i
  · exact lo k h1
  · obtain ⟨d, rfl⟩ : ∃ d, k = i + 2 + d := ⟨k - (i + 2), by omega⟩
    clear h1 hk
    induction d with
    | zero => simp only [psum, lo i (Nat.le_refl _)]; grind
    | succ d ih =>
      rw [show i + 2 + (d + 1) = (i + 2 + d) + 1 by omega]
      simp only [psum, ih]
      rw [h (i + 2 + d) (by omega) (by omega)]
/-- Two hours pooled. -/
theorem KKT.pool {n : Nat} {v w r : Nat → Rat} (h : KKT n v w r) (hw : ∀ i, i < n → 0 < w i) {i : Nat} (hi : i + 1 < n) (hv : v i < v (i + 1)) (m : Rat) (hm : m * (w i + w (i + 1)) = w i * v i + w (i + 1) * v (i + 1)) :
    KKT n (fun j => if j = i ∨ j = i + 1 then m else v j) w r := by
  have wi := hw i (by omega)
  have wj := hw (i + 1) hi
  have l0 := h.low i (by omega)
  have l2 := h.low (i + 2) (by omega)
  have l1 := h.low (i + 1) (by omega)
  have es : r (i + 1) = r i := by
    by_cases e : r (i + 1) = r i
    · exact e
    · exfalso
      have hlt : r (i + 1) < r i := by have := h.fall i hi; grind
      have t := h.tight i hi hlt
      simp only [psum] at l2 t
      have a1 : 0 ≤ w i * (v i - r i) := by grind
      have a2 : w (i + 1) * (v (i + 1) - r (i + 1)) ≤ 0 := by grind
      have a3 : 0 ≤ v i - r i := by
        rcases (Rat.le_total : 0 ≤ v i - r i ∨ v i - r i ≤ 0) with h1 | h1
        · exact h1
        · have := Rat.mul_le_mul_of_nonneg_left (c := w i) h1 (by grind)
          have e0 : w i * (v i - r i) = 0 := by grind
          rcases Rat.mul_eq_zero.1 e0 with h5 | h5 <;> grind
      have a4 : v (i + 1) - r (i + 1) ≤ 0 := by
        rcases (Rat.le_total : v (i + 1) - r (i + 1) ≤ 0 ∨ 0 ≤ v (i + 1) - r (i + 1)) with h1 | h1
        · exact h1
        · have := Rat.mul_le_mul_of_nonneg_left (c := w (i + 1)) h1 (by grind)
          have e0 : w (i + 1) * (v (i + 1) - r (i + 1)) = 0 := by grind
          rcases Rat.mul_eq_zero.1 e0 with h5 | h5 <;> grind
      grind
  have key := psum_set (f := fun j => w j * ((if j = i ∨ j = i + 1 then m else v j) - r j)) (g := fun j => w j * (v j - r j)) (i := i)
    (fun j h1 h2 => by rw [if_neg (by omega)]) (by simp; grind)
  refine ⟨h.fall, fun k hk => ?_, fun k hk hlt => ?_, ?_⟩
  · by_cases e : k = i + 1
    · subst e
      have k0 := key i (by omega)
      simp only [psum, k0]
      simp
      simp only [psum] at l2
      have d2 : psum (fun i => w i * (v i - r i)) i + (w i + w (i + 1)) * (m - r i) ≤ 0 := by grind
      by_cases hmr : m ≤ r i
      · have := Rat.mul_le_mul_of_nonneg_left (c := w i) (show m - r i ≤ 0 by grind) (by grind)
        grind
      · have := Rat.mul_le_mul_of_nonneg_left (c := w (i + 1)) (show 0 ≤ m - r i by grind) (by grind)
        grind
    · rw [key k e]; exact h.low k hk
  · by_cases e : k = i
    · subst e; grind
    · rw [key _ (by omega)]; exact h.tight k hk hlt
  · rw [key _ (by omega)]; exact h.last

/-- The misfit of a row. -/
def misf (n : Nat) (v w r : Nat → Rat) : Rat := psum (fun i => w i * ((v i - r i) * (v i - r i))) n

theorem abel (f g : Nat → Rat) : ∀ n, psum (fun i => f i * g i) (n + 1) = psum f (n + 1) * g n + psum (fun i => psum f (i + 1) * (g i - g (i + 1))) n
  | 0 => by simp only [psum]; grind
  | n + 1 => by
    have := abel f g n
    simp only [psum] at this ⊢
    grind
/-- No falling row is nearer than the best one. -/
theorem KKT.nearest {n : Nat} {v w r x : Nat → Rat} (h : KKT n v w r) (hw : ∀ i, i < n → 0 < w i) (hx : ∀ i, i + 1 < n → x (i + 1) ≤ x i) : misf n v w r ≤ misf n v w x := by
  cases n with
  | zero => exact Rat.le_refl
  | succ n =>
    have ab := abel (fun i => w i * (v i - r i)) (fun i => r i - x i) n
    have a1 := psum_nonneg (f := fun i => psum (fun i => w i * (v i - r i)) (i + 1) * ((r i - x i) - (r (i + 1) - x (i + 1)))) (Nat.zero_le n) (fun i _ hi => by
      have f1 := h.fall i (by omega)
      have f2 := hx i (by omega)
      have l1 := h.low (i + 1) (by omega)
      by_cases e : r (i + 1) = r i
      · have := Rat.mul_le_mul_of_nonneg_right (c := x i - x (i + 1)) l1 (by grind)
        grind
      · have := h.tight i (by omega) (by grind)
        rw [this]
        grind)
    have hl := h.last
    rw [hl] at ab
    have a2 : 0 ≤ psum (fun i => w i * (v i - r i) * (r i - x i)) (n + 1) := by
      rw [ab, show ∀ f, psum f 0 = 0 from fun _ => rfl] at *
      generalize psum (fun i => psum (fun i => w i * (v i - r i)) (i + 1) * ((r i - x i) - (r (i + 1) - x (i + 1)))) n = z at *
      grind
    have a3 : 0 ≤ psum (fun i => w i * ((r i - x i) * (r i - x i))) (n + 1) - psum (fun i => w i * ((r i - x i) * (r i - x i))) 0 := by
      refine psum_nonneg (Nat.zero_le _) fun i _ hi => ?_
      have sq : 0 ≤ (r i - x i) * (r i - x i) := by
        rcases (Rat.le_total : 0 ≤ r i - x i ∨ r i - x i ≤ 0) with h1 | h1
        · exact Rat.mul_nonneg h1 h1
        · have := Rat.mul_nonneg (show 0 ≤ -(r i - x i) by grind) (show 0 ≤ -(r i - x i) by grind)
          grind
      exact Rat.mul_nonneg (by have := hw i (by omega); grind) sq
    have e : psum (fun i => w i * ((v i - x i) * (v i - x i))) (n + 1) = psum (fun i => w i * ((v i - r i) * (v i - r i))) (n + 1) + psum (fun i => 2 * (w i * (v i - r i) * (r i - x i))) (n + 1) + psum (fun i => w i * ((r i - x i) * (r i - x i))) (n + 1) := by
      rw [← psum_add, ← psum_add]
      exact psum_congr0 fun i _ => by grind
    rw [psum_mul] at e
    unfold misf
    rw [show ∀ f, psum f 0 = 0 from fun _ => rfl] at a3
    generalize psum (fun i => w i * ((r i - x i) * (r i - x i))) (n + 1) = z1 at *
    generalize psum (fun i => w i * (v i - r i) * (r i - x i)) (n + 1) = z2 at *
    generalize psum (fun i => w i * ((v i - x i) * (v i - x i))) (n + 1) = z3 at *
    generalize psum (fun i => w i * ((v i - r i) * (v i - r i))) (n + 1) = z4 at *
    grind

end Go.Proofs.Ytlmmkaadoicogaa
