import Derived.Test.YtlmmkaadoicogaaMathH
/- Readings as lists of pairs of integers, their means as rational numbers; no program. -/
namespace Go.Proofs.Ytlmmkaadoicogaa

def isum (f : Nat → Int) : Nat → Int
  | 0 => 0
  | k + 1 => isum f k + f k
theorem isum_cast (f : Nat → Int) : ∀ k, ((isum f k : Int) : Rat) = psum (fun i => (f i : Rat)) k
  | 0 => rfl
  | k + 1 => by simp only [isum, psum, Rat.intCast_add, isum_cast f k]
theorem isum_congr {f g : Nat → Int} : ∀ {k}, (∀ i, i < k → f i = g i) → isum f k = isum g k
  | 0, _ => rfl
  | k + 1, h => by simp only [isum, isum_congr (k := k) fun i hi => h i (by omega), h k (by omega)]
theorem isum_le {f : Nat → Int} {a b : Int} {k : Nat} (h : ∀ i, i < k → a ≤ f i ∧ f i ≤ b) : a * k ≤ isum f k ∧ isum f k ≤ b * k := by
  induction k with
  | zero => simp [isum]
  | succ k ih =>
    have := ih fun i hi => h i (by omega)
    have := h k (by omega)
    simp only [isum]
    have e1 : a * ((k + 1 : Nat) : Int) = a * k + a := by rw [Int.natCast_add, Int.mul_add]; simp
    have e2 : b * ((k + 1 : Nat) : Int) = b * k + b := by rw [Int.natCast_add, Int.mul_add]; simp
    omega
theorem isum_range {f : Nat → Int} {a b : Int} {s k : Nat} (hs : s ≤ k) (h : ∀ i, s ≤ i → i < k → a ≤ f i ∧ f i ≤ b) : a * ((k - s : Nat) : Int) ≤ isum f k - isum f s ∧ isum f k - isum f s ≤ b * ((k - s : Nat) : Int) := by
  induction k with
  | zero => obtain rfl : s = 0 := by omega
            simp
  | succ k ih =>
    by_cases e : s = k + 1
    · subst e; simp
    · have := ih (by omega) fun i hi hi' => h i hi (by omega)
      have := h k (by omega) (by omega)
      simp only [isum]
      have e1 : a * ((k + 1 - s : Nat) : Int) = a * ((k - s : Nat) : Int) + a := by rw [show k + 1 - s = (k - s) + 1 by omega, Int.natCast_add, Int.mul_add]; simp
      have e2 : b * ((k + 1 - s : Nat) : Int) = b * ((k - s : Nat) : Int) + b := by rw [show k + 1 - s = (k - s) + 1 by omega, Int.natCast_add, Int.mul_add]; simp
      omega

/-- A fraction with a denominator above 0. -/
def rt (n d : Int) : Rat := (n : Rat) / (d : Rat)
theorem cast_pos {d : Int} (h : 0 < d) : (0 : Rat) < (d : Rat) := by
  have := Rat.intCast_lt_intCast.2 h
  simpa using this
theorem rt_num {n d : Int} (h : 0 < d) : (rt n d).num = n / (Int.gcd n d : Int) := by
  unfold rt
  rw [← Rat.divInt_eq_div, Rat.num_divInt, Int.sign_eq_one_of_pos h, Int.one_mul, Int.gcd_comm]
theorem rt_den {n d : Int} (h : 0 < d) : ((rt n d).den : Int) = d / (Int.gcd n d : Int) := by
  unfold rt
  rw [← Rat.divInt_eq_div, Rat.den_divInt, if_neg (by omega), Int.gcd_comm]
  have : ((d.natAbs : Nat) : Int) = d := by omega
  rw [Int.natCast_ediv, this]
theorem rt_self (q : Rat) : rt q.num q.den = q := by
  unfold rt
  have := Rat.mkRat_self q
  rw [Rat.mkRat_eq_div] at this
  exact this
theorem rt_lt {a b c d : Int} (hb : 0 < b) (hd : 0 < d) : rt a b < rt c d ↔ a * d < c * b := by
  have h1 := cast_pos hb
  have h2 := cast_pos hd
  unfold rt
  rw [Rat.div_lt_iff h1]
  have e : (c : Rat) / (d : Rat) * (b : Rat) = ((c : Rat) * b) / d := by rw [Rat.div_def, Rat.div_def]; grind
  rw [e]
  have h3 : ((a : Rat) < (c : Rat) * b / d) ↔ ((a : Rat) * d < (c : Rat) * b) := by
    have h4 := le_div' (a := (c : Rat) * b) (b := (d : Rat)) (c := (a : Rat)) h2
    have h5 := div_le' (a := (c : Rat) * b) (b := (d : Rat)) (c := (a : Rat)) h2
    grind
  rw [h3, ← Rat.intCast_mul, ← Rat.intCast_mul, Rat.intCast_lt_intCast]
theorem rt_le {a b c d : Int} (hb : 0 < b) (hd : 0 < d) : rt a b ≤ rt c d ↔ a * d ≤ c * b := by
  have := rt_lt (a := c) (b := d) (c := a) (d := b) hd hb
  have h1 : rt a b ≤ rt c d ↔ ¬ rt c d < rt a b := by grind
  rw [h1, this]
  omega
theorem rt_inj {a b c d : Int} (hb : 0 < b) (hd : 0 < d) : rt a b = rt c d ↔ a * d = c * b := by
  have h1 := rt_le (a := a) (c := c) hb hd
  have h2 := rt_le (a := c) (c := a) hd hb
  constructor
  · intro h; rw [h] at h1 h2
    have := h1.1 Rat.le_refl
    have := h2.1 (by rw [← h]; exact Rat.le_refl)
    omega
  · intro h
    have a1 := h1.2 (by omega)
    have a2 := h2.2 (by omega)
    grind
theorem rat_lt {x y : Rat} : x < y ↔ x.num * y.den < y.num * x.den := Rat.lt_iff x y
theorem den_pos (q : Rat) : (0 : Int) < q.den := by have := q.den_pos; omega

/-- Readings: value and weight. -/
abbrev Rd := List (Int × Int)
def vI (h : Rd) (i : Nat) : Int := (h.getD i (0, 0)).1
def wI (h : Rd) (i : Nat) : Int := (h.getD i (0, 0)).2
def vq (h : Rd) (i : Nat) : Rat := (vI h i : Rat)
def wq (h : Rd) (i : Nat) : Rat := (wI h i : Rat)
def okR (r : Int × Int) : Bool := decide (0 ≤ r.1) && decide (r.1 ≤ 100) && decide (1 ≤ r.2) && decide (r.2 ≤ 9)
def okH (h : Rd) : Bool := h.all okR
def errH (h : Rd) : Int := if h.length < 1 ∨ 12 < h.length then 3 else if okH h then 0 else 1
def OkTo (h : Rd) (k : Nat) : Prop := ∀ j, j < k → okR (h.getD j (0, 0)) = true
theorem okTo_zero (h : Rd) : OkTo h 0 := fun _ hj => absurd hj (Nat.not_lt_zero _)
theorem okTo_succ {h : Rd} {k : Nat} (a : OkTo h k) (b : okR (h.getD k (0, 0)) = true) : OkTo h (k + 1) := fun j hj => by
  by_cases e : j = k
  · subst e; exact b
  · exact a j (by omega)
theorem okH_of {h : Rd} (a : OkTo h h.length) : okH h = true := by
  refine List.all_eq_true.2 fun x hx => ?_
  obtain ⟨k, hk, rfl⟩ := List.getElem_of_mem hx
  have := a k hk
  simpa [List.getD_eq_getElem?_getD, hk] using this
theorem okH_get {h : Rd} (a : okH h = true) {i : Nat} (hi : i < h.length) : 0 ≤ vI h i ∧ vI h i ≤ 100 ∧ 1 ≤ wI h i ∧ wI h i ≤ 9 := by
  have := List.all_eq_true.1 a h[i] (List.getElem_mem hi)
  simp [okR] at this
  simp [vI, wI, List.getD_eq_getElem?_getD, hi]
  omega
theorem okH_no {h : Rd} {i : Nat} (hi : i < h.length) (b : okR (h.getD i (0, 0)) = false) : okH h = false := by
  cases e : okH h with
  | false => rfl
  | true =>
    have := List.all_eq_true.1 e h[i] (List.getElem_mem hi)
    simp [List.getD_eq_getElem?_getD, hi] at b
    rw [this] at b; cases b
theorem errH_zero {h : Rd} (e : errH h = 0) : 1 ≤ h.length ∧ h.length ≤ 12 ∧ okH h = true := by
  unfold errH at e
  split at e
  · omega
  · split at e
    · rename_i h1 h2; exact ⟨by omega, by omega, h2⟩
    · omega
theorem errH_large {h : Rd} (e : h.length < 1 ∨ 12 < h.length) : errH h = 3 := by unfold errH; rw [if_pos e]
theorem errH_ok {h : Rd} (h1 : 1 ≤ h.length) (h2 : h.length ≤ 12) (e : okH h = true) : errH h = 0 := by unfold errH; rw [if_neg (by omega), if_pos e]
theorem errH_arg {h : Rd} (h1 : 1 ≤ h.length) (h2 : h.length ≤ 12) (e : okH h = false) : errH h = 1 := by unfold errH; rw [if_neg (by omega), e]; rfl
theorem errH_fit {h : Rd} (h1 : 1 ≤ h.length) (h2 : h.length ≤ 12) : errH h = if okH h then 0 else 1 := by unfold errH; rw [if_neg (by omega)]

/-- The sum of weight times value, of the first hours; and the weights' sum. -/
def nS (h : Rd) (k : Nat) : Int := isum (fun i => wI h i * vI h i) k
def dS (h : Rd) (k : Nat) : Int := isum (wI h) k
theorem nS_bd {h : Rd} (o : okH h = true) {a b : Nat} (hab : a ≤ b) (hb : b ≤ h.length) : 0 ≤ nS h b - nS h a ∧ nS h b - nS h a ≤ 900 * ((b - a : Nat) : Int) := by
  have := isum_range (f := fun i => wI h i * vI h i) (a := 0) (b := 900) hab (fun i h1 h2 => by
    obtain ⟨e1, e2, e3, e4⟩ := okH_get o (show i < h.length by omega)
    have m1 : wI h i * vI h i ≤ 9 * 100 := Int.mul_le_mul e4 e2 e1 (by omega)
    exact ⟨Int.mul_nonneg (by omega) e1, by omega⟩)
  unfold nS
  omega
theorem dS_bd {h : Rd} (o : okH h = true) {a b : Nat} (hab : a ≤ b) (hb : b ≤ h.length) : ((b - a : Nat) : Int) ≤ dS h b - dS h a ∧ dS h b - dS h a ≤ 9 * ((b - a : Nat) : Int) := by
  have := isum_range (f := wI h) (a := 1) (b := 9) hab (fun i h1 h2 => by
    obtain ⟨e1, e2, e3, e4⟩ := okH_get o (show i < h.length by omega)
    omega)
  unfold dS
  omega
theorem nS_psum (h : Rd) (k : Nat) : psum (fun i => wq h i * vq h i) k = (nS h k : Rat) := by
  unfold nS
  rw [isum_cast]
  exact psum_congr0 fun i _ => by rw [Rat.intCast_mul]; rfl
theorem dS_psum (h : Rd) (k : Nat) : psum (wq h) k = (dS h k : Rat) := by
  unfold dS
  rw [isum_cast]
  rfl
theorem mn_rt (h : Rd) (a b : Nat) : mn (vq h) (wq h) a b = rt (nS h (b + 1) - nS h a) (dS h (b + 1) - dS h a) := by
  unfold mn rt
  rw [nS_psum, nS_psum, dS_psum, dS_psum, Rat.intCast_sub, Rat.intCast_sub]
theorem wq_pos {h : Rd} (o : okH h = true) : ∀ i, i < h.length → 0 < wq h i := fun i hi => cast_pos (by have := okH_get o hi; omega)

/-- The best row. -/
def bestR (h : Rd) : List Rat := (List.range h.length).map fun i => mm (vq h) (wq h) h.length i
theorem bestR_len (h : Rd) : (bestR h).length = h.length := by simp [bestR]
theorem bestR_get (h : Rd) {i : Nat} (hi : i < h.length) : (bestR h).getD i 0 = mm (vq h) (wq h) h.length i := by
  simp [bestR, List.getD_eq_getElem?_getD, hi]
theorem bestR_getElem? (h : Rd) {i : Nat} (hi : i < h.length) : (bestR h)[i]? = some (mm (vq h) (wq h) h.length i) := by
  simp [bestR, hi]
/-- A row that proves itself is the best row. -/
theorem bestR_of {h : Rd} (o : okH h = true) {l : List Rat} (hl : l.length = h.length) (k : KKT h.length (vq h) (wq h) (fun i => l.getD i 0)) : l = bestR h := by
  refine List.ext_getElem (by rw [hl, bestR_len]) fun i h1 h2 => ?_
  have := k.mm (wq_pos o) (show i < h.length by omega)
  have e := bestR_get h (show i < h.length by omega)
  rw [← e] at this
  simpa [List.getD_eq_getElem?_getD, h1, h2] using this

end Go.Proofs.Ytlmmkaadoicogaa
