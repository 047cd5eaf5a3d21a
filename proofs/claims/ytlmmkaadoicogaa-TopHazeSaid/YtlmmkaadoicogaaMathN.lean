/- The misfit of the best row, run by run; no program. -/
import Derived.Test.YtlmmkaadoicogaaWalkP
namespace Go.Proofs.Ytlmmkaadoicogaa

/-- The misfit of the first hours. -/
def Mf (xs : Rd) (i : Nat) : Rat := psum (fun j => wq xs j * ((vq xs j - rr xs j) * (vq xs j - rr xs j))) i
/-- The sum of weight times the square of the value. -/
def qS (xs : Rd) (k : Nat) : Int := isum (fun i => wI xs i * vI xs i * vI xs i) k
theorem qS_succ (xs : Rd) (k : Nat) : qS xs (k + 1) = qS xs k + wI xs k * vI xs k * vI xs k := rfl
theorem qS_bd {xs : Rd} (o : okH xs = true) {a b : Nat} (hab : a ≤ b) (hb : b ≤ xs.length) : 0 ≤ qS xs b - qS xs a ∧ qS xs b - qS xs a ≤ 90000 * ((b - a : Nat) : Int) := by
  have := isum_range (f := fun i => wI xs i * vI xs i * vI xs i) (a := 0) (b := 90000) hab (fun i h1 h2 => by
    obtain ⟨e1, e2, e3, e4⟩ := okH_get o (show i < xs.length by omega)
    have m1 : wI xs i * vI xs i ≤ 9 * 100 := Int.mul_le_mul e4 e2 e1 (by omega)
    have m0 : 0 ≤ wI xs i * vI xs i := Int.mul_nonneg (by omega) e1
    have m2 : wI xs i * vI xs i * vI xs i ≤ 900 * 100 := Int.mul_le_mul (by omega) e2 e1 (by omega)
    exact ⟨Int.mul_nonneg m0 e1, by omega⟩)
  unfold qS
  omega
theorem qS_psum (xs : Rd) (k : Nat) : psum (fun i => wq xs i * (vq xs i * vq xs i)) k = (qS xs k : Rat) := by
  unfold qS
  rw [isum_cast]
  refine psum_congr0 fun i _ => ?_
  rw [Rat.intCast_mul, Rat.intCast_mul]
  unfold wq vq
  grind
/-- What a run adds. -/
theorem Mf_run {xs : Rd} (o : okH xs = true) {r : Rn} (g : Good xs r) (hv : ∀ j, r.a ≤ j → j ≤ r.b → rr xs j = rt r.n r.d) :
    Mf xs (r.b + 1) - Mf xs r.a = rt ((qS xs (r.b + 1) - qS xs r.a) * r.d - r.n * r.n) r.d := by
  have p := g.pos o
  have hle := g.le
  have e := psum_congr (f := fun j => wq xs j * ((vq xs j - rr xs j) * (vq xs j - rr xs j))) (g := fun j => wq xs j * (vq xs j * vq xs j) - (2 * rt r.n r.d) * (wq xs j * vq xs j) + (rt r.n r.d * rt r.n r.d) * wq xs j) (a := r.a) (b := r.b + 1) (by omega) (fun j h1 h2 => by rw [hv j h1 (by omega)]; grind)
  rw [psum_add, psum_add, psum_sub, psum_sub, psum_mul, psum_mul, psum_mul, psum_mul, qS_psum, qS_psum, nS_psum, nS_psum, dS_psum, dS_psum] at e
  have hn : ((nS xs (r.b + 1) : Int) : Rat) - ((nS xs r.a : Int) : Rat) = (r.n : Rat) := by rw [← Rat.intCast_sub, g.num]
  have hd : ((dS xs (r.b + 1) : Int) : Rat) - ((dS xs r.a : Int) : Rat) = (r.d : Rat) := by rw [← Rat.intCast_sub, g.den]
  have dp : (0 : Rat) < (r.d : Rat) := cast_pos (by omega)
  have hm : rt r.n r.d * (r.d : Rat) = (r.n : Rat) := Rat.div_mul_cancel (by grind)
  have hres : rt ((qS xs (r.b + 1) - qS xs r.a) * r.d - r.n * r.n) r.d = (((qS xs (r.b + 1) : Int) : Rat) - ((qS xs r.a : Int) : Rat)) - rt r.n r.d * (r.n : Rat) := by
    have h1 : (((qS xs (r.b + 1) - qS xs r.a) * r.d - r.n * r.n : Int) : Rat) = ((((qS xs (r.b + 1) : Int) : Rat) - ((qS xs r.a : Int) : Rat)) - rt r.n r.d * (r.n : Rat)) * (r.d : Rat) := by
      rw [Rat.intCast_sub, Rat.intCast_mul, Rat.intCast_mul, Rat.intCast_sub]
      grind
    show ((((qS xs (r.b + 1) - qS xs r.a) * r.d - r.n * r.n : Int) : Rat)) / (r.d : Rat) = _
    rw [h1, Rat.mul_div_cancel (by grind)]
  rw [hres]
  unfold Mf
  rw [e]
  grind
theorem Mf_mono {xs : Rd} (o : okH xs = true) {a b : Nat} (hab : a ≤ b) (hb : b ≤ xs.length) : 0 ≤ Mf xs b - Mf xs a :=
  psum_nonneg hab fun i _ h2 => by
    have hw := wq_pos o i (by omega)
    have sq : 0 ≤ (vq xs i - rr xs i) * (vq xs i - rr xs i) := by
      rcases (Rat.le_total : 0 ≤ vq xs i - rr xs i ∨ vq xs i - rr xs i ≤ 0) with h1 | h1
      · exact Rat.mul_nonneg h1 h1
      · have := Rat.mul_nonneg (show 0 ≤ -(vq xs i - rr xs i) by grind) (show 0 ≤ -(vq xs i - rr xs i) by grind)
        grind
    exact Rat.mul_nonneg (by grind) sq
theorem rt_one (k : Int) : rt k 1 = (k : Rat) := by
  unfold rt
  have : ((1 : Int) : Rat) = 1 := rfl
  rw [this]
  grind
theorem rt_nonneg {n d : Int} (hd : 0 < d) (h : 0 ≤ rt n d) : 0 ≤ n := by
  have e : rt 0 1 = (0 : Rat) := rt_one 0
  rw [← e, rt_le (by omega) hd] at h
  omega
/-- The numerator of what a run adds is not below 0. -/
theorem run_nonneg {xs : Rd} (o : okH xs = true) {r : Rn} (g : Good xs r) (hv : ∀ j, r.a ≤ j → j ≤ r.b → rr xs j = rt r.n r.d) : 0 ≤ (qS xs (r.b + 1) - qS xs r.a) * r.d - r.n * r.n := by
  have h1 := Mf_run o g hv
  have h2 := Mf_mono o (a := r.a) (b := r.b + 1) (by have := g.le; omega) (by have := g.lt; omega)
  rw [h1] at h2
  exact rt_nonneg (by have := g.pos o; omega) h2
theorem rt_add (a b : Rat) : rt (nu a * de b + nu b * de a) (de a * de b) = a + b := by
  have ha := rat_nd a
  have hb := rat_nd b
  have pa : (0 : Rat) < ((a.den : Int) : Rat) := cast_pos (den_pos a)
  have pb : (0 : Rat) < ((b.den : Int) : Rat) := cast_pos (den_pos b)
  have pab := Rat.mul_pos pa pb
  have e : ((a.num * (b.den : Int) + b.num * (a.den : Int) : Int) : Rat) = (a + b) * (((a.den : Int) * (b.den : Int) : Int) : Rat) := by
    rw [Rat.intCast_add, Rat.intCast_mul, Rat.intCast_mul, Rat.intCast_mul, ha, hb]
    grind
  show rt (a.num * (b.den : Int) + b.num * (a.den : Int)) ((a.den : Int) * (b.den : Int)) = _
  unfold rt
  rw [e, Rat.mul_div_cancel (by rw [Rat.intCast_mul]; grind)]
def P9 : Nat → Int
  | 0 => 1
  | k + 1 => 9 * P9 k
theorem P9_pos : ∀ k, 1 ≤ P9 k
  | 0 => by simp [P9]
  | k + 1 => by have := P9_pos k; simp only [P9]; omega
theorem P9_len : ∀ k, 9 * ((k + 1 : Nat) : Int) ≤ P9 (k + 1)
  | 0 => by simp [P9]
  | k + 1 => by have := P9_len k; have e : P9 (k + 1 + 1) = 9 * P9 (k + 1) := rfl; rw [e]; omega
theorem P9_add (a : Nat) : ∀ b, P9 (a + b) = P9 a * P9 b
  | 0 => by simp [P9]
  | b + 1 => by rw [← Nat.add_assoc]; simp only [P9, P9_add a b]; rw [Int.mul_left_comm]
theorem P9_le {a b : Nat} (h : a ≤ b) : P9 a ≤ P9 b := by
  induction b with
  | zero => obtain rfl : a = 0 := by omega
            exact Int.le_refl _
  | succ b ih =>
    by_cases e : a = b + 1
    · subst e; exact Int.le_refl _
    · have := ih (by omega); have := P9_pos b; simp only [P9]; omega
theorem P9_12 : P9 12 = 282429536481 := by decide

end Go.Proofs.Ytlmmkaadoicogaa
