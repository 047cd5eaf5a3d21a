/- Plain mathematics of plans: no right plan costs less than prices that hold are worth. No program. -/
import Derived.Test.YtjhnfcmijijdcaaMathC
namespace Go.Proofs.Ytjhnfcmijijdcaa

theorem sm_swap (f : Nat → Nat → Int) (n : Nat) : ∀ m : Nat, sm (fun u => sm (fun s => f s u) 0 n) 0 m = sm (fun s => sm (fun u => f s u) 0 m) 0 n := by
  intro m
  induction m with
  | zero => exact sm_zero.symm
  | succ m ih =>
    rw [sm_succ (Nat.zero_le _), ih, ← sm_add]
    exact sm_congr fun i _ _ => (sm_succ (Nat.zero_le _)).symm
theorem sm_from (g : Nat → Int) (s : Nat) : ∀ n : Nat, sm (fun u => if s ≤ u then g u else 0) 0 n = sm g s n := by
  intro n
  induction n with
  | zero => rfl
  | succ n ih =>
    rw [sm_succ (Nat.zero_le _), ih]
    by_cases h : s ≤ n
    · rw [sm_succ h, if_pos h]
    · rw [sm_ge (by omega), sm_ge (by omega), if_neg h]; rfl
theorem sm_tele (f : Nat → Int) : ∀ n : Nat, sm (fun u => f (u + 1) - f u) 0 n = f n - f 0 := by
  intro n
  induction n with
  | zero => simp [sm]
  | succ n ih => rw [sm_succ (Nat.zero_le _), ih]; omega

/-- z, held between a and b. -/
def clp (a b z : Int) : Int := if z < a then a else if b < z then b else z
theorem clp_sym {a b c d : Int} (h1 : a ≤ b) (h2 : c ≤ d) : clp a b d - clp a b c = clp c d b - clp c d a := by
  unfold clp
  repeat' split
  all_goals omega
theorem clp_low {a b z : Int} (h : z ≤ a) (h2 : a ≤ b) : clp a b z = a := by
  unfold clp
  repeat' split
  all_goals omega
theorem clp_high {a b z : Int} (h : b ≤ z) (h2 : a ≤ b) : clp a b z = b := by
  unfold clp
  repeat' split
  all_goals omega
theorem clp_in {a b : Int} (z : Int) (h2 : a ≤ b) : a ≤ clp a b z ∧ clp a b z ≤ b := by
  unfold clp
  repeat' split
  all_goals omega
theorem clp_mono {a b x z : Int} (h : x ≤ z) (h2 : a ≤ b) : clp a b x ≤ clp a b z := by
  unfold clp
  repeat' split
  all_goals omega

theorem Tk.stk_eq (t : Tk) (p : Nat → Int) (i : Nat) : t.stk p i = sm p 0 i - sm t.d 0 i := sm_sub p t.d 0 i
/-- How many of the units that are pumped in the hour s are for the hour u, first come, first served. -/
def Tk.fl (t : Tk) (p : Nat → Int) (s u : Nat) : Int := clp (sm p 0 s) (sm p 0 (s + 1)) (sm t.d 0 (u + 1)) - clp (sm p 0 s) (sm p 0 (s + 1)) (sm t.d 0 u)

section
variable {t : Tk} {n : Nat} {p v : Nat → Int}
theorem cum_le (p0 : ∀ i, i < n → 0 ≤ p i) {i : Nat} (h : i < n) : sm p 0 i ≤ sm p 0 (i + 1) := by
  rw [sm_succ (Nat.zero_le _)]
  have := p0 i h
  omega
theorem cum_mono (p0 : ∀ i, i < n → 0 ≤ p i) {i j : Nat} (hij : i ≤ j) (h : j ≤ n) : sm p 0 i ≤ sm p 0 j := sm_le (fun k _ hk => p0 k (by omega)) hij
theorem Tk.Right.p0 (r : t.Right p n) : ∀ i, i < n → 0 ≤ p i := fun i hi => (r.in_ i hi).1
theorem Tk.fl_sym (ok : t.Ok n) (r : t.Right p n) {s u : Nat} (hs : s < n) (hu : u < n) :
    t.fl p s u = clp (sm t.d 0 u) (sm t.d 0 (u + 1)) (sm p 0 (s + 1)) - clp (sm t.d 0 u) (sm t.d 0 (u + 1)) (sm p 0 s) :=
  clp_sym (cum_le r.p0 hs) (cum_le ok.d0 hu)
theorem Tk.fl_nonneg (ok : t.Ok n) (r : t.Right p n) {s u : Nat} (hs : s < n) (hu : u < n) : 0 ≤ t.fl p s u := by
  have := clp_mono (cum_le ok.d0 hu) (cum_le r.p0 hs)
  unfold Tk.fl
  omega
theorem Tk.fl_pump (r : t.Right p n) {s : Nat} (hs : s < n) : sm (t.fl p s) 0 n = p s := by
  have a := r.last
  rw [Tk.stk_eq] at a
  have c := cum_mono r.p0 (i := s + 1) (j := n) (by omega) (Nat.le_refl _)
  have c0 := cum_mono r.p0 (i := 0) (j := s) (by omega) (by omega)
  have e : sm (t.fl p s) 0 n = clp (sm p 0 s) (sm p 0 (s + 1)) (sm t.d 0 n) - clp (sm p 0 s) (sm p 0 (s + 1)) (sm t.d 0 0) :=
    sm_tele (fun u => clp (sm p 0 s) (sm p 0 (s + 1)) (sm t.d 0 u)) n
  have z0 : sm t.d 0 0 = 0 := rfl
  have z1 : sm p 0 0 = 0 := rfl
  rw [e, clp_high (by omega) (cum_le r.p0 hs), clp_low (by omega) (cum_le r.p0 hs), sm_succ (Nat.zero_le _)]
  omega
theorem Tk.fl_need (ok : t.Ok n) (r : t.Right p n) {u : Nat} (hu : u < n) : sm (fun s => t.fl p s u) 0 n = t.d u := by
  have a := r.last
  rw [Tk.stk_eq] at a
  have c := cum_mono ok.d0 (i := u + 1) (j := n) (by omega) (Nat.le_refl _)
  have c0 := cum_mono ok.d0 (i := 0) (j := u) (by omega) (by omega)
  have e : sm (fun s => t.fl p s u) 0 n = clp (sm t.d 0 u) (sm t.d 0 (u + 1)) (sm p 0 n) - clp (sm t.d 0 u) (sm t.d 0 (u + 1)) (sm p 0 0) := by
    rw [sm_congr fun s _ hs => Tk.fl_sym ok r hs hu]
    exact sm_tele (fun s => clp (sm t.d 0 u) (sm t.d 0 (u + 1)) (sm p 0 s)) n
  have z0 : sm t.d 0 0 = 0 := rfl
  have z1 : sm p 0 0 = 0 := rfl
  rw [e, clp_high (by omega) (cum_le ok.d0 hu), clp_low (by omega) (cum_le ok.d0 hu), sm_succ (Nat.zero_le _)]
  omega
theorem Tk.fl_late (ok : t.Ok n) (r : t.Right p n) {s u : Nat} (hs : s < n) (hu : u < s) : t.fl p s u = 0 := by
  have a := r.stk u (by omega)
  rw [Tk.stk_eq] at a
  have b := cum_mono r.p0 (i := u + 1) (j := s) (by omega) (by omega)
  have c := cum_le ok.d0 (i := u) (by omega)
  unfold Tk.fl
  rw [clp_low (by omega) (cum_le r.p0 hs), clp_low (by omega) (cum_le r.p0 hs)]
  omega
theorem Tk.fl_le (ok : t.Ok n) (r : t.Right p n) {s u : Nat} (hs : s < n) (hu : u < n) : t.fl p s u ≤ p s ∧ t.fl p s u ≤ t.d u := by
  have a := clp_in (sm t.d 0 (u + 1)) (cum_le r.p0 hs)
  have b := clp_in (sm t.d 0 u) (cum_le r.p0 hs)
  have c := clp_in (sm p 0 (s + 1)) (cum_le ok.d0 hu)
  have d := clp_in (sm p 0 s) (cum_le ok.d0 hu)
  refine ⟨?_, ?_⟩
  · have := sm_succ (f := p) (s := 0) (n := s) (Nat.zero_le _)
    unfold Tk.fl
    omega
  · have := sm_succ (f := t.d) (s := 0) (n := u) (Nat.zero_le _)
    rw [Tk.fl_sym ok r hs hu]
    omega
/-- What a start in s takes of the price of u. -/
def Tk.part (t : Tk) (p v : Nat → Int) (s u : Nat) : Int := if s ≤ u then (if 0 < p s then t.over v s u else 0) else 0
theorem Tk.part0 (t : Tk) (p v : Nat → Int) (s u : Nat) : 0 ≤ t.part p v s u := by
  unfold Tk.part
  repeat' split
  · exact t.over0 v s u
  · omega
  · omega
theorem Tk.flw0 (ok : t.Ok n) (r : t.Right p n) {s u : Nat} (hs : s < n) (hu : u < n) : 0 ≤ t.fl p s u * t.way s u := by
  by_cases h : s ≤ u
  · exact Int.mul_nonneg (Tk.fl_nonneg ok r hs hu) (ok.way0 h hu)
  · rw [Tk.fl_late ok r hs (by omega), Int.zero_mul]; omega
theorem Tk.one_price (ok : t.Ok n) (r : t.Right p n) (hv : t.Holds v n) {u : Nat} (hu : u < n) :
    v u ≤ sm (fun s => t.part p v s u + t.fl p s u * t.way s u) 0 n := by
  have d0 := ok.d0 u hu
  by_cases hd : t.d u = 0
  · rw [(hv u hu).1 hd]
    exact sm_nonneg fun s _ hs => by
      have := t.part0 p v s u
      have := Tk.flw0 ok r hs hu
      omega
  · refine Int.le_of_mul_le_mul_left (a := t.d u) ?_ (by omega)
    rw [← sm_mul]
    have e : t.d u * v u = sm (fun s => v u * t.fl p s u) 0 n := by
      rw [sm_mul, Tk.fl_need ok r hu, Int.mul_comm]
    rw [e]
    refine sm_mono fun s _ hs => ?_
    have f0 := Tk.fl_nonneg ok r hs hu
    have w0 := Tk.flw0 ok r hs hu
    have q0 := t.part0 p v s u
    by_cases hz : t.fl p s u = 0
    · rw [hz, Int.mul_zero, Int.zero_mul]
      exact Int.mul_nonneg d0 (by omega)
    · have hsu : s ≤ u := by
        by_cases h : s ≤ u
        · exact h
        · exact absurd (Tk.fl_late ok r hs (by omega)) hz
      obtain ⟨f1, f2⟩ := Tk.fl_le ok r hs hu
      have hp : 0 < p s := by omega
      have ep : t.part p v s u = t.over v s u := by unfold Tk.part; rw [if_pos hsu, if_pos hp]
      rw [ep]
      have o0 := t.over0 v s u
      have o1 := t.over_le v s u
      have m1 : v u * t.fl p s u ≤ (t.over v s u + t.d u * t.way s u) * t.fl p s u := Int.mul_le_mul_of_nonneg_right (by omega) f0
      have m2 : t.over v s u * t.fl p s u ≤ t.over v s u * t.d u := Int.mul_le_mul_of_nonneg_left f2 o0
      have m3 : (t.over v s u + t.d u * t.way s u) * t.fl p s u = t.over v s u * t.fl p s u + t.d u * (t.fl p s u * t.way s u) := by
        rw [Int.add_mul, Int.mul_assoc, Int.mul_comm (t.way s u)]
      rw [Int.mul_add, Int.mul_comm (t.d u) (t.over v s u)]
      omega
theorem Tk.parts_le (t : Tk) (hv : t.Holds v n) : sm (fun s => sm (fun u => t.part p v s u) 0 n) 0 n ≤ t.begs p n := by
  refine sm_mono fun s _ hs => ?_
  by_cases hp : 0 < p s
  · rw [if_pos hp]
    have e : sm (fun u => t.part p v s u) 0 n = t.above v s n := by
      have := sm_from (t.over v s) s n
      unfold Tk.above
      rw [← this]
      exact sm_congr fun u _ _ => by unfold Tk.part; rw [if_pos hp]
    rw [e]
    exact (hv s hs).2
  · rw [if_neg hp]
    have e : sm (fun u => t.part p v s u) 0 n = 0 := by
      rw [sm_congr (g := fun _ => 0) fun u _ _ => by unfold Tk.part; rw [if_neg hp]; split <;> rfl, sm_zero]
    omega
theorem Tk.abel (t : Tk) (p : Nat → Int) : ∀ n : Nat, sm (fun i => (i : Int) * t.d i) 0 n - sm (fun i => (i : Int) * p i) 0 n = sm (fun i => t.stk p (i + 1)) 0 n - (n : Int) * t.stk p n := by
  intro n
  induction n with
  | zero => simp [sm, Tk.stk]
  | succ n ih =>
    rw [sm_succ (Nat.zero_le _), sm_succ (Nat.zero_le _), sm_succ (Nat.zero_le _), Tk.stk_succ]
    have e1 : ((n + 1 : Nat) : Int) * (t.stk p n + (p n - t.d n)) = (n : Int) * t.stk p n + ((n : Int) * p n - (n : Int) * t.d n) + (t.stk p n + (p n - t.d n)) := by
      rw [Int.natCast_add, Int.add_mul, Int.mul_add, Int.mul_sub]
      simp
    rw [e1]
    omega
theorem Tk.ways_sum (ok : t.Ok n) (r : t.Right p n) : sm (fun s => sm (fun u => t.fl p s u * t.way s u) 0 n) 0 n = t.runs p n := by
  have e1 : ∀ s, s < n → sm (fun u => t.fl p s u * t.way s u) 0 n = (t.c s - t.h * (s : Int)) * p s + t.h * sm (fun u => (u : Int) * t.fl p s u) 0 n := by
    intro s hs
    rw [← Tk.fl_pump r hs, ← sm_mul, ← sm_mul, ← sm_add]
    refine sm_congr fun u _ _ => ?_
    unfold Tk.way
    rw [Int.mul_sub, Int.mul_comm (t.fl p s u), Int.mul_comm (u : Int), ← Int.mul_assoc]
    generalize t.fl p s u = f
    have : (t.c s + (t.h * (u : Int) - t.h * (s : Int))) = (t.c s - t.h * (s : Int)) + t.h * (u : Int) := by omega
    rw [this, Int.add_mul]
    have : t.h * (u : Int) * f = t.h * f * (u : Int) := by rw [Int.mul_assoc, Int.mul_comm (u : Int), Int.mul_assoc]
    omega
  rw [sm_congr fun s _ hs => e1 s hs, sm_add, sm_mul]
  have e2 : sm (fun s => sm (fun u => (u : Int) * t.fl p s u) 0 n) 0 n = sm (fun u => (u : Int) * t.d u) 0 n := by
    rw [← sm_swap (fun s u => (u : Int) * t.fl p s u) n n]
    exact sm_congr fun u _ hu => by rw [sm_mul, Tk.fl_need ok r hu]
  have e3 : sm (fun s => (t.c s - t.h * (s : Int)) * p s) 0 n = sm (fun s => t.c s * p s) 0 n - t.h * sm (fun s => (s : Int) * p s) 0 n := by
    rw [← sm_mul, ← sm_sub]
    exact sm_congr fun s _ _ => by rw [Int.sub_mul, Int.mul_assoc]
  have e4 : t.runs p n = sm (fun s => t.c s * p s) 0 n + t.h * sm (fun i => t.stk p (i + 1)) 0 n := by
    unfold Tk.runs
    rw [sm_add, sm_mul]
  have a := t.abel p n
  rw [r.last, Int.mul_zero] at a
  have e5 : t.h * sm (fun i => t.stk p (i + 1)) 0 n = t.h * sm (fun i => (i : Int) * t.d i) 0 n - t.h * sm (fun i => (i : Int) * p i) 0 n := by
    rw [← Int.mul_sub, a]
    congr 1
    omega
  rw [e2, e3, e4, e5]
  omega
/-- No right plan costs less than prices that hold are worth. -/
theorem Tk.Ok.weak (ok : t.Ok n) (r : t.Right p n) (hv : t.Holds v n) : sm v 0 n ≤ t.cost p n := by
  have a : sm v 0 n ≤ sm (fun u => sm (fun s => t.part p v s u + t.fl p s u * t.way s u) 0 n) 0 n := sm_mono fun u _ hu => Tk.one_price ok r hv hu
  rw [sm_swap (fun s u => t.part p v s u + t.fl p s u * t.way s u) n n] at a
  have e : sm (fun s => sm (fun u => t.part p v s u + t.fl p s u * t.way s u) 0 n) 0 n = sm (fun s => sm (fun u => t.part p v s u) 0 n) 0 n + sm (fun s => sm (fun u => t.fl p s u * t.way s u) 0 n) 0 n := by
    rw [← sm_add]
    exact sm_congr fun s _ _ => sm_add _ _ _ _
  rw [e, Tk.ways_sum ok r] at a
  have b := t.parts_le (p := p) hv
  unfold Tk.cost
  omega
/-- No right plan costs less than the least cost. -/
theorem Tk.Ok.least_le (ok : t.Ok n) (r : t.Right p n) : t.f n ≤ t.cost p n := by
  have := ok.weak r ok.holds
  rw [ok.worth] at this
  exact this
end

end Go.Proofs.Ytjhnfcmijijdcaa
