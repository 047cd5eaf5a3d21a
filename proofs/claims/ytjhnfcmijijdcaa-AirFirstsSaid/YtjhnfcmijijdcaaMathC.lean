/- Plain mathematics of plans: stocks, starts, costs. No program. -/
import Derived.Test.YtjhnfcmijijdcaaMathB
namespace Go.Proofs.Ytjhnfcmijijdcaa

/-- The stock after the hour i. -/
def Tk.stk (t : Tk) (p : Nat → Int) (i : Nat) : Int := sm (fun j => p j - t.d j) 0 i
theorem Tk.stk_zero (t : Tk) (p : Nat → Int) : t.stk p 0 = 0 := rfl
theorem Tk.stk_succ (t : Tk) (p : Nat → Int) (i : Nat) : t.stk p (i + 1) = t.stk p i + (p i - t.d i) := sm_succ (Nat.zero_le _)
/-- The stocks after the first k hours, as a list. -/
def Tk.stkL (t : Tk) (p : Nat → Int) (k : Nat) : List Int := (List.range k).map fun i => t.stk p (i + 1)
theorem Tk.stkL_len (t : Tk) (p : Nat → Int) (k : Nat) : (t.stkL p k).length = k := by simp [Tk.stkL]
theorem Tk.stkL_succ (t : Tk) (p : Nat → Int) (k : Nat) : t.stkL p (k + 1) = t.stkL p k ++ [t.stk p (k + 1)] := by simp [Tk.stkL, List.range_succ]
theorem Tk.stkL_get (t : Tk) (p : Nat → Int) {k i : Nat} (h : i < k) : (t.stkL p k).getD i 0 = t.stk p (i + 1) := by simp [Tk.stkL, List.getD_eq_getElem?_getD, h]
/-- A list of n numbers that is filled with f up to k. -/
def fillL (f : Nat → Int) (n k : Nat) : List Int := (List.range k).map f ++ List.replicate (n - k) 0
theorem fillL_zero (f : Nat → Int) (n : Nat) : fillL f n 0 = List.replicate n 0 := by simp [fillL]
theorem fillL_all (f : Nat → Int) (n : Nat) : fillL f n n = (List.range n).map f := by simp [fillL]
theorem fillL_set {f : Nat → Int} {n k : Nat} {x : Int} (h : k < n) (hx : f k = x) : (fillL f n k).set k x = fillL f n (k + 1) := by
  subst hx
  unfold fillL
  rw [List.set_append_right _ _ (by simp)]
  have e : n - k = (n - (k + 1)) + 1 := by omega
  rw [e, List.replicate_succ]
  simp [List.range_succ]
/-- The hours before k in which something is pumped. -/
def pumpL (p : Nat → Int) : Nat → List Int
  | 0 => []
  | k + 1 => if 0 < p k then pumpL p k ++ [(k : Int)] else pumpL p k
theorem pumpL_yes {p : Nat → Int} {k : Nat} (h : 0 < p k) : pumpL p (k + 1) = pumpL p k ++ [(k : Int)] := by
  show (if _ then _ else _) = _
  rw [if_pos h]
theorem pumpL_no {p : Nat → Int} {k : Nat} (h : ¬ 0 < p k) : pumpL p (k + 1) = pumpL p k := by
  show (if _ then _ else _) = _
  rw [if_neg h]
theorem pumpL_len (p : Nat → Int) (k : Nat) : (pumpL p k).length ≤ k := by
  induction k with
  | zero => exact Nat.le_refl _
  | succ k ih =>
    by_cases h : 0 < p k
    · rw [pumpL_yes h]; simp; omega
    · rw [pumpL_no h]; omega
/-- What starts cost. -/
def Tk.begs (t : Tk) (p : Nat → Int) (k : Nat) : Int := sm (fun i => if 0 < p i then t.K else 0) 0 k
/-- What pumping and keeping cost. -/
def Tk.runs (t : Tk) (p : Nat → Int) (k : Nat) : Int := sm (fun i => t.c i * p i + t.h * t.stk p (i + 1)) 0 k
def Tk.cost (t : Tk) (p : Nat → Int) (k : Nat) : Int := t.begs p k + t.runs p k
theorem Tk.runs_succ (t : Tk) (p : Nat → Int) (k : Nat) : t.runs p (k + 1) = t.runs p k + (t.c k * p k + t.h * t.stk p (k + 1)) := sm_succ (Nat.zero_le _)
theorem Tk.begs_succ (t : Tk) (p : Nat → Int) (k : Nat) : t.begs p (k + 1) = t.begs p k + (if 0 < p k then t.K else 0) := sm_succ (Nat.zero_le _)
theorem Tk.begs_yes (t : Tk) {p : Nat → Int} {k : Nat} (h : 0 < p k) : t.begs p (k + 1) = t.begs p k + t.K := by rw [Tk.begs_succ, if_pos h]
theorem Tk.begs_no (t : Tk) {p : Nat → Int} {k : Nat} (h : ¬ 0 < p k) : t.begs p (k + 1) = t.begs p k := by rw [Tk.begs_succ, if_neg h]; omega
theorem Tk.begs_len (t : Tk) (p : Nat → Int) (k : Nat) : ((pumpL p k).length : Int) * t.K = t.begs p k := by
  induction k with
  | zero => simp [pumpL, Tk.begs, sm]
  | succ k ih =>
    by_cases h : 0 < p k
    · rw [pumpL_yes h, t.begs_yes h, ← ih]
      simp [Int.add_mul]
    · rw [pumpL_no h, t.begs_no h, ih]
/-- The numbers of a plan are in range. -/
def PlanIn (p : Nat → Int) (n : Nat) : Prop := ∀ i, i < n → 0 ≤ p i ∧ p i ≤ 600
section
variable {t : Tk} {n : Nat} {p : Nat → Int}
theorem Tk.Ok.stk_in (ok : t.Ok n) (hp : PlanIn p n) (hn : n ≤ 12) : ∀ {i : Nat}, i ≤ n → -600 ≤ t.stk p i ∧ t.stk p i ≤ 7200 := by
  intro i hi
  have a := sm_bound (f := fun j => p j - t.d j) (s := 0) (b := 600) (by omega) (n := i) fun j _ hj => by have := (hp j (by omega)).2; have := ok.d0 j (by omega); omega
  have b := sm_bound (f := fun j => t.d j - p j) (s := 0) (b := 50) (by omega) (n := i) fun j _ hj => by have := (hp j (by omega)).1; have := ok.d1 j (by omega); omega
  have e : sm (fun j => t.d j - p j) 0 i = - t.stk p i := by
    unfold Tk.stk
    rw [sm_sub, sm_sub]; omega
  rw [e] at b
  unfold Tk.stk at b ⊢
  constructor <;> omega
theorem Tk.Ok.cp_in (ok : t.Ok n) (hp : PlanIn p n) {i : Nat} (hi : i < n) : 0 ≤ t.c i * p i ∧ t.c i * p i ≤ 12000 := by
  have := ok.c0 i hi
  have := ok.c1 i hi
  obtain ⟨h1, h2⟩ := hp i hi
  refine ⟨Int.mul_nonneg (by omega) h1, ?_⟩
  have : t.c i * p i ≤ 20 * 600 := Int.mul_le_mul (by omega) h2 h1 (by omega)
  omega
theorem Tk.Ok.hs_in (ok : t.Ok n) (hp : PlanIn p n) (hn : n ≤ 12) {i : Nat} (hi : i ≤ n) : -12000 ≤ t.h * t.stk p i ∧ t.h * t.stk p i ≤ 144000 := by
  have := ok.h0
  have := ok.h1
  obtain ⟨h1, h2⟩ := ok.stk_in hp hn hi
  have a : t.h * t.stk p i ≤ t.h * 7200 := Int.mul_le_mul_of_nonneg_left h2 (by omega)
  have b : t.h * (-600) ≤ t.h * t.stk p i := Int.mul_le_mul_of_nonneg_left h1 (by omega)
  omega
theorem Tk.Ok.runs_in (ok : t.Ok n) (hp : PlanIn p n) (hn : n ≤ 12) : ∀ {i : Nat}, i ≤ n → -(i : Int) * 12000 ≤ t.runs p i ∧ t.runs p i ≤ (i : Int) * 156000 := by
  intro i
  induction i with
  | zero => intro _; simp [Tk.runs, sm]
  | succ i ih =>
    intro hi
    have a := ih (by omega)
    have b := ok.cp_in hp (i := i) (by omega)
    have c := ok.hs_in hp hn hi
    rw [Tk.runs_succ]
    constructor <;> omega
theorem Tk.Ok.begs_in (ok : t.Ok n) : ∀ {i : Nat}, 0 ≤ t.begs p i ∧ t.begs p i ≤ (i : Int) * 999 := by
  intro i
  have := ok.K0
  have := ok.K1
  induction i with
  | zero => simp [Tk.begs, sm]
  | succ i ih =>
    rw [Tk.begs_succ]
    split <;> constructor <;> omega
end

/-- The plan is right. -/
structure Tk.Right (t : Tk) (p : Nat → Int) (n : Nat) : Prop where
  in_ : PlanIn p n
  stk : ∀ i, i < n → 0 ≤ t.stk p (i + 1)
  last : t.stk p n = 0

end Go.Proofs.Ytjhnfcmijijdcaa
