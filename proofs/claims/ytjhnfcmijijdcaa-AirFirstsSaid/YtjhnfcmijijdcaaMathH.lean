/- Plain mathematics of a set of starts and its cheapest plan: every hour from the start that is nearest to it. No program. -/
import Derived.Test.YtjhnfcmijijdcaaMathG
namespace Go.Proofs.Ytjhnfcmijijdcaa

/-- Of the starts before k in the set, the first with the smallest way to u. -/
def Tk.near (t : Tk) (S : Nat → Bool) (u : Nat) : Nat → Option Nat
  | 0 => none
  | k + 1 => if S k = true then (match t.near S u k with
      | none => some k
      | some b => if t.way k u < t.way b u then some k else some b) else t.near S u k
theorem Tk.near_out (t : Tk) {S : Nat → Bool} (u : Nat) {k : Nat} (h : ¬ S k = true) : t.near S u (k + 1) = t.near S u k := by
  show (if _ then _ else _) = _
  rw [if_neg h]
theorem Tk.near_new (t : Tk) {S : Nat → Bool} {u k : Nat} (h : S k = true) (e : t.near S u k = none) : t.near S u (k + 1) = some k := by
  show (if _ then _ else _) = _
  rw [if_pos h, e]
theorem Tk.near_less (t : Tk) {S : Nat → Bool} {u k b : Nat} (h : S k = true) (e : t.near S u k = some b) (g : t.way k u < t.way b u) : t.near S u (k + 1) = some k := by
  show (if _ then _ else _) = _
  rw [if_pos h, e]
  show (if _ then _ else _) = _
  rw [if_pos g]
theorem Tk.near_more (t : Tk) {S : Nat → Bool} {u k b : Nat} (h : S k = true) (e : t.near S u k = some b) (g : ¬ t.way k u < t.way b u) : t.near S u (k + 1) = some b := by
  show (if _ then _ else _) = _
  rw [if_pos h, e]
  show (if _ then _ else _) = _
  rw [if_neg g]
theorem Tk.near_spec (t : Tk) (S : Nat → Bool) (u : Nat) : ∀ k : Nat, (t.near S u k = none → ∀ s, s < k → ¬ S s = true) ∧
    (∀ b, t.near S u k = some b → b < k ∧ S b = true ∧ ∀ s, s < k → S s = true → t.way b u ≤ t.way s u) := by
  intro k
  induction k with
  | zero => exact ⟨fun _ s hs => by omega, fun b h => by cases h⟩
  | succ k ih =>
    by_cases h : S k = true
    · cases e : t.near S u k with
      | none =>
        rw [t.near_new h e]
        refine ⟨fun g => (by cases g), fun b g => ?_⟩
        injection g with g
        subst g
        refine ⟨by omega, h, fun s hs hS => ?_⟩
        by_cases es : s = k
        · subst es; exact Int.le_refl _
        · exact absurd hS (ih.1 e s (by omega))
      | some b0 =>
        obtain ⟨h1, h2, h3⟩ := ih.2 b0 e
        by_cases g : t.way k u < t.way b0 u
        · rw [t.near_less h e g]
          refine ⟨fun g => (by cases g), fun b g' => ?_⟩
          injection g' with g'
          subst g'
          refine ⟨by omega, h, fun s hs hS => ?_⟩
          by_cases es : s = k
          · subst es; exact Int.le_refl _
          · have := h3 s (by omega) hS
            omega
        · rw [t.near_more h e g]
          refine ⟨fun g => (by cases g), fun b g' => ?_⟩
          injection g' with g'
          subst g'
          refine ⟨by omega, h2, fun s hs hS => ?_⟩
          by_cases es : s = k
          · subst es; omega
          · exact h3 s (by omega) hS
    · rw [t.near_out u h]
      refine ⟨fun e s hs => ?_, fun b e => ?_⟩
      · by_cases es : s = k
        · subst es; exact h
        · exact ih.1 e s (by omega)
      · obtain ⟨h1, h2, h3⟩ := ih.2 b e
        refine ⟨by omega, h2, fun s hs hS => ?_⟩
        by_cases es : s = k
        · subst es; exact absurd hS h
        · exact h3 s (by omega) hS
/-- The start that the hour u is served from. -/
def Tk.ast (t : Tk) (S : Nat → Bool) (u : Nat) : Nat := (t.near S u (u + 1)).getD 0
theorem Tk.ast_le (t : Tk) (S : Nat → Bool) (u : Nat) : t.ast S u ≤ u := by
  unfold Tk.ast
  cases e : t.near S u (u + 1) with
  | none => exact Nat.zero_le _
  | some b =>
    have := ((t.near_spec S u (u + 1)).2 b e).1
    show b ≤ u
    omega
/-- Of an hour with a need, some start is not after it. -/
def Tk.Can (t : Tk) (S : Nat → Bool) (n : Nat) : Prop := ∀ u, u < n → t.d u ≠ 0 → t.near S u (u + 1) ≠ none

/-- The plan in which each hour u of the first m is served from a u. -/
def Tk.asg (t : Tk) (a : Nat → Nat) (m i : Nat) : Int := sm (fun u => if a u = i then t.d u else 0) 0 m
theorem Tk.asg_succ (t : Tk) (a : Nat → Nat) (m i : Nat) : t.asg a (m + 1) i = t.asg a m i + (if a m = i then t.d m else 0) := sm_succ (Nat.zero_le _)
theorem sm_one (x : Int) (k : Nat) : ∀ n : Nat, sm (fun i => if k = i then x else 0) 0 n = if k < n then x else 0 := by
  intro n
  induction n with
  | zero => rw [if_neg (by omega)]; rfl
  | succ n ih =>
    rw [sm_succ (Nat.zero_le _), ih]
    by_cases e : k = n
    · subst e
      rw [if_neg (Nat.lt_irrefl k), if_pos rfl, if_pos (by omega)]
      omega
    · by_cases g : k < n
      · rw [if_pos g, if_neg e, if_pos (by omega)]; omega
      · rw [if_neg g, if_neg e, if_neg (by omega)]; omega

section
variable {t : Tk} {n : Nat} {a : Nat → Nat} {p : Nat → Int}
theorem Tk.asg_cum (t : Tk) (a : Nat → Nat) (n k : Nat) : sm (t.asg a n) 0 k = sm (fun u => if a u < k then t.d u else 0) 0 n := by
  have e : sm (t.asg a n) 0 k = sm (fun i => sm (fun u => if a u = i then t.d u else 0) 0 n) 0 k := rfl
  rw [e, sm_swap (fun u i => if a u = i then t.d u else 0) n k]
  exact sm_congr fun u _ _ => sm_one _ _ _
theorem Tk.asg_right (ok : t.Ok n) (hn : n ≤ 12) (ha : ∀ u, u < n → a u ≤ u) : t.Right (t.asg a n) n := by
  refine ⟨fun i hi => ⟨sm_nonneg fun u _ hu => by split <;> first | exact ok.d0 u hu | omega, ?_⟩, fun i hi => ?_, ?_⟩
  · have := ok.units1 0 (Nat.le_refl n) hn
    have g : t.asg a n i ≤ t.units 0 n := sm_mono fun u _ hu => by
      have := ok.d0 u hu
      split <;> omega
    omega
  · rw [Tk.stk_eq, Tk.asg_cum]
    have g := sm_le (f := fun u => if a u < i + 1 then t.d u else 0) (s := 0) (m := i + 1) (n := n) (fun u _ hu => by
      have := ok.d0 u hu
      show 0 ≤ if a u < i + 1 then t.d u else 0
      split <;> omega) (by omega)
    have e : sm (fun u => if a u < i + 1 then t.d u else 0) 0 (i + 1) = sm t.d 0 (i + 1) := sm_congr fun u _ hu => by
      have := ha u (by omega)
      rw [if_pos (by omega)]
    omega
  · rw [Tk.stk_eq, Tk.asg_cum]
    have e : sm (fun u => if a u < n then t.d u else 0) 0 n = sm t.d 0 n := sm_congr fun u _ hu => by
      have := ha u (by omega)
      rw [if_pos (by omega)]
    omega
theorem Tk.asg_sum (t : Tk) (g : Nat → Int) (ha : ∀ u, u < n → a u < n) : sm (fun i => g i * t.asg a n i) 0 n = sm (fun u => g (a u) * t.d u) 0 n := by
  have e : sm (fun i => g i * t.asg a n i) 0 n = sm (fun i => sm (fun u => if a u = i then g (a u) * t.d u else 0) 0 n) 0 n := sm_congr fun i _ _ => by
    unfold Tk.asg
    rw [← sm_mul]
    refine sm_congr fun u _ _ => ?_
    by_cases h : a u = i
    · rw [if_pos h, if_pos h, h]
    · rw [if_neg h, if_neg h, Int.mul_zero]
  rw [e, sm_swap (fun u i => if a u = i then g (a u) * t.d u else 0) n n]
  refine sm_congr fun u _ hu => ?_
  show sm (fun i => if a u = i then g (a u) * t.d u else 0) 0 n = _
  rw [sm_one, if_pos (ha u hu)]
theorem Tk.asg_runs (ok : t.Ok n) (hn : n ≤ 12) (ha : ∀ u, u < n → a u ≤ u) : t.runs (t.asg a n) n = sm (fun u => t.d u * t.way (a u) u) 0 n := by
  have r := Tk.asg_right ok hn ha
  have e4 : t.runs (t.asg a n) n = sm (fun s => t.c s * t.asg a n s) 0 n + t.h * sm (fun i => t.stk (t.asg a n) (i + 1)) 0 n := by
    unfold Tk.runs
    rw [sm_add, sm_mul]
  have b := t.abel (t.asg a n) n
  rw [r.last, Int.mul_zero] at b
  have ha' : ∀ u, u < n → a u < n := fun u hu => by have := ha u hu; omega
  rw [t.asg_sum (fun i => (i : Int)) ha'] at b
  rw [t.asg_sum t.c ha'] at e4
  have e5 : sm (fun i => t.stk (t.asg a n) (i + 1)) 0 n = sm (fun u => (u : Int) * t.d u) 0 n - sm (fun u => (a u : Int) * t.d u) 0 n := by omega
  rw [e4, e5, ← sm_sub, ← sm_mul, ← sm_add]
  refine sm_congr fun u _ _ => ?_
  unfold Tk.way
  rw [← Int.sub_mul, ← Int.mul_assoc, ← Int.add_mul, Int.mul_comm]
/-- Where the plan p is right, no hour's start is worse than p's own, and only p's starts are used, the plan costs no more. -/
theorem Tk.asg_le (ok : t.Ok n) (hn : n ≤ 12) (r : t.Right p n) (ha : ∀ u, u < n → a u ≤ u) (h1 : ∀ u, u < n → t.d u ≠ 0 → 0 < p (a u))
    (h2 : ∀ u, u < n → t.d u ≠ 0 → ∀ s, s ≤ u → 0 < p s → t.way (a u) u ≤ t.way s u) : t.cost (t.asg a n) n ≤ t.cost p n := by
  have g1 : t.begs (t.asg a n) n ≤ t.begs p n := sm_mono fun i _ hi => by
    have k0 := ok.K0
    by_cases g : 0 < p i
    · rw [if_pos g]
      split <;> omega
    · have e : t.asg a n i = 0 := sm_none fun u _ hu => by
        by_cases e : a u = i
        · rw [if_pos e]
          by_cases d : t.d u = 0
          · exact d
          · have := h1 u hu d
            rw [e] at this
            exact absurd this g
        · rw [if_neg e]
      rw [e, if_neg (by omega), if_neg g]
      omega
  have g2 : t.runs (t.asg a n) n ≤ t.runs p n := by
    rw [Tk.asg_runs ok hn ha, ← Tk.ways_sum ok r, ← sm_swap (fun s u => t.fl p s u * t.way s u) n n]
    refine sm_mono fun u _ hu => ?_
    rw [← Tk.fl_need ok r hu, Int.mul_comm, ← sm_mul]
    refine sm_mono fun s _ hs => ?_
    have f0 := Tk.fl_nonneg ok r hs hu
    have f1 := Tk.fl_le ok r hs hu
    by_cases z : t.fl p s u = 0
    · rw [z, Int.mul_zero, Int.zero_mul]
      omega
    · have hsu : s ≤ u := by
        by_cases q : s ≤ u
        · exact q
        · exact absurd (Tk.fl_late ok r hs (by omega)) z
      have w := h2 u hu (by omega) s hsu (by omega)
      rw [Int.mul_comm]
      exact Int.mul_le_mul_of_nonneg_left w f0
  unfold Tk.cost
  omega
/-- A right plan has a start not after an hour with a need. -/
theorem Tk.Right.start (ok : t.Ok n) (r : t.Right p n) {u : Nat} (hu : u < n) (hd : t.d u ≠ 0) : ∃ s, s ≤ u ∧ 0 < p s := by
  by_cases h : ∃ s, s ≤ u ∧ 0 < p s
  · exact h
  · exfalso
    have a := r.stk u hu
    rw [Tk.stk_eq, sm_none (f := p) (fun i _ hi => by
      have := r.p0 i (by omega)
      by_cases g : 0 < p i
      · exact absurd ⟨i, by omega, g⟩ h
      · omega)] at a
    have b := sm_pos (f := t.d) (s := 0) (n := u + 1) (i := u) (fun j _ hj => ok.d0 j (by omega)) (Nat.zero_le _) (by omega)
    have c := ok.d0 u hu
    omega
/-- The starts of a right plan make a plan, and it costs no more. -/
theorem Tk.set_le (ok : t.Ok n) (hn : n ≤ 12) (r : t.Right p n) {S : Nat → Bool} (hS : ∀ s, s < n → (S s = true ↔ 0 < p s)) :
    t.Can S n ∧ t.cost (t.asg (t.ast S) n) n ≤ t.cost p n := by
  have can : t.Can S n := fun u hu hd e => by
    obtain ⟨s, h1, h2⟩ := Tk.Right.start ok r hu hd
    exact (t.near_spec S u (u + 1)).1 e s (by omega) ((hS s (by omega)).2 h2)
  refine ⟨can, Tk.asg_le ok hn r (fun u _ => t.ast_le S u) (fun u hu hd => ?_) (fun u hu hd s hs hp => ?_)⟩
  · cases e : t.near S u (u + 1) with
    | none => exact absurd e (can u hu hd)
    | some b =>
      obtain ⟨h1, h2, _⟩ := (t.near_spec S u (u + 1)).2 b e
      have : t.ast S u = b := by unfold Tk.ast; rw [e]; rfl
      rw [this]
      exact (hS b (by omega)).1 h2
  · cases e : t.near S u (u + 1) with
    | none => exact absurd e (can u hu hd)
    | some b =>
      obtain ⟨_, _, h3⟩ := (t.near_spec S u (u + 1)).2 b e
      have : t.ast S u = b := by unfold Tk.ast; rw [e]; rfl
      rw [this]
      exact h3 s (by omega) ((hS s (by omega)).2 hp)
end

end Go.Proofs.Ytjhnfcmijijdcaa
