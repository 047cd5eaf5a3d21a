/- Mathematics: the nearest log; the window. -/
import Derived.Test.YtndfdminjegldaaMV
namespace Go.Proofs.Ytndfdminjegldaa

/-- The first error of a list of logs. -/
def errNs : Tbl → Int
  | [] => 0
  | x :: T => if errL x = 0 then errNs T else errL x
theorem errNs_at : ∀ (T : Tbl) (t : Nat), t < T.length → (∀ k, k < t → errL (T.getD k []) = 0) → errL (T.getD t []) ≠ 0 → errNs T = errL (T.getD t [])
  | [], t, h, _, _ => by simp at h
  | x :: T, 0, _, _, h => by
    have h' : errL x ≠ 0 := h
    rw [errNs, if_neg h']; rfl
  | x :: T, t + 1, h, hk, hne => by
    have h0 : errL x = 0 := hk 0 (by omega)
    rw [errNs, if_pos h0]
    exact errNs_at T t (by simpa using h) (fun k hk' => hk (k + 1) (by omega)) hne
theorem errNs_ok : ∀ (T : Tbl), (∀ k, k < T.length → errL (T.getD k []) = 0) → errNs T = 0
  | [], _ => rfl
  | x :: T, h => by
    have h0 : errL x = 0 := h 0 (by simp)
    rw [errNs, if_pos h0]
    exact errNs_ok T (fun k hk => h (k + 1) (by simp; omega))
theorem errNs_zero : ∀ (T : Tbl), errNs T = 0 → ∀ k, k < T.length → errL (T.getD k []) = 0
  | [], _, k, hk => by simp at hk
  | x :: T, h, k, hk => by
    rw [errNs] at h
    by_cases h0 : errL x = 0
    · rw [if_pos h0] at h
      cases k with
      | zero => exact h0
      | succ k => exact errNs_zero T h k (by simpa using hk)
    · rw [if_neg h0] at h; exact absurd h h0
def errNe (T : Tbl) (l : List Int) (c : Cst) : Int := if 1 ≤ T.length ∧ T.length ≤ 6 then (if errNs T = 0 then (if errL l = 0 then errC c else errL l) else errNs T) else 3
/-- The first of the least. -/
def nb (d : Nat → Int) : Nat → Nat
  | 0 => 0
  | t + 1 => if d t < d (nb d t) then t else nb d t
theorem nb_le (d : Nat → Int) : ∀ t, nb d t ≤ t - 1
  | 0 => Nat.le_refl _
  | t + 1 => by
    have := nb_le d t
    rw [nb]; split <;> omega
theorem nb_one (d : Nat → Int) : nb d 1 = 0 := by
  rw [nb, nb, if_neg (Int.lt_irrefl _)]
theorem nb_yes {d : Nat → Int} {t : Nat} (h : d t < d (nb d t)) : nb d (t + 1) = t := by rw [nb, if_pos h]
theorem nb_no {d : Nat → Int} {t : Nat} (h : ¬ d t < d (nb d t)) : nb d (t + 1) = nb d t := by rw [nb, if_neg h]
def dNe (T : Tbl) (l : List Int) (c : Cst) (t : Nat) : Int := dist (T.getD t []) l c
def nearV (T : Tbl) (l : List Int) (c : Cst) : Int := if errNe T l c = 0 then (nb (dNe T l c) T.length : Int) else 0
section
variable {T : Tbl} {l : List Int} {c : Cst}
theorem errNe_len (h : ¬ (1 ≤ T.length ∧ T.length ≤ 6)) : errNe T l c = 3 := if_neg h
theorem errNe_s (h : 1 ≤ T.length ∧ T.length ≤ 6) (h1 : errNs T ≠ 0) : errNe T l c = errNs T := by unfold errNe; rw [if_pos h, if_neg h1]
theorem errNe_l (h : 1 ≤ T.length ∧ T.length ≤ 6) (h1 : errNs T = 0) (h2 : errL l ≠ 0) : errNe T l c = errL l := by unfold errNe; rw [if_pos h, if_pos h1, if_neg h2]
theorem errNe_c (h : 1 ≤ T.length ∧ T.length ≤ 6) (h1 : errNs T = 0) (h2 : errL l = 0) : errNe T l c = errC c := by unfold errNe; rw [if_pos h, if_pos h1, if_pos h2]
theorem nearV_ok (h : errNe T l c = 0) : nearV T l c = nb (dNe T l c) T.length := if_pos h
theorem nearV_no (h : errNe T l c ≠ 0) : nearV T l c = 0 := if_neg h
end
/-! The window. -/
/-- The best so far: where from, where to, how far. -/
def wst (d : Nat → Nat → Int) (s : Nat × Nat × Int) (a b : Nat) : Nat × Nat × Int := if d a b < s.2.2 then (a, b, d a b) else s
/-- .. of the windows from a on, up to b. -/
def wrow (d : Nat → Nat → Int) (s : Nat × Nat × Int) (a : Nat) : Nat → Nat × Nat × Int
  | 0 => s
  | t + 1 => wst d (wrow d s a t) a (a + t)
/-- .. of the windows that begin before a, all of a log of n signs. -/
def wall (d : Nat → Nat → Int) (n : Nat) (s : Nat × Nat × Int) : Nat → Nat × Nat × Int
  | 0 => s
  | a + 1 => wrow d (wall d n s a) a (n + 1 - a)
def dWi (l m : List Int) (c : Cst) (a b : Nat) : Int := dist l ((m.drop a).take (b - a)) c
def winS (l m : List Int) (c : Cst) (a : Nat) : Nat × Nat × Int := wall (dWi l m c) m.length (0, 0, dist l [] c) a
/-- The last window is empty: it changes nothing. -/
theorem wrow_le (d : Nat → Nat → Int) (s : Nat × Nat × Int) (a : Nat) : ∀ t, (wrow d s a t).2.2 ≤ s.2.2
  | 0 => Int.le_refl _
  | t + 1 => by
    have ih := wrow_le d s a t
    rw [wrow, wst]; split
    · dsimp only; omega
    · exact ih
theorem wall_le (d : Nat → Nat → Int) (n : Nat) (s : Nat × Nat × Int) : ∀ a, (wall d n s a).2.2 ≤ s.2.2
  | 0 => Int.le_refl _
  | a + 1 => Int.le_trans (wrow_le d _ a _) (wall_le d n s a)
theorem win_last (l m : List Int) (c : Cst) : winS l m c (m.length + 1) = winS l m c m.length := by
  unfold winS
  rw [wall, show m.length + 1 - m.length = 1 by omega, wrow, wrow, wst, if_neg]
  have h1 := wall_le (dWi l m c) m.length (0, 0, dist l [] c) m.length
  have h2 : dWi l m c m.length (m.length + 0) = dist l [] c := by unfold dWi; simp
  rw [h2]
  dsimp only at h1
  omega
/-- What holds of the best so far. -/
def WinOk (d : Nat → Nat → Int) (n : Nat) (d0 : Int) (s : Nat × Nat × Int) : Prop := s.1 ≤ s.2.1 ∧ s.2.1 ≤ n ∧ (s.2.2 = d s.1 s.2.1) ∧ s.2.2 ≤ d0
theorem wrow_ok {d : Nat → Nat → Int} {n : Nat} {d0 : Int} {s : Nat × Nat × Int} {a : Nat} (h : WinOk d n d0 s) : ∀ t, a + t ≤ n + 1 → WinOk d n d0 (wrow d s a t)
  | 0, _ => h
  | t + 1, ht => by
    have ih := wrow_ok (n := n) (d0 := d0) (a := a) h t (by omega)
    rw [wrow, wst]
    split
    · refine ⟨Nat.le_add_right a t, by dsimp only; omega, rfl, ?_⟩
      have := ih.2.2.2; dsimp only at *; omega
    · exact ih
theorem wall_ok {d : Nat → Nat → Int} {n : Nat} {d0 : Int} {s : Nat × Nat × Int} (h : WinOk d n d0 s) : ∀ a, a ≤ n + 1 → WinOk d n d0 (wall d n s a)
  | 0, _ => h
  | a + 1, ha => wrow_ok (wall_ok h a (by omega)) _ (by omega)
/-- The least of all. -/
theorem wrow_min {d : Nat → Nat → Int} (s : Nat × Nat × Int) (a : Nat) : ∀ t q, q < t → (wrow d s a t).2.2 ≤ d a (a + q)
  | 0, q, h => by omega
  | t + 1, q, h => by
    rw [wrow, wst]
    by_cases e : q = t
    · subst e; split
      · exact Int.le_refl _
      · omega
    · have ih := wrow_min (d := d) s a t q (by omega)
      split
      · dsimp only; omega
      · exact ih
theorem wall_min {d : Nat → Nat → Int} (n : Nat) (s : Nat × Nat × Int) : ∀ a x y, x < a → x ≤ y → y ≤ n → (wall d n s a).2.2 ≤ d x y
  | 0, x, y, h, _, _ => by omega
  | a + 1, x, y, h, hxy, hy => by
    rw [wall]
    by_cases e : x = a
    · subst e
      have := wrow_min (d := d) (wall d n s x) x (n + 1 - x) (y - x) (by omega)
      rwa [show x + (y - x) = y by omega] at this
    · exact Int.le_trans (wrow_le d _ a _) (wall_min (d := d) n s a x y (by omega) hxy hy)
theorem win_ok (l m : List Int) (c : Cst) : WinOk (dWi l m c) m.length (dist l [] c) (winS l m c m.length) := wall_ok ⟨Nat.le_refl _, Nat.zero_le _, by unfold dWi; simp, Int.le_refl _⟩ _ (by omega)
/-- It is not farther there than from the whole. -/
theorem win_whole (l m : List Int) (c : Cst) : (winS l m c m.length).2.2 ≤ dist l m c := by
  rw [← win_last]
  have := wall_min (d := dWi l m c) m.length (0, 0, dist l [] c) (m.length + 1) 0 m.length (by omega) (by omega) (Nat.le_refl _)
  have e : dWi l m c 0 m.length = dist l m c := by unfold dWi; simp
  rw [e] at this
  exact this
def winV (l m : List Int) (c : Cst) : Int × Int := if errD l m c = 0 then ((winS l m c m.length).1, (winS l m c m.length).2.1) else (0, 0)
theorem winV_ok {l m : List Int} {c : Cst} (h : errD l m c = 0) : winV l m c = (((winS l m c m.length).1 : Int), ((winS l m c m.length).2.1 : Int)) := if_pos h
theorem winV_no {l m : List Int} {c : Cst} (h : errD l m c ≠ 0) : winV l m c = (0, 0) := if_neg h
end Go.Proofs.Ytndfdminjegldaa
