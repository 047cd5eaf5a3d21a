/- Plain mathematics of plans: prices that hold, and what they prove. No program. -/
import Derived.Test.YtjhnfcmijijdcaaMathA
namespace Go.Proofs.Ytjhnfcmijijdcaa

/-- What of the price of an hour is above what is pumped for it in the hour s. -/
def Tk.over (t : Tk) (v : Nat → Int) (s u : Nat) : Int := if v u - t.d u * t.way s u < 0 then 0 else v u - t.d u * t.way s u
def Tk.above (t : Tk) (v : Nat → Int) (s n : Nat) : Int := sm (t.over v s) s n
/-- The prices hold. -/
def Tk.Holds (t : Tk) (v : Nat → Int) (n : Nat) : Prop := ∀ s, s < n → (t.d s = 0 → v s = 0) ∧ t.above v s n ≤ t.K
theorem Tk.over0 (t : Tk) (v : Nat → Int) (s u : Nat) : 0 ≤ t.over v s u := by unfold Tk.over; split <;> omega
theorem Tk.over_le (t : Tk) (v : Nat → Int) (s u : Nat) : v u - t.d u * t.way s u ≤ t.over v s u := by unfold Tk.over; split <;> omega
theorem Tk.above_succ (t : Tk) (v : Nat → Int) {s n : Nat} (h : s ≤ n) : t.above v s (n + 1) = t.above v s n + t.over v s n := sm_succ h
theorem Tk.above_le (t : Tk) (v : Nat → Int) {s m n : Nat} (h : m ≤ n) : t.above v s m ≤ t.above v s n := sm_le (fun j _ _ => t.over0 v s j) h

section
variable {t : Tk} {n : Nat} {v : Nat → Int}

/-- The worth of prices that hold is at most the least cost. -/
theorem Tk.Ok.worth_le (ok : t.Ok n) (hv : t.Holds v n) : ∀ {m : Nat}, m ≤ n → sm v 0 m ≤ t.f m := by
  intro m
  induction m using Nat.strongRecOn with
  | ind m ih =>
    intro hm
    by_cases h : m = 0
    · subst h; rw [Tk.f_zero]; exact Int.le_refl _
    · obtain ⟨h1, h2, _⟩ := t.f_eq (n := m) (by omega)
      have a := ih (t.q m) h2 (by omega)
      rw [sm_split (Nat.zero_le _) (by omega : t.q m ≤ m)]
      suffices sm v (t.q m) m ≤ t.tog (t.q m) m by omega
      unfold Tk.tog
      split
      · rename_i hz
        have z := ok.units_zero hm hz
        rw [sm_congr (g := fun _ => 0) (fun i h3 h4 => (hv i (by omega)).1 (z i h3 h4)), sm_zero]
        exact Int.le_refl _
      · have b := (hv (t.q m) (by omega)).2
        have c := t.above_le v (s := t.q m) hm
        have d : sm v (t.q m) m ≤ sm (fun u => t.over v (t.q m) u + t.d u * t.way (t.q m) u) (t.q m) m :=
          sm_mono fun i _ _ => by have := t.over_le v (t.q m) i; omega
        rw [sm_add] at d
        have e : sm (t.over v (t.q m)) (t.q m) m = t.above v (t.q m) m := rfl
        have e2 : sm (fun u => t.d u * t.way (t.q m) u) (t.q m) m = t.save (t.q m) m := rfl
        omega

/-- The price of an hour: what it adds to the least cost. -/
def Tk.p (t : Tk) (u : Nat) : Int := t.f (u + 1) - t.f u
theorem Tk.Ok.p0 (ok : t.Ok n) {u : Nat} (h : u < n) : 0 ≤ t.p u := by
  have := ok.fall h
  unfold Tk.p
  omega
theorem Tk.Ok.p_zero (ok : t.Ok n) {u : Nat} (h : u < n) (hd : t.d u = 0) : t.p u = 0 := by
  have a := ok.fall h
  have b := ok.fstep h
  have e : t.tog u (u + 1) = 0 := by
    unfold Tk.tog
    rw [if_pos]
    rw [Tk.units_succ (Nat.le_refl _), hd]
    unfold Tk.units
    rw [sm_self]
    rfl
  unfold Tk.p
  omega
theorem Tk.Ok.p1 (ok : t.Ok n) {u : Nat} (h : u < n) : t.p u ≤ 1999 := by
  have b := ok.fstep h
  have c := ok.d0 u h
  have e : t.save u (u + 1) = t.d u * t.way u u := by
    rw [Tk.save_succ (Nat.le_refl _)]
    unfold Tk.save
    rw [sm_self]
    omega
  have w : t.way u u = t.c u := by unfold Tk.way; simp
  have g : t.d u * t.way u u ≤ 50 * 20 := by
    rw [w]
    exact Int.mul_le_mul (ok.d1 u h) (ok.c1 u h) (ok.c0 u h) (by omega)
  have k := ok.K1
  have := ok.K0
  have := ok.save0 u (m := u + 1) (by omega)
  have := t.tog_le (s := u) (m := u + 1) ok.K0 this
  unfold Tk.p
  omega
theorem Tk.p_sum (t : Tk) {s n : Nat} (h : s ≤ n) : sm t.p s n = t.f n - t.f s := by
  induction n with
  | zero => obtain rfl : s = 0 := by omega
            simp [sm]
  | succ n ih =>
    by_cases hs : s ≤ n
    · rw [sm_succ hs, ih hs]; unfold Tk.p; omega
    · obtain rfl : s = n + 1 := by omega
      rw [sm_self]; omega
/-- What an hour pays is at least its way from the start of its block. -/
theorem Tk.Ok.p_ge (ok : t.Ok n) {u : Nat} (h : u < n) : t.d u * t.way (t.q (u + 1)) u ≤ t.p u := by
  obtain ⟨h1, h2, _⟩ := t.f_eq (n := u + 1) (by omega)
  have m := ok.tog_mono (s := t.q (u + 1)) (u := u) (by omega) h
  unfold Tk.p
  by_cases hq : t.q (u + 1) = u
  · rw [hq] at h1 m ⊢
    have := ok.tog0 u (m := u) (by omega)
    omega
  · have a := (t.f_eq (n := u) (by omega)).2.2 (t.q (u + 1)) (by omega)
    omega
/-- Some block that ends at u begins at an hour that is not dearer than s. -/
def Tk.Near (t : Tk) (s u : Nat) : Prop := ∃ r, r < u ∧ t.f u = t.f r + t.tog r u ∧ t.units r u ≠ 0 ∧ t.c r - t.h * (r : Int) ≤ t.c s - t.h * (s : Int)
theorem Tk.way_le {r s u : Nat} (h : t.c r - t.h * (r : Int) ≤ t.c s - t.h * (s : Int)) : t.way r u ≤ t.way s u := by
  unfold Tk.way
  rw [Int.mul_sub, Int.mul_sub]
  omega
theorem Tk.way_lt {r s u : Nat} (h : t.way r u ≤ t.way s u) : t.c r - t.h * (r : Int) ≤ t.c s - t.h * (s : Int) := by
  unfold Tk.way at h
  rw [Int.mul_sub, Int.mul_sub] at h
  omega
theorem Tk.Ok.near_price (ok : t.Ok n) {s u : Nat} (h : u < n) (hs : t.Near s u) : t.p u ≤ t.d u * t.way s u := by
  obtain ⟨r, h1, h2, h3, h4⟩ := hs
  have a := (t.f_eq (n := u + 1) (by omega)).2.2 r (by omega)
  have d0 := ok.d0 u h
  have u0 := ok.units0 r (m := u) (by omega)
  have e1 : t.tog r (u + 1) = t.tog r u + t.d u * t.way r u := by
    rw [Tk.tog_pos h3, Tk.tog_pos (by rw [Tk.units_succ (by omega)]; omega), Tk.save_succ (by omega)]
    omega
  have e2 : t.d u * t.way r u ≤ t.d u * t.way s u := Int.mul_le_mul_of_nonneg_left (Tk.way_le h4) d0
  unfold Tk.p
  omega
theorem Tk.Ok.near_next (ok : t.Ok n) {s u : Nat} (h : u < n) (hs : t.Near s u) : t.Near s (u + 1) := by
  have hp := ok.near_price h hs
  have d0 := ok.d0 u h
  by_cases hd : t.d u = 0
  · obtain ⟨r, h1, h2, h3, h4⟩ := hs
    have hz := ok.p_zero h hd
    refine ⟨r, by omega, ?_, ?_, h4⟩
    · rw [Tk.tog_pos h3] at h2
      rw [Tk.tog_pos (by rw [Tk.units_succ (by omega), hd]; omega), Tk.save_succ (by omega), hd]
      unfold Tk.p at hz
      omega
    · rw [Tk.units_succ (by omega), hd]; omega
  · obtain ⟨h1, h2, _⟩ := t.f_eq (n := u + 1) (by omega)
    have g := ok.p_ge h
    have u0 := ok.units0 (t.q (u + 1)) (m := u) (by omega)
    refine ⟨t.q (u + 1), h2, h1, by rw [Tk.units_succ (by omega)]; omega, Tk.way_lt (u := u) ?_⟩
    exact Int.le_of_mul_le_mul_left (a := t.d u) (by omega) (by omega)
theorem Tk.Ok.near_first (ok : t.Ok n) {s u : Nat} (h : u < n) (hp : t.p u < t.d u * t.way s u) : t.Near s (u + 1) := by
  have d0 := ok.d0 u h
  have hd : t.d u ≠ 0 := by
    intro hd
    rw [ok.p_zero h hd, hd] at hp
    omega
  obtain ⟨h1, h2, _⟩ := t.f_eq (n := u + 1) (by omega)
  have g := ok.p_ge h
  have u0 := ok.units0 (t.q (u + 1)) (m := u) (by omega)
  refine ⟨t.q (u + 1), h2, h1, by rw [Tk.units_succ (by omega)]; omega, Tk.way_lt (u := u) ?_⟩
  exact Int.le_of_mul_le_mul_left (a := t.d u) (by omega) (by omega)
/-- Up to an hour either every hour pays its way from s, or a nearer block has come and the sum stands. -/
theorem Tk.Ok.hold_to (ok : t.Ok n) {s : Nat} : ∀ {m : Nat}, s ≤ m → m ≤ n →
    ((t.above t.p s m = t.f m - t.f s - t.save s m) ∨ t.Near s m) ∧ t.above t.p s m ≤ t.K := by
  intro m hs
  induction m with
  | zero =>
    intro _
    obtain rfl : s = 0 := by omega
    refine ⟨.inl ?_, ?_⟩
    · simp [Tk.above, Tk.save, sm]
    · have := ok.K0; simpa [Tk.above, sm] using this
  | succ m ih =>
    intro hm
    by_cases hsm : s ≤ m
    · obtain ⟨h1, h2⟩ := ih hsm (by omega)
      have dw := ok.dw0 hsm (u := m) (by omega)
      rw [Tk.above_succ _ _ hsm]
      rcases h1 with h1 | h1
      · by_cases hp : t.p m < t.d m * t.way s m
        · have e : t.over t.p s m = 0 := by unfold Tk.over; rw [if_pos (by omega)]
          rw [e]
          exact ⟨.inr (ok.near_first (by omega) hp), by omega⟩
        · have e : t.over t.p s m = t.p m - t.d m * t.way s m := by unfold Tk.over; rw [if_neg (by omega)]
          have e2 : t.above t.p s m + t.over t.p s m = t.f (m + 1) - t.f s - t.save s (m + 1) := by
            rw [e, h1, Tk.save_succ hsm]
            unfold Tk.p
            omega
          refine ⟨.inl e2, ?_⟩
          rw [e2]
          have a := (t.f_eq (n := m + 1) (by omega)).2.2 s (by omega)
          have b := t.tog_le (s := s) (m := m + 1) ok.K0 (ok.save0 s hm)
          omega
      · have g := ok.near_price (by omega) h1
        have e : t.over t.p s m = 0 := by unfold Tk.over; split <;> omega
        rw [e]
        exact ⟨.inr (ok.near_next (by omega) h1), by omega⟩
    · obtain rfl : s = m + 1 := by omega
      have e : t.above t.p (m + 1) (m + 1) = 0 := sm_self _ _
      have e2 : t.save (m + 1) (m + 1) = 0 := sm_self _ _
      have := ok.K0
      rw [e, e2]
      exact ⟨.inl (by omega), by omega⟩
/-- The prices that the hours add hold. -/
theorem Tk.Ok.holds (ok : t.Ok n) : t.Holds t.p n := fun _ hs =>
  ⟨fun h => ok.p_zero hs h, (ok.hold_to (Nat.le_of_lt hs) (Nat.le_refl _)).2⟩
theorem Tk.Ok.worth (_ok : t.Ok n) : sm t.p 0 n = t.f n := by
  rw [t.p_sum (Nat.zero_le _), Tk.f_zero]
  omega
end

end Go.Proofs.Ytjhnfcmijijdcaa
