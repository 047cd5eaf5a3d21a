/- Plain mathematics: two tones that agree long enough; pieces that two tones share. -/
import Derived.Test.YtbadihbcjdibeaaMathC
namespace Go.Proofs.Ytbadihbcjdibeaa

/-- A word of p + q - gcd letters with the periods p and q has the period gcd. -/
theorem fine_wilf (f : Nat → Int) : ∀ n p q : Nat, p + q ≤ n → 1 ≤ p → 1 ≤ q →
    (∀ x, x + p < p + q - Nat.gcd p q → f x = f (x + p)) → (∀ x, x + q < p + q - Nat.gcd p q → f x = f (x + q)) →
    ∀ x, x < p + q - Nat.gcd p q → f x = f (x % Nat.gcd p q) := by
  have step : ∀ n p q : Nat, (∀ p q : Nat, p + q ≤ n → 1 ≤ p → 1 ≤ q →
      (∀ x, x + p < p + q - Nat.gcd p q → f x = f (x + p)) → (∀ x, x + q < p + q - Nat.gcd p q → f x = f (x + q)) →
      ∀ x, x < p + q - Nat.gcd p q → f x = f (x % Nat.gcd p q)) → p + q ≤ n + 1 → 1 ≤ p → p < q →
      (∀ x, x + p < p + q - Nat.gcd p q → f x = f (x + p)) → (∀ x, x + q < p + q - Nat.gcd p q → f x = f (x + q)) →
      ∀ x, x < p + q - Nat.gcd p q → f x = f (x % Nat.gcd p q) := by
    intro n p q ih hn hp hlt h1 h2 x hx
    have hg : Nat.gcd p (q - p) = Nat.gcd p q := by
      rw [Nat.gcd_comm p (q - p), Nat.gcd_sub_self_left (by omega), Nat.gcd_comm]
    have hgpos : 0 < Nat.gcd p q := Nat.gcd_pos_of_pos_left q hp
    have hgp : Nat.gcd p q ∣ p := Nat.gcd_dvd_left p q
    have hgle : Nat.gcd p q ≤ q - p := Nat.le_of_dvd (by omega) (by rw [← hg]; exact Nat.gcd_dvd_right p (q - p))
    have inner : ∀ x, x < q - Nat.gcd p q → f x = f (x % Nat.gcd p q) := by
      have := ih p (q - p) (by omega) hp (by omega)
      rw [hg] at this
      have e : p + (q - p) - Nat.gcd p q = q - Nat.gcd p q := by omega
      rw [e] at this
      refine this (fun x hx => h1 x (by omega)) (fun x hx => ?_)
      rw [h2 x (by omega), h1 (x + (q - p)) (by omega)]
      congr 1; omega
    have down : ∀ k x, x < p + q - Nat.gcd p q → x / p = k → f x = f (x % p) := by
      intro k
      induction k with
      | zero =>
        intro x _ hk
        have : x < p := by
          rcases Nat.lt_or_ge x p with g | g
          · exact g
          · have := Nat.div_pos g (by omega); omega
        rw [Nat.mod_eq_of_lt this]
      | succ k ihk =>
        intro x hx hk
        have hge : p ≤ x := by
          rcases Nat.lt_or_ge x p with g | g
          · rw [Nat.div_eq_of_lt g] at hk; omega
          · exact g
        have e1 := h1 (x - p) (by omega)
        rw [Nat.sub_add_cancel hge] at e1
        have hd := Nat.div_eq_sub_div (show 0 < p by omega) hge
        rw [← e1, ihk (x - p) (by omega) (by omega), Nat.mod_eq_sub_mod hge]
    have hm := Nat.mod_lt x (show p > 0 by omega)
    rw [down _ x hx rfl, inner (x % p) (by omega), Nat.mod_mod_of_dvd x hgp]
  intro n
  induction n with
  | zero => intro p q hn hp hq; omega
  | succ n ih =>
    intro p q hn hp hq h1 h2 x hx
    rcases Nat.lt_trichotomy p q with g | g | g
    · exact step n p q ih hn hp g h1 h2 x hx
    · subst g
      rw [Nat.gcd_self] at hx ⊢
      rw [Nat.mod_eq_of_lt (by omega)]
    · have := step n q p ih (by omega) hq g
      rw [Nat.gcd_comm q p, Nat.add_comm q p] at this
      exact this h2 h1 x hx

def most (p q : Nat) : Nat := p + q - Nat.gcd p q
theorem most_bd {p q : Nat} (hp : 1 ≤ p) (hq : 1 ≤ q) : p ≤ most p q ∧ q ≤ most p q ∧ most p q ≤ p + q - 1 ∧ Nat.gcd p q ≤ p ∧ 1 ≤ Nat.gcd p q := by
  have h1 := Nat.gcd_pos_of_pos_left q hp
  have h2 := Nat.le_of_dvd hp (Nat.gcd_dvd_left p q)
  have h3 := Nat.le_of_dvd hq (Nat.gcd_dvd_right p q)
  unfold most; omega

/-- Two tones that agree from two seconds on, for both periods less their common measure, agree for ever. -/
theorem agree_long {xs ys : List Int} (h : 1 ≤ xs.length) (h' : 1 ≤ ys.length) (i j : Int)
    (e : ∀ k : Nat, k < most (per xs) (per ys) → sec xs (i + (k : Int)) = sec ys (j + (k : Int))) : ∀ k : Int, sec xs (i + k) = sec ys (j + k) := by
  obtain ⟨s1, s2, _, _⟩ := per_spec h
  obtain ⟨t1, t2, _, _⟩ := per_spec h'
  obtain ⟨m1, m2, m3, m4, m5⟩ := most_bd s2 t2
  have fw := fine_wilf (fun k => sec xs (i + (k : Int))) _ (per xs) (per ys) (Nat.le_refl _) s2 t2
    (fun x _ => by
      show sec xs (i + (x : Int)) = sec xs (i + ((x + per xs : Nat) : Int))
      rw [Int.natCast_add, ← Int.add_assoc, sec_rep h s1])
    (fun x hx => by
      show sec xs (i + (x : Int)) = sec xs (i + ((x + per ys : Nat) : Int))
      rw [e x (by unfold most; omega), e (x + per ys) hx, Int.natCast_add, ← Int.add_assoc, sec_rep h' t1])
  intro k
  have hg := m5
  have a1 := Int.emod_lt_of_pos k (show (0 : Int) < per xs by omega)
  have a2 := Int.emod_nonneg k (show (per xs : Int) ≠ 0 by omega)
  have b1 := Int.emod_lt_of_pos k (show (0 : Int) < per ys by omega)
  have b2 := Int.emod_nonneg k (show (per ys : Int) ≠ 0 by omega)
  have f1 := fw (k % (per xs : Int)).toNat (by show _ < most (per xs) (per ys); omega)
  have f2 := fw (k % (per ys : Int)).toNat (by show _ < most (per xs) (per ys); omega)
  have r1 : ((k % (per xs : Int)).toNat % Nat.gcd (per xs) (per ys) : Nat) = (k % ((Nat.gcd (per xs) (per ys) : Nat) : Int)).toNat := by
    have c2 := Int.emod_nonneg k (show ((Nat.gcd (per xs) (per ys) : Nat) : Int) ≠ 0 by omega)
    have : (((k % (per xs : Int)).toNat % Nat.gcd (per xs) (per ys) : Nat) : Int) = k % ((Nat.gcd (per xs) (per ys) : Nat) : Int) := by
      rw [Int.natCast_emod, Int.toNat_of_nonneg a2, Int.emod_emod_of_dvd _ (Int.natCast_dvd_natCast.2 (Nat.gcd_dvd_left _ _))]
    omega
  have r2 : ((k % (per ys : Int)).toNat % Nat.gcd (per xs) (per ys) : Nat) = (k % ((Nat.gcd (per xs) (per ys) : Nat) : Int)).toNat := by
    have c2 := Int.emod_nonneg k (show ((Nat.gcd (per xs) (per ys) : Nat) : Int) ≠ 0 by omega)
    have : (((k % (per ys : Int)).toNat % Nat.gcd (per xs) (per ys) : Nat) : Int) = k % ((Nat.gcd (per xs) (per ys) : Nat) : Int) := by
      rw [Int.natCast_emod, Int.toNat_of_nonneg b2, Int.emod_emod_of_dvd _ (Int.natCast_dvd_natCast.2 (Nat.gcd_dvd_right _ _))]
    omega
  have x1 : sec xs (i + k) = sec xs (i + (((k % (per xs : Int)).toNat : Nat) : Int)) := by
    rw [Int.toNat_of_nonneg a2, ← sec_rep_emod h s2 s1, ← sec_rep_emod h s2 s1 (i + k % _), Int.add_emod_emod]
  have y1 : sec ys (j + k) = sec ys (j + (((k % (per ys : Int)).toNat : Nat) : Int)) := by
    rw [Int.toNat_of_nonneg b2, ← sec_rep_emod h' t2 t1, ← sec_rep_emod h' t2 t1 (j + k % _), Int.add_emod_emod]
  rw [x1, y1, ← e _ (by omega)]
  rw [f1, f2, r1, r2]

/-- Agree is smaller than both periods less their common measure. -/
theorem agree_lt {xs ys : List Int} (h : 1 ≤ xs.length) (h' : 1 ≤ ys.length) {d : Nat} (hd : agreeO xs ys = some d) : d < most (per xs) (per ys) := by
  rcases agreeO_spec h h' with ⟨g, _⟩ | ⟨d', g1, g2, g3, g4, g5⟩
  · rw [g] at hd; cases hd
  · rw [g1] at hd; injection hd with hd; subst hd
    rcases Nat.lt_or_ge d' (most (per xs) (per ys)) with g | g
    · exact g
    · have := agree_long h h' 0 0 (fun k hk => by rw [Int.zero_add]; exact g4 k (by omega)) (d' : Int)
      rw [Int.zero_add] at this
      exact absurd this g3

/-- Some n seconds are a piece of both. -/
def Shr (xs ys : List Int) (n : Nat) : Prop := ∃ i j : Int, ∀ k : Nat, k < n → sec xs (i + (k : Int)) = sec ys (j + (k : Int))
theorem shr_alike {xs ys : List Int} (h : 1 ≤ xs.length) (h' : 1 ≤ ys.length) (hs : Shr xs ys (most (per xs) (per ys))) : Alk xs ys := by
  obtain ⟨i, j, e⟩ := hs
  have := agree_long h h' i j e
  exact ⟨i - j, fun k => by have := this (k - j); rwa [show i + (k - j) = k + (i - j) from by omega, show j + (k - j) = k from by omega] at this⟩
theorem shr_mono {xs ys : List Int} {n m : Nat} (hnm : n ≤ m) (h : Shr xs ys m) : Shr xs ys n := by
  obtain ⟨i, j, e⟩ := h
  exact ⟨i, j, fun k hk => e k (by omega)⟩
theorem shr_zero (xs ys : List Int) : Shr xs ys 0 := ⟨0, 0, fun k hk => by omega⟩

end Go.Proofs.Ytbadihbcjdibeaa
