/- Mathematics of amounts: remainders, how far the gaps reach, and the measure. -/
import Derived.Test.YtlhlcchimammlaaMC
namespace Go.Proofs.Ytlhlcchimammlaa

theorem pigeon : ∀ (a : Nat) (f : Nat → Nat), (∀ i, i ≤ a → f i < a) → ∃ i j, i < j ∧ j ≤ a ∧ f i = f j
  | 0, f, h => absurd (h 0 (Nat.le_refl _)) (Nat.not_lt_zero _)
  | a + 1, f, h => by
    by_cases hx : ∃ i, i < a + 1 ∧ f i = f (a + 1)
    · obtain ⟨i, hi, e⟩ := hx
      exact ⟨i, a + 1, hi, Nat.le_refl _, e⟩
    · have hne : ∀ i, i < a + 1 → f i ≠ f (a + 1) := fun i hi e => hx ⟨i, hi, e⟩
      obtain ⟨i, j, hij, hj, e⟩ := pigeon a (fun i => if f i = a then f (a + 1) else f i) (fun i hi => by
        have h1 := h i (by omega)
        have h2 := hne i (by omega)
        have h3 := h (a + 1) (Nat.le_refl _)
        split <;> omega)
      refine ⟨i, j, hij, by omega, ?_⟩
      have h1 := hne i (by omega)
      have h2 := hne j (by omega)
      split at e <;> split at e <;> omega
def sumN (L : List Int) : Nat := (L.map Int.toNat).sum
theorem sumN_app (L M : List Int) : sumN (L ++ M) = sumN L + sumN M := by simp [sumN]
theorem mk_list {w : List Int} {n c : Nat} (h : Mk w n c) : ∃ L : List Int, (∀ x ∈ L, x ∈ w) ∧ L.length = c ∧ sumN L = n := by
  induction h with
  | zero => exact ⟨[], by simp, rfl, rfl⟩
  | @add n c x _ hx ih =>
    obtain ⟨L, h1, h2, h3⟩ := ih
    refine ⟨L ++ [x], fun y hy => ?_, by simp [h2], by rw [sumN_app, h3]; simp [sumN]⟩
    rcases List.mem_append.1 hy with hy | hy
    · exact h1 y hy
    · rw [List.mem_singleton.1 hy]; exact hx
theorem list_mk {w : List Int} : ∀ (L : List Int), (∀ x ∈ L, x ∈ w) → Mk w (sumN L) L.length
  | [], _ => .zero
  | x :: L, h => ((list_mk L (fun y hy => h y (by simp [hy]))).add (h x (by simp))).cast (by simp [sumN]; omega) (by simp)
/-- Without some of many cartridges the remainder is the same. -/
theorem mk_fewer {w : List Int} (hw : Wt w) {a n c : Nat} (ha : 0 < a) (h : Mk w n c) (hc : a ≤ c) : ∃ m d, Mk w m d ∧ m < n ∧ m % a = n % a := by
  obtain ⟨L, h1, h2, h3⟩ := mk_list h
  obtain ⟨i, j, hij, hj, e⟩ := pigeon a (fun i => sumN (L.take i) % a) (fun i _ => Nat.mod_lt _ ha)
  have hL : L = L.take i ++ ((L.drop i).take (j - i) ++ L.drop j) := by
    have e1 : L.drop j = (L.drop i).drop (j - i) := by rw [List.drop_drop]; congr 1; omega
    rw [e1, List.take_append_drop, List.take_append_drop]
  have hT : L.take j = L.take i ++ (L.drop i).take (j - i) := by
    have : j = i + (j - i) := by omega
    conv => lhs; rw [this]
    rw [List.take_add]
  have hmid : 0 < sumN ((L.drop i).take (j - i)) := by
    have hlen : 0 < ((L.drop i).take (j - i)).length := by simp; omega
    have hmem : ∀ x ∈ (L.drop i).take (j - i), x ∈ w := fun x hx => h1 x (List.mem_of_mem_drop (List.mem_of_mem_take hx))
    have := (list_mk _ hmem).count_le hw
    omega
  have hs : sumN L = sumN (L.take i) + (sumN ((L.drop i).take (j - i)) + sumN (L.drop j)) := by
    conv => lhs; rw [hL]
    rw [sumN_app, sumN_app]
  refine ⟨sumN (L.take i ++ L.drop j), _, list_mk _ (fun x hx => ?_), ?_, ?_⟩
  · rcases List.mem_append.1 hx with hx | hx
    · exact h1 x (List.mem_of_mem_take hx)
    · exact h1 x (List.mem_of_mem_drop hx)
  · rw [sumN_app]; omega
  · rw [← h3, hs, sumN_app]
    rw [hT, sumN_app] at e
    rw [← Nat.add_assoc, Nat.add_mod, e, ← Nat.add_mod]
/-- What is made up leaves the same remainder as something small that is. -/
theorem mk_small {w : List Int} (hw : Wt w) {a : Nat} (ha : 0 < a) (h30 : a ≤ 30) : ∀ (n c : Nat), Mk w n c → ∃ m d, Mk w m d ∧ m ≤ n ∧ m ≤ 870 ∧ m % a = n % a := by
  intro n
  induction n using Nat.strongRecOn with
  | _ n ih =>
    intro c h
    by_cases hc : a ≤ c
    · obtain ⟨m, d, hm, hlt, e⟩ := mk_fewer hw ha h hc
      obtain ⟨m', d', h1, h2, h3, h4⟩ := ih m hlt d hm
      exact ⟨m', d', h1, by omega, h3, by rw [h4, e]⟩
    · have := h.count_le hw
      exact ⟨n, c, h, Nat.le_refl _, by omega, rfl⟩
/-- More of one weight. -/
theorem mk_up {w : List Int} {x : Int} (hx : x ∈ w) (h0 : 0 < x) {m n d : Nat} (h : Mk w m d) (hle : m ≤ n) (e : m % x.toNat = n % x.toNat) : ∃ c, Mk w n c := by
  obtain ⟨k, hk⟩ : ∃ k, n = m + k * x.toNat := by
    have h1 := Nat.div_add_mod m x.toNat
    have h2 := Nat.div_add_mod n x.toNat
    have h3 : m / x.toNat ≤ n / x.toNat := Nat.div_le_div_right hle
    refine ⟨n / x.toNat - m / x.toNat, ?_⟩
    rw [Nat.sub_mul]
    have h4 : m / x.toNat * x.toNat = x.toNat * (m / x.toNat) := Nat.mul_comm _ _
    have h5 : n / x.toNat * x.toNat = x.toNat * (n / x.toNat) := Nat.mul_comm _ _
    have h6 := Nat.mul_le_mul_left x.toNat h3
    omega
  subst hk
  exact ⟨_, h.plus ((Mk.one hx).times k)⟩

/-- The measure. -/
def gcdL (w : List Int) : Nat := w.foldl (fun g x => Nat.gcd g x.toNat) 0
theorem gcdL_fold (w : List Int) : ∀ g : Nat, (w.foldl (fun g x => Nat.gcd g x.toNat) g) ∣ g ∧ (∀ x ∈ w, (w.foldl (fun g x => Nat.gcd g x.toNat) g) ∣ x.toNat) ∧ ∀ d, d ∣ g → (∀ x ∈ w, d ∣ x.toNat) → d ∣ (w.foldl (fun g x => Nat.gcd g x.toNat) g) := by
  induction w with
  | nil => exact fun g => ⟨Nat.dvd_refl _, by simp, fun d h _ => h⟩
  | cons x w ih =>
    intro g
    obtain ⟨h1, h2, h3⟩ := ih (Nat.gcd g x.toNat)
    simp only [List.foldl_cons]
    refine ⟨Nat.dvd_trans h1 (Nat.gcd_dvd_left _ _), fun y hy => ?_, fun d hd h => ?_⟩
    · rcases List.mem_cons.1 hy with rfl | hy
      · exact Nat.dvd_trans h1 (Nat.gcd_dvd_right _ _)
      · exact h2 y hy
    · exact h3 d (Nat.dvd_gcd hd (h x (by simp))) (fun y hy => h y (by simp [hy]))
theorem gcdL_dvd {w : List Int} {x : Int} (h : x ∈ w) : gcdL w ∣ x.toNat := (gcdL_fold w 0).2.1 x h
theorem dvd_gcdL {w : List Int} {d : Nat} (h : ∀ x ∈ w, d ∣ x.toNat) : d ∣ gcdL w := (gcdL_fold w 0).2.2 d (Nat.dvd_zero d) h
theorem gcdL_mk {w : List Int} {n c : Nat} (h : Mk w n c) : gcdL w ∣ n := by
  induction h with
  | zero => exact Nat.dvd_zero _
  | add _ hx ih => exact Nat.dvd_add ih (gcdL_dvd hx)
theorem gcdL_pos {w : List Int} (hw : Wt w) (h0 : w ≠ []) : 0 < gcdL w := by
  obtain ⟨x, l, rfl⟩ := List.exists_cons_of_ne_nil h0
  have h1 := gcdL_dvd (w := x :: l) (x := x) (by simp)
  have h2 := hw x (by simp)
  rcases Nat.eq_zero_or_pos (gcdL (x :: l)) with e | e
  · rw [e] at h1
    have := Nat.eq_zero_of_zero_dvd h1
    omega
  · exact e
/-- Something that is made up leaves the remainder of z by a. -/
def Rch (w : List Int) (a : Nat) (z : Int) : Prop := ∃ n c, Mk w n c ∧ ((n : Int) - z) % (a : Int) = 0
theorem Rch.add {w : List Int} {a : Nat} {y z : Int} (h : Rch w a y) (k : Rch w a z) : Rch w a (y + z) := by
  obtain ⟨n, c, h1, h2⟩ := h
  obtain ⟨m, d, k1, k2⟩ := k
  refine ⟨n + m, c + d, h1.plus k1, ?_⟩
  have h3 := Int.dvd_of_emod_eq_zero h2
  have h4 := Int.dvd_of_emod_eq_zero k2
  have := Int.dvd_add h3 h4
  refine Int.emod_eq_zero_of_dvd ?_
  rw [show ((n + m : Nat) : Int) - (y + z) = ((n : Int) - y) + ((m : Int) - z) by omega]
  exact this
theorem Rch.neg {w : List Int} {a : Nat} (ha : 0 < a) {z : Int} (h : Rch w a z) : Rch w a (-z) := by
  obtain ⟨n, c, h1, h2⟩ := h
  refine ⟨(a - 1) * n, _, h1.times (a - 1), ?_⟩
  have h3 := Int.dvd_of_emod_eq_zero h2
  refine Int.emod_eq_zero_of_dvd ?_
  have e : (((a - 1) * n : Nat) : Int) - (-z) = (a : Int) * (n : Int) - ((n : Int) - z) := by
    obtain ⟨b, rfl⟩ : ∃ b, a = b + 1 := ⟨a - 1, by omega⟩
    simp only [Nat.add_sub_cancel]
    have : ((b + 1 : Nat) : Int) * (n : Int) = (b : Int) * n + n := by rw [Int.natCast_add, Int.add_mul]; simp
    rw [this, Int.natCast_mul]
    omega
  rw [e]
  exact Int.dvd_sub (Int.dvd_mul_right _ _) h3
theorem Rch.zero (w : List Int) (a : Nat) : Rch w a 0 := ⟨0, 0, .zero, by simp⟩
theorem Rch.mul {w : List Int} {a : Nat} {z : Int} (h : Rch w a z) : ∀ k : Nat, Rch w a ((k : Int) * z)
  | 0 => by simpa using Rch.zero w a
  | k + 1 => by
    have := (Rch.mul h k).add h
    rwa [show ((k + 1 : Nat) : Int) * z = (k : Int) * z + z by rw [Int.natCast_add, Int.add_mul]; simp]
theorem Rch.gcd {w : List Int} {a : Nat} (ha : 0 < a) (m n : Nat) : Rch w a m → Rch w a n → Rch w a (Nat.gcd m n) := by
  induction m, n using Nat.gcd.induction with
  | H0 n => intro _ h; rwa [Nat.gcd_zero_left]
  | H1 m n hm ih =>
    intro h k
    rw [Nat.gcd_rec]
    refine ih ?_ h
    have := k.add ((h.mul (n / m)).neg ha)
    rwa [show (n : Int) + -(((n / m : Nat) : Int) * (m : Int)) = ((n % m : Nat) : Int) from by
      have := Nat.div_add_mod n m
      have e : ((m * (n / m) + n % m : Nat) : Int) = n := by rw [this]
      rw [Int.natCast_add, Int.natCast_mul, Int.mul_comm] at e
      omega] at this
theorem rch_fold {w : List Int} {a : Nat} (ha : 0 < a) : ∀ (ys : List Int) (g : Nat), (∀ x ∈ ys, x ∈ w) → Rch w a g → Rch w a ((ys.foldl (fun g x => Nat.gcd g x.toNat) g : Nat) : Int)
  | [], _, _, h => h
  | y :: ys, g, hm, h => rch_fold ha ys _ (fun x hx => hm x (by simp [hx])) (Rch.gcd ha g y.toNat h ⟨y.toNat, 1, Mk.one (hm y (by simp)), by simp⟩)
/-- Where the measure is 1, every remainder is left by something that is made up. -/
theorem rch_all {w : List Int} {a : Nat} (ha : 0 < a) (hg : gcdL w = 1) (r : Nat) : ∃ n c, Mk w n c ∧ n % a = r % a := by
  have h := rch_fold (w := w) ha w 0 (fun x hx => hx) (Rch.zero w a)
  have h1 : Rch w a 1 := by
    have e : (w.foldl (fun g x => Nat.gcd g x.toNat) 0) = 1 := hg
    rw [e] at h
    simpa using h
  obtain ⟨n, c, hn, e⟩ := h1.mul r
  refine ⟨n, c, hn, ?_⟩
  have h2 := Int.dvd_of_emod_eq_zero e
  obtain ⟨k, hk⟩ := h2
  have h3 : (n : Int) % (a : Int) = (r : Int) % (a : Int) := by
    have : (n : Int) = r + a * k := by omega
    rw [this, Int.add_mul_emod_self_left]
  omega
/-- All above 870 is made up, where the measure is 1. -/
theorem mk_far {w : List Int} (hw : Wt w) (h0 : w ≠ []) (hg : gcdL w = 1) {n : Nat} (hn : 870 ≤ n) : ∃ c, Mk w n c := by
  obtain ⟨x, l, rfl⟩ := List.exists_cons_of_ne_nil h0
  have h2 := hw x (by simp)
  obtain ⟨m, c, hm, e⟩ := rch_all (a := x.toNat) (by omega) hg n
  obtain ⟨m', d, h3, _, h4, h5⟩ := mk_small hw (a := x.toNat) (by omega) (by omega) m c hm
  exact mk_up (x := x) (by simp) (by omega) h3 (by omega) (by rw [h5, e])
end Go.Proofs.Ytlhlcchimammlaa
