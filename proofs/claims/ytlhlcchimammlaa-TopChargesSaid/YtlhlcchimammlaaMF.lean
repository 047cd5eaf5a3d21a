/- Mathematics of amounts: two weights, needless weights, weights that make up the same. -/
import Derived.Test.YtlhlcchimammlaaME
namespace Go.Proofs.Ytlhlcchimammlaa

/-- What two weights make up. -/
theorem two_mk {a b : Int} (ha : 1 ≤ a) (hb : 1 ≤ b) (n : Nat) : (∃ c, Mk [a, b] n c) ↔ ∃ x y : Nat, (n : Int) = x * a + y * b := by
  constructor
  · rintro ⟨c, h⟩
    induction h with
    | zero => exact ⟨0, 0, by simp⟩
    | add _ hx ih =>
      obtain ⟨x, y, e⟩ := ih
      have h' : ∀ z : Nat, ((z + 1 : Nat) : Int) * a = z * a + a := fun z => by rw [Int.natCast_add, Int.add_mul]; simp
      have h'' : ∀ z : Nat, ((z + 1 : Nat) : Int) * b = z * b + b := fun z => by rw [Int.natCast_add, Int.add_mul]; simp
      rcases List.mem_cons.1 hx with rfl | hx
      · exact ⟨x + 1, y, by rw [h']; omega⟩
      · obtain rfl := List.mem_singleton.1 hx
        exact ⟨x, y + 1, by rw [h'']; omega⟩
  · rintro ⟨x, y, e⟩
    refine ⟨_, (((Mk.one (w := [a, b]) (x := a) (by simp)).times x).plus ((Mk.one (w := [a, b]) (x := b) (by simp)).times y)).cast ?_ rfl⟩
    have h1 : ((x * a.toNat : Nat) : Int) = x * a := by rw [Int.natCast_mul, Int.toNat_of_nonneg (by omega)]
    have h2 : ((y * b.toNat : Nat) : Int) = y * b := by rw [Int.natCast_mul, Int.toNat_of_nonneg (by omega)]
    omega
theorem gcd_two {a b : Int} (hg : gcdL [a, b] = 1) : Nat.Coprime a.toNat b.toNat := by
  unfold gcdL at hg
  simpa [Nat.Coprime] using hg
/-- Every number is x a + y b with y from 0 to a - 1. -/
theorem two_rep {a b : Int} (ha : 1 ≤ a) (hb : 1 ≤ b) (hb30 : b ≤ 30) (ha30 : a ≤ 30) (hg : gcdL [a, b] = 1) (z : Int) : ∃ x y : Int, z = x * a + y * b ∧ 0 ≤ y ∧ y < a := by
  have hw : Wt [a, b] := by intro x hx; simp at hx; omega
  obtain ⟨n, c, hn, e⟩ := rch_all (w := [a, b]) (a := a.toNat) (by omega) hg (z % a).toNat
  obtain ⟨x, y, hxy⟩ := (two_mk ha hb n).1 ⟨c, hn⟩
  have hz := Int.emod_nonneg z (b := a) (by omega)
  have e2 : (n : Int) % a = z % a := by
    have h1 : ((n % a.toNat : Nat) : Int) = (((z % a).toNat % a.toNat : Nat) : Int) := by rw [e]
    rw [Int.natCast_emod, Int.natCast_emod, Int.toNat_of_nonneg (by omega : 0 ≤ a), Int.toNat_of_nonneg hz, Int.emod_emod] at h1
    exact h1
  have hy := Int.emod_nonneg (y : Int) (b := a) (by omega)
  have hy2 := Int.emod_lt_of_pos (y : Int) (b := a) (by omega)
  have d1 := Int.mul_ediv_add_emod (y : Int) a
  have d2 := Int.mul_ediv_add_emod (n : Int) a
  have d3 := Int.mul_ediv_add_emod z a
  refine ⟨(x : Int) + (y / a) * b + (z / a - n / a), (y : Int) % a, ?_, hy, hy2⟩
  have k1 : ((x : Int) + (y / a) * b + (z / a - n / a)) * a = x * a + (a * (y / a)) * b + (a * (z / a) - a * (n / a)) := by
    rw [Int.add_mul, Int.add_mul, Int.sub_mul]
    rw [Int.mul_comm (z / a) a, Int.mul_comm ((n : Int) / a) a, Int.mul_right_comm ((y : Int) / a) b a, Int.mul_comm ((y : Int) / a) a]
  have k2 : (y : Int) * b = (a * (y / a)) * b + (y % a) * b := by rw [← Int.add_mul, d1]
  rw [k1]
  omega
/-- With y from 0 to a - 1: it is made up just where x is not negative. -/
theorem two_sign {a b : Int} (ha : 1 ≤ a) (hb : 1 ≤ b) (hg : gcdL [a, b] = 1) {n : Nat} {x y : Int} (h : (n : Int) = x * a + y * b) (h0 : 0 ≤ y) (h1 : y < a) : (∃ c, Mk [a, b] n c) ↔ 0 ≤ x := by
  rw [two_mk ha hb]
  constructor
  · rintro ⟨u, v, e⟩
    -- (v - y) b = (x - u) a: so a divides v - y
    have e1 : ((v : Int) - y) * b = (x - u) * a := by rw [Int.sub_mul, Int.sub_mul]; omega
    have hd : a ∣ ((v : Int) - y) := by
      have h2 : a ∣ ((v : Int) - y) * b := ⟨x - u, by rw [e1, Int.mul_comm]⟩
      have h3 := Int.natAbs_dvd_natAbs.2 h2
      rw [Int.natAbs_mul] at h3
      have h4 := gcd_two hg
      rw [show a.toNat = a.natAbs by omega, show b.toNat = b.natAbs by omega] at h4
      exact Int.natAbs_dvd_natAbs.1 (h4.dvd_of_dvd_mul_right h3)
    obtain ⟨k, hk⟩ := hd
    -- v = y + a k, k ≥ 0
    have hk0 : 0 ≤ k := by
      rcases Int.lt_or_le k 0 with h | h
      · have : a * k ≤ a * (-1) := Int.mul_le_mul_of_nonneg_left (by omega) (by omega)
        omega
      · exact h
    have e2 : (x - u) * a = (k * b) * a := by rw [← e1, hk, Int.mul_assoc, Int.mul_comm]
    have e3 := Int.eq_of_mul_eq_mul_right (by omega) e2
    have := Int.mul_nonneg hk0 (by omega : 0 ≤ b)
    omega
  · intro hx
    exact ⟨x.toNat, y.toNat, by rw [Int.toNat_of_nonneg hx, Int.toNat_of_nonneg h0]; exact h⟩
/-- The counterpart: of n and ab - a - b - n just one is made up. -/
theorem two_flip {a b : Int} (ha : 1 ≤ a) (hb : 1 ≤ b) (ha30 : a ≤ 30) (hb30 : b ≤ 30) (hg : gcdL [a, b] = 1) {n m : Nat} (h : (n : Int) + m = a * b - a - b) : mu [a, b] n = !mu [a, b] m := by
  have hw : Wt [a, b] := by intro x hx; simp at hx; omega
  obtain ⟨x, y, e, h0, h1⟩ := two_rep ha hb hb30 ha30 hg n
  have e2 : (m : Int) = (-1 - x) * a + (a - 1 - y) * b := by
    have k1 : (-1 - x) * a = -a - x * a := by rw [Int.sub_mul]; omega
    have k2 : (a - 1 - y) * b = a * b - b - y * b := by rw [Int.sub_mul, Int.sub_mul]; omega
    omega
  have s1 := two_sign ha hb hg e h0 h1
  have s2 := two_sign ha hb hg e2 (by omega) (by omega)
  rw [← mu_iff hw] at s1 s2
  rw [Bool.eq_iff_iff, s1, Bool.not_eq_true', Bool.eq_false_iff, Ne, s2]
  omega
theorem two_above {a b : Int} (ha : 1 ≤ a) (hb : 1 ≤ b) (ha30 : a ≤ 30) (hb30 : b ≤ 30) (hg : gcdL [a, b] = 1) {n : Nat} (h : a * b - a - b < (n : Int)) : mu [a, b] n = true := by
  have hw : Wt [a, b] := by intro x hx; simp at hx; omega
  obtain ⟨x, y, e, h0, h1⟩ := two_rep ha hb hb30 ha30 hg n
  rw [mu_iff hw, two_sign ha hb hg e h0 h1]
  rcases Int.lt_or_le x 0 with hx | hx
  · exfalso
    have k1 : x * a ≤ (-1) * a := Int.mul_le_mul_of_nonneg_right (by omega) (by omega)
    have k2 : y * b ≤ (a - 1) * b := Int.mul_le_mul_of_nonneg_right (by omega) (by omega)
    rw [Int.sub_mul] at k2
    omega
  · exact hx
theorem two_top {a b : Int} (ha : 1 ≤ a) (hb : 1 ≤ b) (ha30 : a ≤ 30) (hb30 : b ≤ 30) (hg : gcdL [a, b] = 1) : topV [a, b] = a * b - a - b := by
  have hw : Wt [a, b] := by intro x hx; simp at hx; omega
  have hle : a * b ≤ 30 * 30 := Int.le_trans (Int.mul_le_mul_of_nonneg_right ha30 (by omega)) (Int.mul_le_mul_of_nonneg_left hb30 (by omega))
  have hlo : -1 ≤ a * b - a - b := by
    have : 0 ≤ (a - 1) * (b - 1) := Int.mul_nonneg (by omega) (by omega)
    rw [Int.sub_mul, Int.mul_sub, Int.mul_sub] at this
    omega
  have hup : topV [a, b] ≤ a * b - a - b := by
    rcases top_cases [a, b] with ⟨_, h⟩ | h
    · omega
    · obtain ⟨t1, t2, t3⟩ := gap_rng h
      rcases Int.lt_or_le (a * b - a - b) (topV [a, b]) with h' | h'
      · have := two_above ha hb ha30 hb30 hg (n := (topV [a, b]).toNat) (by omega)
        rw [t3] at this
        cases this
      · exact h'
  rcases Int.lt_or_le (a * b - a - b) 0 with h | h
  · rcases top_cases [a, b] with ⟨_, h'⟩ | h'
    · omega
    · have := (gap_rng h').1
      omega
  · have hf := two_flip ha hb ha30 hb30 hg (n := (a * b - a - b).toNat) (m := 0) (by omega)
    have h0 : mu [a, b] 0 = true := (mu_iff hw).2 ⟨0, .zero⟩
    rw [h0] at hf
    have := last_ge (gap_sorted [a, b]) _ ((gap_mem (w := [a, b]) (a * b - a - b).toNat (by omega)).2 hf)
    unfold topV at *
    omega
theorem countP_flip (p : Nat → Bool) (N : Nat) : (List.range N).countP p = (List.range N).countP fun n => p (N - 1 - n) := by
  have h := List.reverse_range' (s := 0) (n := N)
  rw [← List.range_eq_range'] at h
  calc (List.range N).countP p = (List.range N).reverse.countP p := by rw [List.countP_reverse]
    _ = _ := by
      rw [h, List.countP_map]
      congr 1
      funext n
      simp only [Function.comp_apply]
      congr 1
      omega
theorem two_gaps {a b : Int} (ha : 1 ≤ a) (hb : 1 ≤ b) (ha30 : a ≤ 30) (hb30 : b ≤ 30) (hg : gcdL [a, b] = 1) : 2 * ((gapV [a, b]).length : Int) = (a - 1) * (b - 1) := by
  have hle : a * b ≤ 30 * 30 := Int.le_trans (Int.mul_le_mul_of_nonneg_right ha30 (by omega)) (Int.mul_le_mul_of_nonneg_left hb30 (by omega))
  have hF : (a - 1) * (b - 1) = a * b - a - b + 1 := by rw [Int.sub_mul, Int.mul_sub, Int.mul_sub]; omega
  have hlo : 0 ≤ (a - 1) * (b - 1) := Int.mul_nonneg (by omega) (by omega)
  obtain ⟨N, hN⟩ : ∃ N : Nat, (N : Int) = a * b - a - b + 1 := ⟨(a * b - a - b + 1).toNat, by omega⟩
  have e1 : (gapV [a, b]).length = (List.range N).countP fun n => !mu [a, b] n := by
    unfold gapV
    rw [List.length_map, ← List.countP_eq_length_filter]
    rw [show (901 : Nat) = N + (901 - N) by omega, List.range_add, List.countP_append]
    have : ((List.range (901 - N)).map fun x => N + x).countP (fun n => !mu [a, b] n) = 0 := by
      rw [List.countP_eq_zero]
      intro n hn
      obtain ⟨x, _, rfl⟩ := List.mem_map.1 hn
      rw [two_above ha hb ha30 hb30 hg (by omega)]
      simp
    rw [this, Nat.add_zero]
  have e2 : ((List.range N).countP fun n => !mu [a, b] n) = (List.range N).countP fun n => mu [a, b] n := by
    rw [countP_flip]
    refine List.countP_congr fun n hn => ?_
    have hn := List.mem_range.1 hn
    rw [two_flip ha hb ha30 hb30 hg (n := n) (m := N - 1 - n) (by omega)]
  have e3 := List.length_eq_countP_add_countP (fun n => mu [a, b] n) (l := List.range N)
  rw [List.length_range] at e3
  have e4 : ((List.range N).countP fun n => decide ¬mu [a, b] n = true) = (List.range N).countP fun n => !mu [a, b] n := List.countP_congr fun n _ => by simp
  rw [e4, e2] at e3
  rw [e1, e2, hF]
  omega

/-! Needless weights. -/
def sumB (w : List Int) (n : Nat) : Bool := w.any fun x => decide (x < (n : Int)) && mu w ((n : Int) - x).toNat
theorem sumB_iff {w : List Int} (hw : Wt w) {n : Nat} : sumB w n = true ↔ ∃ a b c d, Mk w a c ∧ Mk w b d ∧ 0 < a ∧ 0 < b ∧ a + b = n := by
  unfold sumB
  rw [List.any_eq_true]
  constructor
  · rintro ⟨x, hx, h⟩
    have h1 := hw x hx
    simp only [Bool.and_eq_true, decide_eq_true_eq] at h
    obtain ⟨d, hd⟩ := (mu_iff hw).1 h.2
    exact ⟨x.toNat, _, 1, d, Mk.one hx, hd, by omega, by omega, by omega⟩
  · rintro ⟨a, b, c, d, ha, hb, a0, b0, rfl⟩
    rcases ha.last with ⟨e, _⟩ | ⟨m, c', x, hm, hx, e, _⟩
    · omega
    · have h1 := hw x hx
      refine ⟨x, hx, ?_⟩
      simp only [Bool.and_eq_true, decide_eq_true_eq]
      exact ⟨by omega, (mu_iff hw).2 ⟨_, (hm.plus hb).cast (by omega) rfl⟩⟩
def ndlV (w : List Int) : List Int := w.filter fun x => sumB w x.toNat
def redV (w : List Int) : List Int := w.filter fun x => !sumB w x.toNat
theorem asc_eq : ∀ {l m : List Int}, l.Pairwise (· < ·) → m.Pairwise (· < ·) → (∀ x, x ∈ l ↔ x ∈ m) → l = m
  | [], [], _, _, _ => rfl
  | [], y :: m, _, _, h => by have := (h y).2 (by simp); simp at this
  | x :: l, [], _, _, h => by have := (h x).1 (by simp); simp at this
  | x :: l, y :: m, hl, hm, h => by
    obtain ⟨l1, l2⟩ := List.pairwise_cons.1 hl
    obtain ⟨m1, m2⟩ := List.pairwise_cons.1 hm
    have hxy : x = y := by
      rcases List.mem_cons.1 ((h x).1 (by simp)) with e | h1
      · exact e
      · rcases List.mem_cons.1 ((h y).2 (by simp)) with e | h2
        · exact e.symm
        · have := m1 x h1; have := l1 y h2; omega
    subst hxy
    rw [asc_eq l2 m2 fun z => ?_]
    constructor
    · intro hz
      rcases List.mem_cons.1 ((h z).1 (by simp [hz])) with e | h1
      · subst e; have := l1 z hz; omega
      · exact h1
    · intro hz
      rcases List.mem_cons.1 ((h z).2 (by simp [hz])) with e | h1
      · subst e; have := m1 z hz; omega
      · exact h1
theorem fw_one {w : List Int} (hw : Wt w) {n : Nat} : fw w n = 1 ↔ (n : Int) ∈ w := by
  constructor
  · intro h
    rcases fw_least hw n with ⟨h1, _⟩ | ⟨c, h1, h2, _⟩
    · omega
    · obtain rfl : c = 1 := by omega
      rcases h2.last with ⟨_, e⟩ | ⟨m, d, x, hm, hx, e, e'⟩
      · omega
      · obtain rfl : d = 0 := by omega
        have h3 := hm.count_le hw
        have h4 := hw x hx
        rwa [show (n : Int) = x by omega]
  · intro h
    have h1 := hw _ h
    exact fw_of hw (c := 1) ((Mk.one h).cast (by omega) rfl) fun d hd => by have := hd.count_le hw; omega
/-- Smaller weights make it up. -/
theorem sumB_take {w : List Int} (hw : VW w) {i : Nat} (hi : i < w.length) : sumB w (w.getD i 0).toNat = mu (w.take i) (w.getD i 0).toNat := by
  have hs := hw.2.2.2
  have hwt := hw.wt
  have hx : w.getD i 0 ∈ w := by rw [List.getD_eq_getElem?_getD, List.getElem?_eq_getElem hi]; exact List.getElem_mem _
  have hx1 := hwt _ hx
  have hwi : Wt (w.take i) := fun x h => hwt x (List.mem_of_mem_take h)
  have hlt : ∀ y ∈ w, y < w.getD i 0 → y ∈ w.take i := fun y hy h => by
    obtain ⟨k, hk, e⟩ := List.getElem_of_mem hy
    have hki : k < i := by
      rcases Nat.lt_or_ge k i with h' | h'
      · exact h'
      · exfalso
        rcases Nat.lt_or_ge i k with h2 | h2
        · have := List.pairwise_iff_getElem.1 hs i k hi hk h2
          rw [List.getD_eq_getElem?_getD, List.getElem?_eq_getElem hi] at h
          simp at h
          omega
        · obtain rfl : i = k := by omega
          rw [List.getD_eq_getElem?_getD, List.getElem?_eq_getElem hi] at h
          simp at h
          omega
    rw [← e]
    exact List.mem_take_iff_getElem.2 ⟨k, by omega, rfl⟩
  have hgt : ∀ y ∈ w.take i, y < w.getD i 0 := fun y hy => by
    obtain ⟨k, hk, e⟩ := List.mem_take_iff_getElem.1 hy
    have := List.pairwise_iff_getElem.1 hs k i (by omega) hi (by omega)
    rw [List.getD_eq_getElem?_getD, List.getElem?_eq_getElem hi]
    simp
    omega
  rw [Bool.eq_iff_iff, sumB_iff hwt, mu_iff hwi]
  constructor
  · rintro ⟨a, b, c, d, ha, hb, a0, b0, e⟩
    have key : ∀ {n c : Nat}, Mk w n c → n < (w.getD i 0).toNat → Mk (w.take i) n c := by
      intro n c h
      induction h with
      | zero => exact fun _ => .zero
      | @add n c x h hx' ih =>
        intro hlt'
        have := hwt x hx'
        exact (ih (by omega)).add (hlt x hx' (by omega))
    exact ⟨_, ((key ha (by omega)).plus (key hb (by omega))).cast e rfl⟩
  · rintro ⟨c, hc⟩
    rcases hc.last with ⟨e, _⟩ | ⟨m, d, y, hm, hy, e, _⟩
    · omega
    · have h1 := hgt y hy
      have h2 := hwi y hy
      exact ⟨m, y.toNat, d, 1, hm.mono (fun z hz => List.mem_of_mem_take hz), Mk.one (List.mem_of_mem_take hy), by omega, by omega, e.symm⟩
theorem red_vw {w : List Int} (hw : VW w) : VW (redV w) := by
  obtain ⟨x, l, rfl⟩ := List.exists_cons_of_ne_nil hw.ne
  have h0 : sumB (x :: l) x.toNat = false := by
    have := sumB_take hw (i := 0) (by simp)
    simp at this
    rw [this]
    have hx := hw.wt x (by simp)
    refine (mu_no (w := []) (by intro y hy; simp at hy)).2 fun c hc => ?_
    rcases hc.last with ⟨e, _⟩ | ⟨_, _, y, _, hy, _⟩
    · omega
    · simp at hy
  have hsub : (redV (x :: l)).Sublist (x :: l) := List.filter_sublist
  refine ⟨?_, Nat.le_trans hsub.length_le hw.2.1, fun y hy => hw.wt y (hsub.mem hy), hw.2.2.2.sublist hsub⟩
  unfold redV
  rw [List.filter_cons_of_pos (by simp [h0])]
  simp
/-- The weights that are left make up each weight. -/
theorem red_gen {w : List Int} (hw : Wt w) : ∀ (n c : Nat), Mk w n c → ∃ d, Mk (redV w) n d := by
  intro n
  induction n using Nat.strongRecOn with
  | _ n ih =>
    intro c h
    rcases h.last with ⟨rfl, rfl⟩ | ⟨m, c', x, hm, hx, e, _⟩
    · exact ⟨0, .zero⟩
    · have hx1 := hw x hx
      obtain ⟨d1, h1⟩ := ih m (by omega) _ hm
      cases hs : sumB w x.toNat with
      | false =>
        exact ⟨_, (h1.add (x := x) (List.mem_filter.2 ⟨hx, by simp [hs]⟩)).cast e.symm rfl⟩
      | true =>
        obtain ⟨a, b, c1, c2, ha, hb, a0, b0, eab⟩ := (sumB_iff hw).1 hs
        obtain ⟨d2, h2⟩ := ih a (by omega) _ ha
        obtain ⟨d3, h3⟩ := ih b (by omega) _ hb
        exact ⟨_, (h1.plus (h2.plus h3)).cast (by omega) rfl⟩
theorem red_mu {w : List Int} (hw : VW w) (n : Nat) : mu (redV w) n = mu w n := by
  rw [Bool.eq_iff_iff, mu_iff (red_vw hw).wt, mu_iff hw.wt]
  exact ⟨fun ⟨c, h⟩ => ⟨c, h.mono fun x hx => (List.mem_filter.1 hx).1⟩, fun ⟨c, h⟩ => red_gen hw.wt n c h⟩
theorem red_ndl {w : List Int} (hw : VW w) : ndlV (redV w) = [] := by
  unfold ndlV
  rw [List.filter_eq_nil_iff]
  intro x hx h
  obtain ⟨h1, h2⟩ := List.mem_filter.1 hx
  obtain ⟨a, b, c, d, ha, hb, a0, b0, e⟩ := (sumB_iff (red_vw hw).wt).1 h
  have hsub : ∀ x ∈ redV w, x ∈ w := fun x hx => (List.mem_filter.1 hx).1
  have := (sumB_iff hw.wt).2 ⟨a, b, c, d, ha.mono hsub, hb.mono hsub, a0, b0, e⟩
  simp [this] at h2
/-- The same amounts are made up. -/
def samV (v w : List Int) : Bool := (w.all fun x => mu v x.toNat) && v.all fun x => mu w x.toNat
theorem mk_all {v w : List Int} (hw : Wt w) (h : (v.all fun x => mu w x.toNat) = true) {n c : Nat} (hm : Mk v n c) : ∃ d, Mk w n d :=
  hm.trans fun x hx => (mu_iff hw).1 (List.all_eq_true.1 h x hx)
theorem sam_iff {v w : List Int} (hv : VW v) (hw : VW w) : samV v w = true ↔ ∀ n, mu v n = mu w n := by
  unfold samV
  rw [Bool.and_eq_true]
  constructor
  · rintro ⟨h1, h2⟩ n
    rw [Bool.eq_iff_iff, mu_iff hv.wt, mu_iff hw.wt]
    exact ⟨fun ⟨c, h⟩ => mk_all hw.wt h2 h, fun ⟨c, h⟩ => mk_all hv.wt h1 h⟩
  · intro h
    exact ⟨List.all_eq_true.2 fun x hx => by rw [h]; exact (mu_iff hw.wt).2 ⟨1, Mk.one hx⟩, List.all_eq_true.2 fun x hx => by rw [← h]; exact (mu_iff hv.wt).2 ⟨1, Mk.one hx⟩⟩
theorem sumB_same {v w : List Int} (hv : Wt v) (hw : Wt w) (h : ∀ n, mu v n = mu w n) (n : Nat) : sumB v n = sumB w n := by
  have key : ∀ {v w : List Int}, Wt v → Wt w → (∀ n, mu v n = mu w n) → ∀ n, sumB v n = true → sumB w n = true := by
    intro v w hv hw h n hs
    obtain ⟨a, b, c, d, ha, hb, a0, b0, e⟩ := (sumB_iff hv).1 hs
    obtain ⟨c', ha'⟩ := (mu_iff hw).1 (by rw [← h]; exact (mu_iff hv).2 ⟨c, ha⟩)
    obtain ⟨d', hb'⟩ := (mu_iff hw).1 (by rw [← h]; exact (mu_iff hv).2 ⟨d, hb⟩)
    exact (sumB_iff hw).2 ⟨a, b, c', d', ha', hb', a0, b0, e⟩
  rw [Bool.eq_iff_iff]
  exact ⟨key hv hw h n, key hw hv (fun n => (h n).symm) n⟩
theorem red_atom {w : List Int} (hw : Wt w) {x : Int} : x ∈ redV w ↔ 1 ≤ x ∧ mu w x.toNat = true ∧ sumB w x.toNat = false := by
  unfold redV
  rw [List.mem_filter]
  constructor
  · rintro ⟨h1, h2⟩
    exact ⟨(hw x h1).1, (mu_iff hw).2 ⟨1, Mk.one h1⟩, by simpa using h2⟩
  · rintro ⟨h0, h1, h2⟩
    refine ⟨?_, by simp [h2]⟩
    obtain ⟨c, hc⟩ := (mu_iff hw).1 h1
    rcases hc.last with ⟨e, _⟩ | ⟨m, d, y, hm, hy, e, _⟩
    · omega
    · have hy1 := hw y hy
      rcases Nat.eq_zero_or_pos m with h | h
      · rwa [show x = y by omega]
      · have := (sumB_iff hw).2 ⟨m, y.toNat, d, 1, hm, Mk.one hy, h, by omega, e.symm⟩
        rw [h2] at this
        cases this
theorem sam_red {v w : List Int} (hv : VW v) (hw : VW w) : samV v w = (redV v == redV w) := by
  rw [Bool.eq_iff_iff, sam_iff hv hw, beq_iff_eq]
  constructor
  · intro h
    refine asc_eq (red_vw hv).2.2.2 (red_vw hw).2.2.2 fun x => ?_
    rw [red_atom hv.wt, red_atom hw.wt, h, sumB_same hv.wt hw.wt h]
  · intro h n
    rw [← red_mu hv, ← red_mu hw, h]
theorem sam_redV {w : List Int} (hw : VW w) : samV w (redV w) = true := (sam_iff hw (red_vw hw)).2 fun n => (red_mu hw n).symm

/-! So many times as great. -/
theorem mk_times {w : List Int} (hw : Wt w) {k : Nat} (hk : 1 ≤ k) {n c : Nat} : Mk (w.map fun x => (k : Int) * x) (k * n) c ↔ Mk w n c := by
  have hto : ∀ x : Int, 1 ≤ x → ((k : Int) * x).toNat = k * x.toNat := fun x hx => by
    have : ((k : Int) * x) = ((k * x.toNat : Nat) : Int) := by rw [Int.natCast_mul, Int.toNat_of_nonneg (by omega)]
    rw [this, Int.toNat_natCast]
  constructor
  · intro h
    generalize hN : k * n = N at h
    induction h generalizing n with
    | zero =>
      obtain rfl : n = 0 := by
        rcases Nat.eq_zero_or_pos n with e | e
        · exact e
        · have := Nat.mul_le_mul hk e; omega
      exact .zero
    | add _ hx ih =>
      obtain ⟨x, hx', rfl⟩ := List.mem_map.1 hx
      have h1 := hw x hx'
      rw [hto x h1.1] at hN
      have hle : x.toNat ≤ n := by
        rcases Nat.lt_or_ge n x.toNat with h | h
        · have := Nat.mul_lt_mul_of_pos_left h (show 0 < k by omega); omega
        · exact h
      have e : k * (n - x.toNat) = k * n - k * x.toNat := Nat.mul_sub _ _ _
      exact ((ih (n := n - x.toNat) (by omega)).add hx').cast (by omega) rfl
  · intro h
    induction h with
    | zero => exact Mk.zero.cast (by simp) rfl
    | add _ hx ih =>
      have h1 := hw _ hx
      exact (ih.add (List.mem_map.2 ⟨_, hx, rfl⟩)).cast (by rw [hto _ h1.1, Nat.mul_add]) rfl
theorem fw_times {w : List Int} (hw : Wt w) {k : Nat} (hk : 1 ≤ k) (hw' : Wt (w.map fun x => (k : Int) * x)) (n : Nat) : fw (w.map fun x => (k : Int) * x) (k * n) = fw w n := by
  rcases fw_least hw n with ⟨h, hno⟩ | ⟨c, h, hm, hmin⟩
  · rw [h]
    exact fw_no ((mu_no hw').2 fun c hc => hno c ((mk_times hw hk).1 hc))
  · rw [h]
    exact fw_of hw' ((mk_times hw hk).2 hm) fun d hd => hmin d ((mk_times hw hk).1 hd)
end Go.Proofs.Ytlhlcchimammlaa
