/- Mathematics of amounts: which are made up by weights, and by how few. -/
import Derived.Test.YtlhlcchimammlaaRows
namespace Go.Proofs.Ytlhlcchimammlaa

/-- What one more weight does to the smallest number so far. -/
def stepO (f : List Int) (n : Nat) (s x : Int) : Int :=
  if x ≤ (n : Int) ∧ f.getD ((n : Int) - x).toNat (-1) ≠ -1 ∧ (s = -1 ∨ f.getD ((n : Int) - x).toNat (-1) + 1 < s) then f.getD ((n : Int) - x).toNat (-1) + 1 else s
def oneM (w f : List Int) (n : Nat) : Int := w.foldl (stepO f n) (-1)
/-- The smallest numbers of cartridges for the amounts up to some one. -/
def few (w : List Int) : Nat → List Int
  | 0 => [0]
  | n + 1 => few w n ++ [oneM w (few w n) (n + 1)]
theorem few_len (w : List Int) : ∀ n, (few w n).length = n + 1
  | 0 => rfl
  | n + 1 => by simp [few, few_len w n]
def fw (w : List Int) (n : Nat) : Int := (few w n).getD n (-1)
theorem few_at (w : List Int) : ∀ (n k : Nat), k ≤ n → (few w n).getD k (-1) = fw w k
  | 0, k, h => by
    obtain rfl : k = 0 := by omega
    rfl
  | n + 1, k, h => by
    by_cases e : k = n + 1
    · subst e; rfl
    · have ih := few_at w n k (by omega)
      rw [← ih]
      simp only [few, List.getD_eq_getElem?_getD]
      rw [List.getElem?_append_left (by rw [few_len]; omega)]
theorem fw_zero (w : List Int) : fw w 0 = 0 := rfl
theorem fw_succ (w : List Int) (n : Nat) : fw w (n + 1) = oneM w (few w n) (n + 1) := by
  unfold fw
  simp only [few, List.getD_eq_getElem?_getD]
  rw [List.getElem?_append_right (by rw [few_len]; omega), few_len]
  simp

/-- So many cartridges make up an amount. -/
inductive Mk (w : List Int) : Nat → Nat → Prop
  | zero : Mk w 0 0
  | add {n c : Nat} {x : Int} : Mk w n c → x ∈ w → Mk w (n + x.toNat) (c + 1)
/-- Weights: each from 1 to 30. -/
def Wt (w : List Int) : Prop := ∀ x ∈ w, 1 ≤ x ∧ x ≤ 30
theorem Mk.cast {w : List Int} {n n' c c' : Nat} (h : Mk w n c) (hn : n = n') (hc : c = c') : Mk w n' c' := by subst hn; subst hc; exact h
theorem Mk.last {w : List Int} {n c : Nat} (h : Mk w n c) : n = 0 ∧ c = 0 ∨ ∃ m d x, Mk w m d ∧ x ∈ w ∧ n = m + x.toNat ∧ c = d + 1 := by
  cases h with
  | zero => exact .inl ⟨rfl, rfl⟩
  | add h hx => exact .inr ⟨_, _, _, h, hx, rfl, rfl⟩
theorem Mk.one {w : List Int} {x : Int} (hx : x ∈ w) : Mk w x.toNat 1 := (Mk.add .zero hx).cast (by omega) rfl
theorem Mk.plus {w : List Int} {n c m d : Nat} (h : Mk w n c) (k : Mk w m d) : Mk w (n + m) (c + d) := by
  induction k with
  | zero => exact h
  | add _ hx ih => exact (ih.add hx).cast (by omega) (by omega)
theorem Mk.times {w : List Int} {n c : Nat} (h : Mk w n c) : ∀ k : Nat, Mk w (k * n) (k * c)
  | 0 => Mk.zero.cast (by omega) (by omega)
  | k + 1 => ((Mk.times h k).plus h).cast (by rw [Nat.add_mul]; omega) (by rw [Nat.add_mul]; omega)
theorem Mk.mono {v w : List Int} {n c : Nat} (h : Mk v n c) (hs : ∀ x ∈ v, x ∈ w) : Mk w n c := by
  induction h with
  | zero => exact .zero
  | add _ hx ih => exact ih.add (hs _ hx)
theorem Mk.count_le {w : List Int} (hw : Wt w) {n c : Nat} (h : Mk w n c) : c ≤ n ∧ n ≤ 30 * c := by
  induction h with
  | zero => omega
  | add _ hx ih => have := hw _ hx; omega
theorem Mk.of_zero {w : List Int} (hw : Wt w) {c : Nat} (h : Mk w 0 c) : c = 0 := by have := h.count_le hw; omega
theorem Mk.trans {v w : List Int} {n c : Nat} (h : Mk v n c) (hs : ∀ x ∈ v, ∃ d, Mk w x.toNat d) : ∃ d, Mk w n d := by
  induction h with
  | zero => exact ⟨0, .zero⟩
  | add _ hx ih =>
    obtain ⟨d, hd⟩ := ih
    obtain ⟨e, he⟩ := hs _ hx
    exact ⟨_, hd.plus he⟩

/-- v is the smallest number of cartridges for n, or -1. -/
def Least (w : List Int) (n : Nat) (v : Int) : Prop := v = -1 ∧ (∀ c, ¬ Mk w n c) ∨ ∃ c : Nat, v = c ∧ Mk w n c ∧ ∀ d, Mk w n d → c ≤ d
def LeastTo (w ys : List Int) (n : Nat) (s : Int) : Prop :=
  s = -1 ∧ (∀ x ∈ ys, ∀ m c, Mk w m c → m + x.toNat ≠ n) ∨ ∃ c : Nat, s = c ∧ Mk w n c ∧ ∀ x ∈ ys, ∀ m d, Mk w m d → m + x.toNat = n → c ≤ d + 1
theorem LeastTo.step {w ys : List Int} (hw : Wt w) {n : Nat} {s x : Int} (hx : x ∈ w) (h : LeastTo w ys n s) (f : List Int) (hf : ∀ k, k < n → Least w k (f.getD k (-1))) : LeastTo w (ys ++ [x]) n (stepO f n s x) := by
  have hx1 := hw x hx
  unfold stepO
  by_cases hle : x ≤ (n : Int)
  · have hk := hf ((n : Int) - x).toNat (by omega)
    generalize f.getD ((n : Int) - x).toNat (-1) = v at hk ⊢
    rcases hk with ⟨rfl, hno⟩ | ⟨c, rfl, hmk, hmin⟩
    · rw [if_neg (by omega)]
      have hq : ∀ m d, Mk w m d → m + x.toNat ≠ n := fun m d hm e => hno d (hm.cast (by omega) rfl)
      rcases h with ⟨rfl, h⟩ | ⟨c, rfl, h1, h2⟩
      · refine .inl ⟨rfl, fun y hy => ?_⟩
        rcases List.mem_append.1 hy with hy | hy
        · exact h y hy
        · obtain rfl : y = x := by simpa using hy
          exact hq
      · refine .inr ⟨c, rfl, h1, fun y hy => ?_⟩
        rcases List.mem_append.1 hy with hy | hy
        · exact h2 y hy
        · obtain rfl : y = x := by simpa using hy
          exact fun m d hm e => absurd e (hq m d hm)
    · have hn : Mk w n (c + 1) := (hmk.add hx).cast (by omega) rfl
      have hq : ∀ m d, Mk w m d → m + x.toNat = n → c + 1 ≤ d + 1 := fun m d hm e => by have := hmin d (hm.cast (by omega) rfl); omega
      rcases h with ⟨rfl, h⟩ | ⟨c', rfl, h1, h2⟩
      · rw [if_pos ⟨hle, by omega, .inl rfl⟩]
        refine .inr ⟨c + 1, by omega, hn, fun y hy => ?_⟩
        rcases List.mem_append.1 hy with hy | hy
        · exact fun m d hm e => absurd e (h y hy m d hm)
        · obtain rfl : y = x := by simpa using hy
          exact hq
      · by_cases hlt : (c : Int) + 1 < c'
        · rw [if_pos ⟨hle, by omega, .inr hlt⟩]
          refine .inr ⟨c + 1, by omega, hn, fun y hy => ?_⟩
          rcases List.mem_append.1 hy with hy | hy
          · exact fun m d hm e => by have := h2 y hy m d hm e; omega
          · obtain rfl : y = x := by simpa using hy
            exact hq
        · rw [if_neg (by omega)]
          refine .inr ⟨c', rfl, h1, fun y hy => ?_⟩
          rcases List.mem_append.1 hy with hy | hy
          · exact h2 y hy
          · obtain rfl : y = x := by simpa using hy
            exact fun m d hm e => by have := hq m d hm e; omega
  · rw [if_neg (by omega)]
    have hq : ∀ m d, Mk w m d → m + x.toNat ≠ n := fun m d hm e => by omega
    rcases h with ⟨rfl, h⟩ | ⟨c, rfl, h1, h2⟩
    · refine .inl ⟨rfl, fun y hy => ?_⟩
      rcases List.mem_append.1 hy with hy | hy
      · exact h y hy
      · obtain rfl : y = x := by simpa using hy
        exact hq
    · refine .inr ⟨c, rfl, h1, fun y hy => ?_⟩
      rcases List.mem_append.1 hy with hy | hy
      · exact h2 y hy
      · obtain rfl : y = x := by simpa using hy
        exact fun m d hm e => absurd e (hq m d hm)
theorem leastTo_fold {w : List Int} (hw : Wt w) {n : Nat} (f : List Int) (hf : ∀ k, k < n → Least w k (f.getD k (-1))) : ∀ (zs ys : List Int) (s : Int), (∀ x ∈ zs, x ∈ w) → LeastTo w ys n s → LeastTo w (ys ++ zs) n (zs.foldl (stepO f n) s)
  | [], ys, s, _, h => by simpa using h
  | z :: zs, ys, s, hm, h => by
    have := leastTo_fold hw f hf zs (ys ++ [z]) _ (fun x hx => hm x (by simp [hx])) (h.step hw (hm z (by simp)) f hf)
    simpa using this
/-- The table is right. -/
theorem fw_least {w : List Int} (hw : Wt w) (n : Nat) : Least w n (fw w n) := by
  induction n using Nat.strongRecOn with
  | _ n ih =>
    cases n with
    | zero => exact .inr ⟨0, rfl, .zero, fun d _ => Nat.zero_le d⟩
    | succ n =>
      rw [fw_succ]
      have h := leastTo_fold hw (n := n + 1) (few w n) (fun k hk => by rw [few_at w n k (by omega)]; exact ih k hk) w [] (-1) (fun x hx => hx) (.inl ⟨rfl, fun x hx => by simp at hx⟩)
      rw [List.nil_append] at h
      rcases h with ⟨h1, h2⟩ | ⟨c, h1, h2, h3⟩
      · refine .inl ⟨h1, fun c hc => ?_⟩
        rcases hc.last with ⟨e, _⟩ | ⟨m, d, x, hm, hx, e, _⟩
        · omega
        · exact h2 x hx m d hm e.symm
      · refine .inr ⟨c, h1, h2, fun d hd => ?_⟩
        rcases hd.last with ⟨e, _⟩ | ⟨m, d', x, hm, hx, e, rfl⟩
        · omega
        · exact h3 x hx m d' hm e.symm
/-- n is made up. -/
def mu (w : List Int) (n : Nat) : Bool := decide (fw w n ≠ -1)
theorem fw_ge {w : List Int} (hw : Wt w) (n : Nat) : -1 ≤ fw w n ∧ fw w n ≤ n := by
  rcases fw_least hw n with ⟨h, _⟩ | ⟨c, h, hm, _⟩
  · omega
  · have := hm.count_le hw; omega
theorem mu_iff {w : List Int} (hw : Wt w) {n : Nat} : mu w n = true ↔ ∃ c, Mk w n c := by
  unfold mu
  rw [decide_eq_true_eq]
  rcases fw_least hw n with ⟨h, hno⟩ | ⟨c, h, hm, _⟩
  · exact ⟨fun h' => absurd h h', fun ⟨c, hc⟩ => absurd hc (hno c)⟩
  · exact ⟨fun _ => ⟨c, hm⟩, fun _ => by omega⟩
theorem mu_no {w : List Int} (hw : Wt w) {n : Nat} : mu w n = false ↔ ∀ c, ¬ Mk w n c := by
  rw [Bool.eq_false_iff, Ne, mu_iff hw]
  exact ⟨fun h c hc => h ⟨c, hc⟩, fun h ⟨c, hc⟩ => h c hc⟩
theorem fw_pos {w : List Int} (hw : Wt w) {n : Nat} (h : mu w n = true) : ∃ c : Nat, fw w n = c ∧ Mk w n c ∧ ∀ d, Mk w n d → c ≤ d := by
  rcases fw_least hw n with ⟨h1, _⟩ | h1
  · simp [mu, h1] at h
  · exact h1
theorem fw_of {w : List Int} (hw : Wt w) {n c : Nat} (h : Mk w n c) (hmin : ∀ d, Mk w n d → c ≤ d) : fw w n = c := by
  rcases fw_least hw n with ⟨_, hno⟩ | ⟨c', h1, h2, h3⟩
  · exact absurd h (hno c)
  · have := hmin _ h2; have := h3 _ h; omega
theorem fw_no {w : List Int} {n : Nat} (h : mu w n = false) : fw w n = -1 := by
  simpa [mu] using h
end Go.Proofs.Ytlhlcchimammlaa
