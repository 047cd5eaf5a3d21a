import Init
/- Shifts as numbers: which run, and the peak by two scans; no program. -/
namespace Go.Proofs.Ytpkjgnllkaafkaa

/-- A shift: from, to, pay. -/
abbrev Sh := Int × Int × Int
abbrev Ls := List Sh
abbrev sh0 : Sh := (0, 0, 0)

def runB (s : Sh) (m : Int) : Bool := decide (s.1 ≤ m) && decide (m < s.2.1)
theorem runB_iff {s : Sh} {m : Int} : runB s m = true ↔ s.1 ≤ m ∧ m < s.2.1 := by simp [runB]
/-- How many run at a moment. -/
def cnt (l : Ls) (m : Int) : Nat := l.countP fun s => runB s m
theorem cnt_le (l : Ls) (m : Int) : cnt l m ≤ l.length := List.countP_le_length

/-- A scan of moments: the first one with the most. -/
def scan (g : Int → Nat) (cs : List Int) : Int × Nat := cs.foldl (fun a c => if a.2 < g c then (c, g c) else a) (0, 0)
theorem scan_nil (g : Int → Nat) : scan g [] = (0, 0) := rfl
theorem scan_snoc (g : Int → Nat) (cs : List Int) (c : Int) : scan g (cs ++ [c]) = if (scan g cs).2 < g c then (c, g c) else scan g cs := by simp only [scan, List.foldl_append, List.foldl_cons, List.foldl_nil]; rfl

structure IsPk (g : Int → Nat) (cs : List Int) (a : Int × Nat) : Prop where
  top : ∀ c ∈ cs, g c ≤ a.2
  at_ : (a.2 = 0 ∧ a.1 = 0) ∨ (0 < a.2 ∧ a.1 ∈ cs ∧ g a.1 = a.2 ∧ ∀ c ∈ cs, c < a.1 → g c < a.2)

theorem scan_pk' (g : Int → Nat) : ∀ (n : Nat) (cs : List Int), cs.length = n → cs.Pairwise (· ≤ ·) → IsPk g cs (scan g cs)
  | 0, cs, hn, _ => by
    obtain rfl := List.eq_nil_of_length_eq_zero hn
    exact ⟨by simp, .inl ⟨rfl, rfl⟩⟩
  | n + 1, cs, hn, hs => by
    have hne : cs ≠ [] := by intro e; subst e; simp at hn
    obtain ⟨ini, c, rfl⟩ : ∃ ini c, cs = ini ++ [c] := ⟨cs.dropLast, cs.getLast hne, (List.dropLast_concat_getLast hne).symm⟩
    rw [List.pairwise_append] at hs
    obtain ⟨h1, _, h3⟩ := hs
    have ih := scan_pk' g n ini (by simpa using hn) h1
    rw [scan_snoc]
    by_cases h : (scan g ini).2 < g c
    · rw [if_pos h]
      refine ⟨fun x hx => ?_, .inr ⟨by omega, by simp, rfl, fun x hx hlt => ?_⟩⟩
      · rcases List.mem_append.1 hx with hx | hx
        · have := ih.top x hx; show g x ≤ g c; omega
        · simp at hx; subst hx; exact Nat.le_refl _
      · rcases List.mem_append.1 hx with hx | hx
        · have := ih.top x hx; show g x < g c; omega
        · simp at hx; subst hx; exact absurd hlt (by simp)
    · rw [if_neg h]
      refine ⟨fun x hx => ?_, ?_⟩
      · rcases List.mem_append.1 hx with hx | hx
        · exact ih.top x hx
        · simp at hx; subst hx; omega
      · rcases ih.at_ with ⟨e1, e2⟩ | ⟨e1, e2, e3, e4⟩
        · exact .inl ⟨e1, e2⟩
        · refine .inr ⟨e1, List.mem_append.2 (.inl e2), e3, fun x hx hlt => ?_⟩
          rcases List.mem_append.1 hx with hx | hx
          · exact e4 x hx hlt
          · simp at hx; subst hx
            have := h3 _ e2 x (by simp)
            omega
theorem scan_pk (g : Int → Nat) (cs : List Int) (hs : cs.Pairwise (· ≤ ·)) : IsPk g cs (scan g cs) := scan_pk' g _ cs rfl hs
theorem pk_eq {g : Int → Nat} {cs ds : List Int} {a b : Int × Nat} (ha : IsPk g cs a) (hb : IsPk g ds b) (hsub : ∀ c ∈ cs, c ∈ ds)
    (hup : ∀ m ∈ ds, 0 < g m → ∃ c ∈ cs, c ≤ m ∧ g m ≤ g c) : a = b := by
  have e2 : a.2 = b.2 := by
    refine Nat.le_antisymm ?_ ?_
    · rcases ha.at_ with ⟨h, _⟩ | ⟨h, h1, h2, _⟩
      · omega
      · rw [← h2]; exact hb.top _ (hsub _ h1)
    · rcases hb.at_ with ⟨h, _⟩ | ⟨h, h1, h2, _⟩
      · omega
      · obtain ⟨c, hc, _, hg⟩ := hup _ h1 (by omega)
        have := ha.top c hc
        omega
  have e1 : a.1 = b.1 := by
    rcases ha.at_ with ⟨h, h0⟩ | ⟨h, h1, h2, h3⟩ <;> rcases hb.at_ with ⟨k, k0⟩ | ⟨k, k1, k2, k3⟩
    · omega
    · omega
    · omega
    · rcases Int.lt_trichotomy a.1 b.1 with hlt | he | hgt
      · have := k3 _ (hsub _ h1) hlt; omega
      · exact he
      · obtain ⟨c, hc, hcm, hg⟩ := hup _ k1 (by omega)
        have := h3 c hc (by omega)
        omega
  exact Prod.ext e1 e2

/-- At each moment at which some run, one of them began last: then no fewer ran. -/
theorem cnt_start (l : Ls) (m : Int) (h : 0 < cnt l m) : ∃ s ∈ l, s.1 ≤ m ∧ cnt l m ≤ cnt l s.1 := by
  have key : ∀ (k : Ls), (∃ s ∈ k, runB s m = true) → ∃ s ∈ k, runB s m = true ∧ ∀ t ∈ k, runB t m = true → t.1 ≤ s.1 := by
    intro k
    induction k with
    | nil => rintro ⟨s, hs, _⟩; cases hs
    | cons x k ih =>
      intro _
      by_cases hk : ∃ s ∈ k, runB s m = true
      · obtain ⟨s, hs, hr, hm⟩ := ih hk
        by_cases hx : runB x m = true ∧ s.1 < x.1
        · refine ⟨x, by simp, hx.1, fun t ht hr' => ?_⟩
          rcases List.mem_cons.1 ht with rfl | ht
          · exact Int.le_refl _
          · have := hm t ht hr'; omega
        · refine ⟨s, by simp [hs], hr, fun t ht hr' => ?_⟩
          rcases List.mem_cons.1 ht with rfl | ht
          · have : ¬ s.1 < t.1 := fun h => hx ⟨hr', h⟩
            omega
          · exact hm t ht hr'
      · rename_i hx0
        obtain ⟨s, hs, hr⟩ := hx0
        rcases List.mem_cons.1 hs with rfl | hs
        · refine ⟨s, by simp, hr, fun t ht hr' => ?_⟩
          rcases List.mem_cons.1 ht with rfl | ht
          · exact Int.le_refl _
          · exact absurd ⟨t, ht, hr'⟩ hk
        · exact absurd ⟨s, hs, hr⟩ hk
  obtain ⟨s, hs, hr, hm⟩ := key l (by simpa [cnt, List.countP_pos_iff] using h)
  refine ⟨s, hs, (runB_iff.1 hr).1, ?_⟩
  unfold cnt
  refine List.countP_mono_left fun t ht hr' => ?_
  have h1 := hm t ht hr'
  have h2 := runB_iff.1 hr
  have h3 := runB_iff.1 hr'
  exact runB_iff.2 ⟨h1, by omega⟩

def okS (s : Sh) : Bool := decide (0 ≤ s.1) && decide (s.1 < s.2.1) && decide (s.2.1 ≤ 1000) && decide (0 ≤ s.2.2) && decide (s.2.2 ≤ 99)
theorem okS_iff {s : Sh} : okS s = true ↔ 0 ≤ s.1 ∧ s.1 < s.2.1 ∧ s.2.1 ≤ 1000 ∧ 0 ≤ s.2.2 ∧ s.2.2 ≤ 99 := by simp [okS, and_assoc]
/-- The first error of shifts. -/
def errV (l : Ls) : Int := if 12 < l.length then 3 else if l.all okS then 0 else 1
theorem errV_ok {l : Ls} : errV l = 0 ↔ l.length ≤ 12 ∧ ∀ s ∈ l, okS s = true := by
  unfold errV
  split
  · constructor
    · intro h; cases h
    · intro h; omega
  · split
    · rename_i h1 h2
      simp only [List.all_eq_true] at h2
      exact ⟨fun _ => ⟨by omega, h2⟩, fun _ => rfl⟩
    · rename_i h1 h2
      constructor
      · intro h; cases h
      · intro h; exact absurd (by simpa using h.2) h2

/-- The moments 0 to n - 1. -/
def moms (n : Nat) : List Int := (List.range n).map fun k : Nat => (k : Int)
theorem moms_succ (n : Nat) : moms (n + 1) = moms n ++ [(n : Int)] := by simp [moms, List.range_succ]
theorem mem_moms {n : Nat} {m : Int} : m ∈ moms n ↔ 0 ≤ m ∧ m < n := by
  simp only [moms, List.mem_map, List.mem_range]
  constructor
  · rintro ⟨k, hk, rfl⟩; omega
  · intro h; exact ⟨m.toNat, by omega, by omega⟩
theorem moms_sorted (n : Nat) : (moms n).Pairwise (· ≤ ·) := by
  rw [moms, List.pairwise_map]
  exact List.pairwise_lt_range.imp fun h => by omega

/-- The peak by the beginnings in order is the peak by all moments. -/
theorem peak_eq {l : Ls} (ok : ∀ s ∈ l, okS s = true) {cs : List Int} (hp : cs.Perm (l.map (·.1))) (hs : cs.Pairwise (· ≤ ·)) : scan (cnt l) cs = scan (cnt l) (moms 1001) := by
  refine pk_eq (scan_pk _ _ hs) (scan_pk _ _ (moms_sorted _)) ?_ ?_
  · intro c hc
    obtain ⟨s, hm, rfl⟩ := List.mem_map.1 (hp.mem_iff.1 hc)
    have := okS_iff.1 (ok s hm)
    rw [mem_moms]; omega
  · intro m _ h
    obtain ⟨s, hs, h1, h2⟩ := cnt_start l m h
    exact ⟨s.1, hp.mem_iff.2 (List.mem_map.2 ⟨s, hs, rfl⟩), h1, h2⟩
end Go.Proofs.Ytpkjgnllkaafkaa
