import Init
/- The mathematics of shifts: peaks, sorting, rests, sets, rosters, spells; no program. -/
/- MathA -/
namespace Go.Proofs.Ytpkjgnllkaafkaa

/-- A shift: from, to, pay. -/
abbrev Sh := Int × Int × Int
abbrev Ls := List Sh
abbrev sh0 : Sh := (0, 0, 0)

def runB (s : Sh) (m : Int) : Bool := decide (s.1 ≤ m) && decide (m < s.2.1)
theorem runB_iff {s : Sh} {m : Int} : runB s m = true ↔ s.1 ≤ m ∧ m < s.2.1 := by simp [runB]
/-- How many run at a moment. -/
def cnt (l : Ls) (m : Int) : Nat := l.countP fun s => runB s m
theorem cnt_le (l : Ls) (m : Int) : cnt l m ≤ l.length := List.countP_le_length

/-- A scan of moments: the first one with the most. -/
def scan (g : Int → Nat) (cs : List Int) : Int × Nat := cs.foldl (fun a c => if a.2 < g c then (c, g c) else a) (0, 0)
theorem scan_nil (g : Int → Nat) : scan g [] = (0, 0) := rfl
theorem scan_snoc (g : Int → Nat) (cs : List Int) (c : Int) : scan g (cs ++ [c]) = if (scan g cs).2 < g c then (c, g c) else scan g cs := by simp only [scan, List.foldl_append, List.foldl_cons, List.foldl_nil]; rfl

structure IsPk (g : Int → Nat) (cs : List Int) (a : Int × Nat) : Prop where
  top : ∀ c ∈ cs, g c ≤ a.2
  at_ : (a.2 = 0 ∧ a.1 = 0) ∨ (0 < a.2 ∧ a.1 ∈ cs ∧ g a.1 = a.2 ∧ ∀ c ∈ cs, c < a.1 → g c < a.2)

theorem scan_pk' (g : Int → Nat) : ∀ (n : Nat) (cs : List Int), cs.length = n → cs.Pairwise (· ≤ ·) → IsPk g cs (scan g cs)
  | 0, cs, hn, _ => by
    obtain rfl := List.eq_nil_of_length_eq_zero hn
    exact ⟨by simp, .inl ⟨rfl, rfl⟩⟩
  | n + 1, cs, hn, hs => by
    have hne : cs ≠ [] := by intro e; subst e; simp at hn
    obtain ⟨ini, c, rfl⟩ : ∃ ini c, cs = ini ++ [c] := ⟨cs.dropLast, cs.getLast hne, (List.dropLast_concat_getLast hne).symm⟩
    rw [List.pairwise_append] at hs
    obtain ⟨h1, _, h3⟩ := hs
    have ih := scan_pk' g n ini (by simpa using hn) h1
    rw [scan_snoc]
    by_cases h : (scan g ini).2 < g c
    · rw [if_pos h]
      refine ⟨fun x hx => ?_, .inr ⟨by omega, by simp, rfl, fun x hx hlt => ?_⟩⟩
      · rcases List.mem_append.1 hx with hx | hx
        · have := ih.top x hx; show g x ≤ g c; omega
        · simp at hx; subst hx; exact Nat.le_refl _
      · rcases List.mem_append.1 hx with hx | hx
        · have := ih.top x hx; show g x < g c; omega
        · simp at hx; subst hx; exact absurd hlt (by simp)
    · rw [if_neg h]
      refine ⟨fun x hx => ?_, ?_⟩
      · rcases List.mem_append.1 hx with hx | hx
        · exact ih.top x hx
        · simp at hx; subst hx; omega
      · rcases ih.at_ with ⟨e1, e2⟩ | ⟨e1, e2, e3, e4⟩
        · exact .inl ⟨e1, e2⟩
        · refine .inr ⟨e1, List.mem_append.2 (.inl e2), e3, fun x hx hlt => ?_⟩
          rcases List.mem_append.1 hx with hx | hx
          · exact e4 x hx hlt
          · simp at hx; subst hx
            have := h3 _ e2 x (by simp)
            omega
theorem scan_pk (g : Int → Nat) (cs : List Int) (hs : cs.Pairwise (· ≤ ·)) : IsPk g cs (scan g cs) := scan_pk' g _ cs rfl hs
theorem pk_eq {g : Int → Nat} {cs ds : List Int} {a b : Int × Nat} (ha : IsPk g cs a) (hb : IsPk g ds b) (hsub : ∀ c ∈ cs, c ∈ ds)
    (hup : ∀ m ∈ ds, 0 < g m → ∃ c ∈ cs, c ≤ m ∧ g m ≤ g c) : a = b := by
  have e2 : a.2 = b.2 := by
    refine Nat.le_antisymm ?_ ?_
    · rcases ha.at_ with ⟨h, _⟩ | ⟨h, h1, h2, _⟩
      · omega
      · rw [← h2]; exact hb.top _ (hsub _ h1)
    · rcases hb.at_ with ⟨h, _⟩ | ⟨h, h1, h2, _⟩
      · omega
      · obtain ⟨c, hc, _, hg⟩ := hup _ h1 (by omega)
        have := ha.top c hc
        omega
  have e1 : a.1 = b.1 := by
    rcases ha.at_ with ⟨h, h0⟩ | ⟨h, h1, h2, h3⟩ <;> rcases hb.at_ with ⟨k, k0⟩ | ⟨k, k1, k2, k3⟩
    · omega
    · omega
    · omega
    · rcases Int.lt_trichotomy a.1 b.1 with hlt | he | hgt
      · have := k3 _ (hsub _ h1) hlt; omega
      · exact he
      · obtain ⟨c, hc, hcm, hg⟩ := hup _ k1 (by omega)
        have := h3 c hc (by omega)
        omega
  exact Prod.ext e1 e2

/-- At each moment at which some run, one of them began last: then no fewer ran. -/
theorem cnt_start (l : Ls) (m : Int) (h : 0 < cnt l m) : ∃ s ∈ l, s.1 ≤ m ∧ cnt l m ≤ cnt l s.1 := by
  have key : ∀ (k : Ls), (∃ s ∈ k, runB s m = true) → ∃ s ∈ k, runB s m = true ∧ ∀ t ∈ k, runB t m = true → t.1 ≤ s.1 := by
    intro k
    induction k with
    | nil => rintro ⟨s, hs, _⟩; cases hs
    | cons x k ih =>
      intro _
      by_cases hk : ∃ s ∈ k, runB s m = true
      · obtain ⟨s, hs, hr, hm⟩ := ih hk
        by_cases hx : runB x m = true ∧ s.1 < x.1
        · refine ⟨x, by simp, hx.1, fun t ht hr' => ?_⟩
          rcases List.mem_cons.1 ht with rfl | ht
          · exact Int.le_refl _
          · have := hm t ht hr'; omega
        · refine ⟨s, by simp [hs], hr, fun t ht hr' => ?_⟩
          rcases List.mem_cons.1 ht with rfl | ht
          · have : ¬ s.1 < t.1 := fun h => hx ⟨hr', h⟩
            omega
          · exact hm t ht hr'
      · rename_i hx0
        obtain ⟨s, hs, hr⟩ := hx0
        rcases List.mem_cons.1 hs with rfl | hs
        · refine ⟨s, by simp, hr, fun t ht hr' => ?_⟩
          rcases List.mem_cons.1 ht with rfl | ht
          · exact Int.le_refl _
          · exact absurd ⟨t, ht, hr'⟩ hk
        · exact absurd ⟨s, hs, hr⟩ hk
  obtain ⟨s, hs, hr, hm⟩ := key l (by simpa [cnt, List.countP_pos_iff] using h)
  refine ⟨s, hs, (runB_iff.1 hr).1, ?_⟩
  unfold cnt
  refine List.countP_mono_left fun t ht hr' => ?_
  have h1 := hm t ht hr'
  have h2 := runB_iff.1 hr
  have h3 := runB_iff.1 hr'
  exact runB_iff.2 ⟨h1, by omega⟩

def okS (s : Sh) : Bool := decide (0 ≤ s.1) && decide (s.1 < s.2.1) && decide (s.2.1 ≤ 1000) && decide (0 ≤ s.2.2) && decide (s.2.2 ≤ 99)
theorem okS_iff {s : Sh} : okS s = true ↔ 0 ≤ s.1 ∧ s.1 < s.2.1 ∧ s.2.1 ≤ 1000 ∧ 0 ≤ s.2.2 ∧ s.2.2 ≤ 99 := by simp [okS, and_assoc]
/-- The first error of shifts. -/
def errV (l : Ls) : Int := if 12 < l.length then 3 else if l.all okS then 0 else 1
theorem errV_ok {l : Ls} : errV l = 0 ↔ l.length ≤ 12 ∧ ∀ s ∈ l, okS s = true := by
  unfold errV
  split
  · constructor
    · intro h; cases h
    · intro h; omega
  · split
    · rename_i h1 h2
      simp only [List.all_eq_true] at h2
      exact ⟨fun _ => ⟨by omega, h2⟩, fun _ => rfl⟩
    · rename_i h1 h2
      constructor
      · intro h; cases h
      · intro h; exact absurd (by simpa using h.2) h2

/-- The moments 0 to n - 1. -/
def moms (n : Nat) : List Int := (List.range n).map fun k : Nat => (k : Int)
theorem moms_succ (n : Nat) : moms (n + 1) = moms n ++ [(n : Int)] := by simp [moms, List.range_succ]
theorem mem_moms {n : Nat} {m : Int} : m ∈ moms n ↔ 0 ≤ m ∧ m < n := by
  simp only [moms, List.mem_map, List.mem_range]
  constructor
  · rintro ⟨k, hk, rfl⟩; omega
  · intro h; exact ⟨m.toNat, by omega, by omega⟩
theorem moms_sorted (n : Nat) : (moms n).Pairwise (· ≤ ·) := by
  rw [moms, List.pairwise_map]
  exact List.pairwise_lt_range.imp fun h => by omega

/-- The peak by the beginnings in order is the peak by all moments. -/
theorem peak_eq {l : Ls} (ok : ∀ s ∈ l, okS s = true) {cs : List Int} (hp : cs.Perm (l.map (·.1))) (hs : cs.Pairwise (· ≤ ·)) : scan (cnt l) cs = scan (cnt l) (moms 1001) := by
  refine pk_eq (scan_pk _ _ hs) (scan_pk _ _ (moms_sorted _)) ?_ ?_
  · intro c hc
    obtain ⟨s, hm, rfl⟩ := List.mem_map.1 (hp.mem_iff.1 hc)
    have := okS_iff.1 (ok s hm)
    rw [mem_moms]; omega
  · intro m _ h
    obtain ⟨s, hs, h1, h2⟩ := cnt_start l m h
    exact ⟨s.1, hp.mem_iff.2 (List.mem_map.2 ⟨s, hs, rfl⟩), h1, h2⟩
end Go.Proofs.Ytpkjgnllkaafkaa

/- MathB -/
namespace Go.Proofs.Ytpkjgnllkaafkaa

/-- A shift with its number. -/
abbrev Nm := Int × Int × Int × Int
abbrev nm0 : Nm := (0, 0, 0, 0)
abbrev Ns := List Nm
def gt (L : Ns) (k : Nat) : Nm := L.getD k nm0
/-- The elements at j - 1 and j exchanged. -/
def swp (L : Ns) (j : Nat) : Ns := (L.set j (gt L (j - 1))).set (j - 1) (gt L j)
theorem swp_len (L : Ns) (j : Nat) : (swp L j).length = L.length := by simp [swp]
theorem swp_perm {L : Ns} {j : Nat} (h0 : 0 < j) (hj : j < L.length) : (swp L j).Perm L := by
  have e1 : gt L (j - 1) = L[j - 1] := by simp [gt, List.getD_eq_getElem?_getD, show j - 1 < L.length by omega]
  have e2 : gt L j = L[j] := by simp [gt, List.getD_eq_getElem?_getD, hj]
  rw [swp, e1, e2]
  exact List.set_set_perm hj (by omega)
theorem gt_swp {L : Ns} {j k : Nat} (h0 : 0 < j) (hj : j < L.length) : gt (swp L j) k = if k = j then gt L (j - 1) else if k = j - 1 then gt L j else gt L k := by
  unfold swp gt
  simp only [List.getD_eq_getElem?_getD, List.getElem?_set, List.length_set]
  by_cases h1 : k = j - 1
  · subst h1
    rw [if_pos rfl, if_pos (by omega), if_neg (by omega), if_pos rfl]; rfl
  · rw [if_neg (Ne.symm h1), if_neg h1]
    by_cases h2 : k = j
    · subst h2; rw [if_pos rfl, if_pos hj, if_pos rfl]; rfl
    · rw [if_neg (Ne.symm h2), if_neg h2]

/-- The first i + 1 are in order but for the one at j. -/
def Near (key : Nm → Int) (L : Ns) (i j : Nat) : Prop := ∀ a b, a < b → b ≤ i → b ≠ j → key (gt L a) ≤ key (gt L b)
/-- The first i are in order. -/
def Upto (key : Nm → Int) (L : Ns) (i : Nat) : Prop := ∀ a b, a < b → b < i → key (gt L a) ≤ key (gt L b)
theorem near_start {key : Nm → Int} {L : Ns} {i : Nat} (h : Upto key L i) : Near key L i i := fun a b h1 h2 h3 => h a b h1 (by omega)
theorem near_swp {key : Nm → Int} {L : Ns} {i j : Nat} (h : Near key L i j) (h0 : 0 < j) (hj : j ≤ i) (hi : i < L.length) (hc : key (gt L j) < key (gt L (j - 1))) : Near key (swp L j) i (j - 1) := by
  intro a b h1 h2 h3
  rw [gt_swp h0 (by omega), gt_swp h0 (by omega)]
  by_cases hb : b = j
  · subst hb
    rw [if_pos rfl, if_neg (by omega)]
    by_cases ha : a = b - 1
    · rw [if_pos ha]; omega
    · rw [if_neg ha]; exact h a (b - 1) (by omega) (by omega) (by omega)
  · rw [if_neg hb, if_neg h3]
    by_cases ha : a = j
    · rw [if_pos ha]; exact h (j - 1) b (by omega) h2 hb
    · rw [if_neg ha]
      by_cases ha2 : a = j - 1
      · rw [if_pos ha2]; exact h j b (by omega) h2 hb
      · rw [if_neg ha2]; exact h a b h1 h2 hb
theorem near_stop {key : Nm → Int} {L : Ns} {i j : Nat} (h : Near key L i j) (hj : j ≤ i) (hc : j = 0 ∨ key (gt L (j - 1)) ≤ key (gt L j)) : Upto key L (i + 1) := by
  intro a b h1 h2
  by_cases hb : b = j
  · subst hb
    rcases hc with hc | hc
    · omega
    · by_cases ha : a = b - 1
      · rw [ha]; exact hc
      · have := h a (b - 1) (by omega) (by omega) (by omega); omega
  · exact h a b h1 (by omega) hb
theorem upto_one (key : Nm → Int) (L : Ns) {i : Nat} (h : i ≤ 1) : Upto key L i := fun a b h1 h2 => by omega
theorem upto_sorted {key : Nm → Int} {L : Ns} (h : Upto key L L.length) : L.Pairwise fun x y => key x ≤ key y := by
  rw [List.pairwise_iff_getElem]
  intro a b ha hb hab
  have := h a b hab hb
  simpa [gt, List.getD_eq_getElem?_getD, ha, hb] using this

/-- The shifts with their numbers. -/
def num (l : Ls) : Ns := (List.range l.length).map fun i => ((l.getD i sh0).1, (l.getD i sh0).2.1, (l.getD i sh0).2.2, (i : Int))
def kf (x : Nm) : Int := x.1
def kt (x : Nm) : Int := x.2.1
theorem num_len (l : Ls) : (num l).length = l.length := by simp [num]
theorem gt_num {l : Ls} {k : Nat} (h : k < l.length) : gt (num l) k = ((l.getD k sh0).1, (l.getD k sh0).2.1, (l.getD k sh0).2.2, (k : Int)) := by
  simp [gt, num, List.getD_eq_getElem?_getD, h]
theorem num_from (l : Ls) : (num l).map kf = l.map (·.1) := by
  apply List.ext_getElem
  · simp [num]
  · intro i h1 h2
    simp [num, kf, List.getD_eq_getElem?_getD, show i < l.length by simpa [num] using h1]
/-- A row of the shifts with their numbers, in the order of a key. -/
structure Ord (key : Nm → Int) (l : Ls) (L : Ns) : Prop where
  perm : L.Perm (num l)
  sorted : L.Pairwise fun x y => key x ≤ key y
theorem Ord.len {key : Nm → Int} {l : Ls} {L : Ns} (h : Ord key l L) : L.length = l.length := by rw [h.perm.length_eq, num_len]
theorem peak_ord {l : Ls} (ok : ∀ s ∈ l, okS s = true) {L : Ns} (h : Ord kf l L) : scan (cnt l) (L.map kf) = scan (cnt l) (moms 1001) := by
  refine peak_eq ok ?_ ?_
  · rw [← num_from]; exact h.perm.map _
  · rw [List.pairwise_map]; exact h.sorted
end Go.Proofs.Ytpkjgnllkaafkaa

/- MathC -/
namespace Go.Proofs.Ytpkjgnllkaafkaa

theorem perm_sum {a b : List Int} (h : a.Perm b) : a.sum = b.sum := by
  induction h with
  | nil => rfl
  | cons x _ ih => simp only [List.sum_cons, ih]
  | swap x y l => simp only [List.sum_cons]; omega
  | trans _ _ ih1 ih2 => rw [ih1, ih2]
def ovB (x y : Sh) : Bool := decide (x.1 < y.2.1) && decide (y.1 < x.2.1)
theorem ovB_iff {x y : Sh} : ovB x y = true ↔ x.1 < y.2.1 ∧ y.1 < x.2.1 := by simp [ovB]
theorem ovB_comm (x y : Sh) : ovB x y = ovB y x := by simp [ovB, Bool.and_comm]
def shOf (x : Nm) : Sh := (x.1, x.2.1, x.2.2.1)
/-- Posts: a moment and a pay each. -/
abbrev Pst := Int × Int
def paidBy (P : List Pst) (s : Sh) : Int := (P.map fun p => if runB s p.1 then p.2 else 0).sum
def total (P : List Pst) : Int := (P.map (·.2)).sum
theorem paidBy_app (P Q : List Pst) (s : Sh) : paidBy (P ++ Q) s = paidBy P s + paidBy Q s := by simp [paidBy]
theorem total_app (P Q : List Pst) : total (P ++ Q) = total P + total Q := by simp [total]
theorem paidBy_nonneg {P : List Pst} (h : ∀ p ∈ P, 0 ≤ p.2) (s : Sh) : 0 ≤ paidBy P s := by
  induction P with
  | nil => simp [paidBy]
  | cons p P ih =>
    have h1 := ih fun q hq => h q (by simp [hq])
    have h2 := h p (by simp)
    simp only [paidBy, List.map_cons, List.sum_cons] at h1 ⊢
    split <;> omega
/-- No two run at a common moment. -/
def Alone (S : Ls) : Prop := S.Pairwise fun x y => ovB x y = false
theorem sum_one {S : Ls} (ha : Alone S) (m v : Int) (hv : 0 ≤ v) : (S.map fun s => if runB s m then v else 0).sum ≤ v ∧ 0 ≤ (S.map fun s => if runB s m then v else 0).sum ∧ ((∀ s ∈ S, runB s m = false) → (S.map fun s => if runB s m then v else 0).sum = 0) := by
  induction S with
  | nil => simp; exact hv
  | cons s S ih =>
    rw [Alone, List.pairwise_cons] at ha
    obtain ⟨h1, h2, h3⟩ := ih ha.2
    simp only [List.map_cons, List.sum_cons]
    by_cases hr : runB s m = true
    · have : ∀ t ∈ S, runB t m = false := by
        intro t ht
        have := ha.1 t ht
        rw [Bool.eq_false_iff] at this ⊢
        intro hm
        refine this (ovB_iff.2 ?_)
        have e1 := runB_iff.1 hr
        have e2 := runB_iff.1 hm
        omega
      rw [h3 this, if_pos hr]
      exact ⟨by omega, by omega, fun h => by rw [h s (by simp)] at hr; cases hr⟩
    · rw [if_neg hr]
      exact ⟨by omega, by omega, fun h => by rw [h3 fun t ht => h t (by simp [ht])]; rfl⟩
def paySum (S : Ls) : Int := (S.map (·.2.2)).sum
theorem paid_le {P : List Pst} (hP : ∀ p ∈ P, 0 ≤ p.2) {S : Ls} (ha : Alone S) : (S.map (paidBy P)).sum ≤ total P := by
  induction P with
  | nil =>
    have : (S.map (paidBy [])).sum = 0 := by
      induction S with
      | nil => rfl
      | cons s S ih =>
        rw [Alone, List.pairwise_cons] at ha
        simp only [List.map_cons, List.sum_cons, ih ha.2]
        rfl
    rw [this]; exact Int.le_refl _
  | cons p P ih =>
    have h1 := ih fun q hq => hP q (by simp [hq])
    have h2 := (sum_one ha p.1 p.2 (hP p (by simp))).1
    have e : (S.map (paidBy (p :: P))).sum = (S.map fun s => if runB s p.1 then p.2 else 0).sum + (S.map (paidBy P)).sum := by
      clear h1 h2 ha ih
      induction S with
      | nil => rfl
      | cons s S ih =>
        simp only [List.map_cons, List.sum_cons, ih]
        simp only [paidBy, List.map_cons, List.sum_cons]
        omega
    rw [e]
    simp only [total, List.map_cons, List.sum_cons] at h1 ⊢
    omega
theorem sum_le {S : Ls} {f g : Sh → Int} (h : ∀ s ∈ S, f s ≤ g s) : (S.map f).sum ≤ (S.map g).sum := by
  induction S with
  | nil => exact Int.le_refl _
  | cons s S ih =>
    have h1 := ih fun t ht => h t (by simp [ht])
    have h2 := h s (by simp)
    simp only [List.map_cons, List.sum_cons]
    omega
/-- Whatever pays all pays at least what a set that is alone earns. -/
theorem weak {P : List Pst} (hP : ∀ p ∈ P, 0 ≤ p.2) {S : Ls} (ha : Alone S) (hc : ∀ s ∈ S, s.2.2 ≤ paidBy P s) : paySum S ≤ total P :=
  Int.le_trans (sum_le hc) (paid_le hP ha)

/-- A rest: the shift, and what is left of its pay. -/
abbrev Rs := Nm × Int
def overSum (R : List Rs) (s : Nm) : Int := (R.map fun b => if ovB (shOf b.1) (shOf s) then b.2 else 0).sum
def restF (R : List Rs) (s : Nm) : List Rs := if 0 < s.2.2.1 - overSum R s then R ++ [(s, s.2.2.1 - overSum R s)] else R
def rsts (L : Ns) : List Rs := L.foldl restF []
theorem rsts_snoc (L : Ns) (s : Nm) : rsts (L ++ [s]) = restF (rsts L) s := by simp [rsts]
def pstOf (b : Rs) : Pst := (b.1.2.1 - 1, b.2)
def okN (x : Nm) : Prop := 0 ≤ x.1 ∧ x.1 < x.2.1 ∧ x.2.1 ≤ 1000 ∧ 0 ≤ x.2.2.1 ∧ x.2.2.1 ≤ 99
/-- Each rest is what those before it leave; the last one first. -/
def Rst : List Rs → Prop
  | [] => True
  | c :: R => c.1.2.2.1 = c.2 + overSum R c.1 ∧ 0 < c.2 ∧ (∀ b ∈ R, b.1.2.1 ≤ c.1.2.1) ∧ okN c.1 ∧ Rst R
theorem overSum_rev (R : List Rs) (s : Nm) : overSum R.reverse s = overSum R s := by
  unfold overSum
  exact perm_sum (List.Perm.map _ (List.reverse_perm R))
theorem over_paid {R : List Rs} {s : Nm} (hR : ∀ b ∈ R, okN b.1 ∧ b.1.2.1 ≤ s.2.1) : overSum R s = paidBy (R.map pstOf) (shOf s) := by
  induction R with
  | nil => rfl
  | cons b R ih =>
    have h1 := ih fun c hc => hR c (by simp [hc])
    obtain ⟨h2, h3⟩ := hR b (by simp)
    simp only [overSum, paidBy, List.map_cons, List.sum_cons] at h1 ⊢
    rw [h1]
    have : ovB (shOf b.1) (shOf s) = runB (shOf s) (pstOf b).1 := by
      rw [Bool.eq_iff_iff, ovB_iff, runB_iff]
      unfold okN at h2
      simp only [shOf, pstOf]
      omega
    rw [this]
    rfl
structure RstsOf (L : Ns) (R : List Rs) : Prop where
  sub : (R.map (·.1)).Sublist L
  rst : Rst R.reverse
  pays : ∀ s ∈ L, s.2.2.1 ≤ paidBy (R.map pstOf) (shOf s)
theorem Rst.all : ∀ {R : List Rs}, Rst R → ∀ b ∈ R, 0 < b.2 ∧ okN b.1
  | [], _, b, hb => by cases hb
  | c :: R, h, b, hb => by
    obtain ⟨h1, h2, h3, h4, h5⟩ := h
    rcases List.mem_cons.1 hb with rfl | hb
    · exact ⟨h2, h4⟩
    · exact Rst.all h5 b hb
theorem rsts_of' : ∀ (n : Nat) (L : Ns), L.length = n → (L.Pairwise fun x y => kt x ≤ kt y) → (∀ s ∈ L, okN s) → RstsOf L (rsts L)
  | 0, L, hn, _, _ => by
    obtain rfl := List.eq_nil_of_length_eq_zero hn
    exact ⟨by simp [rsts], trivial, by simp⟩
  | n + 1, L, hn, hs, hok => by
    have hne : L ≠ [] := by intro e; subst e; simp at hn
    obtain ⟨L, s, rfl⟩ : ∃ ini c, L = ini ++ [c] := ⟨L.dropLast, L.getLast hne, (List.dropLast_concat_getLast hne).symm⟩
    rw [List.pairwise_append] at hs
    obtain ⟨h1, _, h3⟩ := hs
    have ih := rsts_of' n L (by simpa using hn) h1 fun x hx => hok x (by simp [hx])
    have hs0 := hok s (by simp)
    have hbs : ∀ b ∈ rsts L, okN b.1 ∧ b.1.2.1 ≤ s.2.1 := by
      intro b hb
      have hm : b.1 ∈ L := ih.sub.subset (List.mem_map.2 ⟨b, hb, rfl⟩)
      exact ⟨hok _ (by simp [hm]), h3 _ hm s (by simp)⟩
    have hov := over_paid hbs
    rw [rsts_snoc]
    unfold restF
    by_cases h : 0 < s.2.2.1 - overSum (rsts L) s
    · rw [if_pos h]
      refine ⟨?_, ?_, ?_⟩
      · rw [List.map_append]; exact ih.sub.append (List.Sublist.refl _)
      · rw [List.reverse_append]
        refine ⟨?_, h, fun b hb => (hbs b (by simpa using hb)).2, hs0, ih.rst⟩
        show s.2.2.1 = s.2.2.1 - overSum (rsts L) s + overSum (rsts L).reverse s
        rw [overSum_rev]; omega
      · intro x hx
        rw [List.map_append, paidBy_app]
        have hself : paidBy ([(s, s.2.2.1 - overSum (rsts L) s)].map pstOf) (shOf s) = s.2.2.1 - overSum (rsts L) s := by
          have : runB (shOf s) (s.2.1 - 1) = true := by rw [runB_iff]; unfold okN at hs0; simp only [shOf]; omega
          simp [paidBy, pstOf, this]
        have hnn : 0 ≤ paidBy ([(s, s.2.2.1 - overSum (rsts L) s)].map pstOf) (shOf x) := by
          refine paidBy_nonneg ?_ _
          intro p hp
          simp only [List.map_cons, List.map_nil, List.mem_singleton] at hp
          subst hp
          simp only [pstOf]; omega
        rcases List.mem_append.1 hx with hx | hx
        · have := ih.pays x hx; omega
        · simp at hx; subst hx; omega
    · rw [if_neg h]
      refine ⟨?_, ih.rst, ?_⟩
      · exact ih.sub.trans (List.sublist_append_left L [s])
      · intro x hx
        rcases List.mem_append.1 hx with hx | hx
        · exact ih.pays x hx
        · simp at hx; subst hx; omega
theorem rsts_of {L : Ns} (hs : L.Pairwise fun x y => kt x ≤ kt y) (hok : ∀ s ∈ L, okN s) : RstsOf L (rsts L) := rsts_of' _ L rfl hs hok

/-- The rests that are chosen, the last one first. -/
def cho : Int → List Rs → List Rs
  | _, [] => []
  | beg, x :: R => if x.1.2.1 ≤ beg then x :: cho x.1.1 R else cho beg R
theorem cho_sub : ∀ (beg : Int) (R : List Rs), (cho beg R).Sublist R
  | _, [] => List.Sublist.refl _
  | beg, x :: R => by
    unfold cho
    split
    · exact (cho_sub _ R).cons_cons x
    · exact (cho_sub _ R).cons x
theorem cho_le : ∀ (beg : Int) (R : List Rs), ∀ b ∈ cho beg R, Rst R → b.1.2.1 ≤ beg
  | _, [], b, hb, _ => by cases hb
  | beg, x :: R, b, hb, hR => by
    obtain ⟨_, _, _, h4, h5⟩ := hR
    unfold cho at hb
    split at hb
    · rename_i h
      rcases List.mem_cons.1 hb with rfl | hb
      · exact h
      · have := cho_le _ R b hb h5
        unfold okN at h4; omega
    · exact cho_le _ R b hb h5
theorem cho_alone : ∀ (beg : Int) (R : List Rs), Rst R → (cho beg R).Pairwise fun x y => y.1.2.1 ≤ x.1.1
  | _, [], _ => List.Pairwise.nil
  | beg, x :: R, hR => by
    obtain ⟨_, _, _, _, h5⟩ := hR
    unfold cho
    split
    · exact List.pairwise_cons.2 ⟨fun b hb => cho_le _ R b hb h5, cho_alone _ R h5⟩
    · exact cho_alone _ R h5
theorem cho_sum : ∀ (beg : Int) (R : List Rs), Rst R → ((cho beg R).map (·.1.2.2.1)).sum = (R.map fun b => if b.1.2.1 ≤ beg then b.2 else 0).sum
  | _, [], _ => rfl
  | beg, x :: R, hR => by
    obtain ⟨h1, h2, h3, h4, h5⟩ := hR
    unfold cho
    simp only [List.map_cons, List.sum_cons]
    by_cases h : x.1.2.1 ≤ beg
    · rw [if_pos h, if_pos h]
      simp only [List.map_cons, List.sum_cons]
      rw [cho_sum _ R h5, h1]
      have : overSum R x.1 + (R.map fun b => if b.1.2.1 ≤ x.1.1 then b.2 else 0).sum = (R.map fun b => if b.1.2.1 ≤ beg then b.2 else 0).sum := by
        have hall := Rst.all h5
        clear h1 h5
        induction R with
        | nil => rfl
        | cons b R ih =>
          have e := ih (fun c hc => h3 c (by simp [hc])) (fun c hc => hall c (by simp [hc]))
          have e1 := h3 b (by simp)
          have e2 := (hall b (by simp)).2
          simp only [overSum, List.map_cons, List.sum_cons] at e ⊢
          have e3 : ovB (shOf b.1) (shOf x.1) = decide (x.1.1 < b.1.2.1) := by
            rw [Bool.eq_iff_iff, ovB_iff]; unfold okN at e2 h4; simp only [shOf, decide_eq_true_eq]; omega
          rw [e3, if_pos (show b.1.2.1 ≤ beg by omega)]
          by_cases hc : x.1.1 < b.1.2.1
          · rw [if_pos (by simpa using hc), if_neg (by omega)]; omega
          · rw [if_neg (by simpa using hc), if_pos (by omega)]; omega
      omega
    · rw [if_neg h, if_neg h, cho_sum _ R h5]; omega
theorem sum_total {R : List Rs} (h : Rst R) : (R.map fun b => if b.1.2.1 ≤ 1000 then b.2 else 0).sum = total (R.map pstOf) := by
  have hall := Rst.all h
  clear h
  induction R with
  | nil => rfl
  | cons b R ih =>
    have e1 := (hall b (by simp)).2
    have e := ih fun c hc => hall c (by simp [hc])
    simp only [total, List.map_cons, List.sum_cons] at e ⊢
    rw [e, if_pos (by unfold okN at e1; omega)]
    rfl
theorem total_rev (P : List Pst) : total P.reverse = total P := perm_sum (List.Perm.map _ (List.reverse_perm P))
/-- What is chosen earns what the rests pay. -/
theorem strong {L : Ns} {R : List Rs} (h : RstsOf L R) : ((cho 1000 R.reverse).map (·.1.2.2.1)).sum = total (R.map pstOf) := by
  rw [cho_sum _ _ h.rst, sum_total h.rst, List.map_reverse, total_rev]
theorem cho_alone2 {L : Ns} {R : List Rs} (h : RstsOf L R) : Alone ((cho 1000 R.reverse).map fun b => shOf b.1) := by
  rw [Alone, List.pairwise_map]
  refine (cho_alone 1000 _ h.rst).imp fun {x y} hxy => ?_
  rw [Bool.eq_false_iff]
  intro hh
  have := ovB_iff.1 hh
  simp only [shOf] at this
  omega
/-- Where all pays are 1, all rests are. -/
theorem rst_one : ∀ {R : List Rs}, Rst R → (∀ b ∈ R, b.1.2.2.1 = 1) → ∀ b ∈ R, b.2 = 1
  | [], _, _, b, hb => by cases hb
  | c :: R, h, h1, b, hb => by
    obtain ⟨e1, e2, e3, e4, e5⟩ := h
    rcases List.mem_cons.1 hb with rfl | hb
    · have := h1 b (by simp)
      have hn : 0 ≤ overSum R b.1 := by
        have hall := Rst.all e5
        clear e1 e3 e5 h1 hb
        unfold overSum
        induction R with
        | nil => simp
        | cons d R ih =>
          have := ih fun c hc => hall c (by simp [hc])
          have := (hall d (by simp)).1
          simp only [List.map_cons, List.sum_cons]
          split <;> omega
      omega
    · exact rst_one e5 (fun c hc => h1 c (by simp [hc])) b hb
end Go.Proofs.Ytpkjgnllkaafkaa

/- MathD -/
namespace Go.Proofs.Ytpkjgnllkaafkaa

def shAt (l : Ls) (i : Int) : Sh := l.getD i.toNat sh0
def pick (l : Ls) (I : List Int) : Ls := I.map (shAt l)
structure Asc (n : Nat) (I : List Int) : Prop where
  up : I.Pairwise (· < ·)
  rng : ∀ x ∈ I, 0 ≤ x ∧ x < n
theorem asc_nil (n : Nat) : Asc n [] := ⟨List.Pairwise.nil, by simp⟩
theorem asc_snoc {i : Nat} {I : List Int} (h : Asc i I) : Asc (i + 1) (I ++ [(i : Int)]) := by
  refine ⟨List.pairwise_append.2 ⟨h.up, by simp, fun a ha b hb => ?_⟩, fun x hx => ?_⟩
  · simp at hb; subst hb; exact (h.rng a ha).2
  · rcases List.mem_append.1 hx with hx | hx
    · have := h.rng x hx; omega
    · simp at hx; omega
theorem asc_more {i : Nat} {I : List Int} (h : Asc i I) : Asc (i + 1) I := ⟨h.up, fun x hx => by have := h.rng x hx; omega⟩
theorem asc_cases {i : Nat} {I : List Int} (h : Asc (i + 1) I) : Asc i I ∨ ∃ J, I = J ++ [(i : Int)] ∧ Asc i J := by
  by_cases hi : (i : Int) ∈ I
  · right
    have hne : I ≠ [] := by intro e; subst e; cases hi
    obtain ⟨J, c, rfl⟩ : ∃ ini c, I = ini ++ [c] := ⟨I.dropLast, I.getLast hne, (List.dropLast_concat_getLast hne).symm⟩
    have hu := List.pairwise_append.1 h.up
    have hc : c = i := by
      rcases List.mem_append.1 hi with hj | hj
      · have := hu.2.2 _ hj c (by simp)
        have := (h.rng c (by simp)).2
        omega
      · simp at hj; exact hj.symm
    subst hc
    refine ⟨J, rfl, hu.1, fun x hx => ⟨(h.rng x (by simp [hx])).1, ?_⟩⟩
    exact hu.2.2 x hx _ (by simp)
  · left
    refine ⟨h.up, fun x hx => ⟨(h.rng x hx).1, ?_⟩⟩
    have h1 := (h.rng x hx).2
    have h2 : x ≠ i := fun e => hi (e ▸ hx)
    omega
theorem asc_len {n : Nat} {I : List Int} (h : Asc n I) : I.length ≤ n := by
  have : ∀ (n : Nat) (I : List Int), Asc n I → I.length ≤ n := by
    intro n
    induction n with
    | zero =>
      intro I h
      cases I with
      | nil => simp
      | cons x I => have := h.rng x (by simp); omega
    | succ n ih =>
      intro I h
      rcases asc_cases h with h | ⟨J, rfl, hJ⟩
      · have := ih I h; omega
      · have := ih J hJ; simp; omega
  exact this n I h
/-- Whether a set of numbers is alone, as the document asks it: each against those before it. -/
def aloneB (l : Ls) (I : List Int) : Bool := (List.range I.length).all fun i => (List.range i).all fun k => !ovB (shAt l (I.getD i 0)) (shAt l (I.getD k 0))
theorem aloneB_iff {l : Ls} {I : List Int} : aloneB l I = true ↔ Alone (pick l I) := by
  unfold aloneB Alone pick
  rw [List.pairwise_map, List.pairwise_iff_getElem]
  simp only [List.all_eq_true, List.mem_range, Bool.not_eq_true']
  constructor
  · intro h a b ha hb hab
    have := h b hb a hab
    rw [ovB_comm]
    simpa [List.getD_eq_getElem?_getD, ha, hb] using this
  · intro h b hb a hab
    have := h a b (by omega) hb hab
    rw [ovB_comm]
    simpa [List.getD_eq_getElem?_getD, show a < I.length by omega, hb] using this
/-- All sets of the first i that are alone, in the order in which they are found. -/
def setsTo (l : Ls) : Nat → List (List Int)
  | 0 => [[]]
  | i + 1 => setsTo l i ++ ((setsTo l i).reverse.map (· ++ [(i : Int)])).filter (aloneB l)
theorem mem_setsTo {l : Ls} : ∀ {i : Nat} {I : List Int}, I ∈ setsTo l i ↔ Asc i I ∧ Alone (pick l I)
  | 0, I => by
    simp only [setsTo, List.mem_singleton]
    constructor
    · rintro rfl; exact ⟨asc_nil 0, List.Pairwise.nil⟩
    · rintro ⟨h, _⟩
      exact List.eq_nil_of_length_eq_zero (by have := asc_len h; omega)
  | i + 1, I => by
    simp only [setsTo, List.mem_append, List.mem_filter, List.mem_map, List.mem_reverse]
    constructor
    · rintro (h | ⟨⟨J, hJ, rfl⟩, ha⟩)
      · obtain ⟨h1, h2⟩ := mem_setsTo.1 h
        exact ⟨asc_more h1, h2⟩
      · exact ⟨asc_snoc (mem_setsTo.1 hJ).1, aloneB_iff.1 ha⟩
    · rintro ⟨h1, h2⟩
      rcases asc_cases h1 with h1 | ⟨J, rfl, hJ⟩
      · exact .inl (mem_setsTo.2 ⟨h1, h2⟩)
      · refine .inr ⟨⟨J, mem_setsTo.2 ⟨hJ, ?_⟩, rfl⟩, aloneB_iff.2 h2⟩
        have : Alone (pick l J ++ pick l [(i : Int)]) := by simpa [pick] using h2
        exact (List.pairwise_append.1 this).1
theorem setsTo_len (l : Ls) : ∀ (i : Nat), (setsTo l i).length ≤ 2 ^ i
  | 0 => by simp [setsTo]
  | i + 1 => by
    have h1 := setsTo_len l i
    have h2 := List.length_filter_le (aloneB l) ((setsTo l i).reverse.map (· ++ [(i : Int)]))
    simp only [List.length_map, List.length_reverse] at h2
    simp only [setsTo, List.length_append]
    omega
/-- The greatest value of all. -/
def best (f : List Int → Int) (ss : List (List Int)) : Int := ss.foldl (fun a s => max a (f s)) 0
theorem best_nil (f : List Int → Int) : best f [] = 0 := rfl
theorem best_app (f : List Int → Int) (a b : List (List Int)) : best f (a ++ b) = b.foldl (fun a s => max a (f s)) (best f a) := by simp [best]
theorem best_snoc (f : List Int → Int) (a : List (List Int)) (s : List Int) : best f (a ++ [s]) = max (best f a) (f s) := by rw [best_app]; rfl
theorem best_spec (f : List Int → Int) : ∀ (n : Nat) (ss : List (List Int)), ss.length = n → (∀ s ∈ ss, f s ≤ best f ss) ∧ 0 ≤ best f ss ∧ (best f ss = 0 ∨ ∃ s ∈ ss, f s = best f ss)
  | 0, ss, hn => by
    obtain rfl := List.eq_nil_of_length_eq_zero hn
    exact ⟨by simp, Int.le_refl _, .inl rfl⟩
  | n + 1, ss, hn => by
    have hne : ss ≠ [] := by intro e; subst e; simp at hn
    obtain ⟨ss, c, rfl⟩ : ∃ ini c, ss = ini ++ [c] := ⟨ss.dropLast, ss.getLast hne, (List.dropLast_concat_getLast hne).symm⟩
    obtain ⟨h1, h2, h3⟩ := best_spec f n ss (by simpa using hn)
    rw [best_snoc]
    refine ⟨fun s hs => ?_, by omega, ?_⟩
    · rcases List.mem_append.1 hs with hs | hs
      · have := h1 s hs; omega
      · simp at hs; subst hs; omega
    · by_cases hc : best f ss < f c
      · exact .inr ⟨c, by simp, by omega⟩
      · rcases h3 with h3 | ⟨s, hs, h3⟩
        · exact .inl (by omega)
        · exact .inr ⟨s, by simp [hs], by omega⟩
def lenI (I : List Int) : Int := I.length
def payI (l : Ls) (I : List Int) : Int := paySum (pick l I)
/-- A best value that is met is the best of all sets. -/
theorem best_eq {l : Ls} {f : List Int → Int} {v : Int} (hv : 0 ≤ v) (h1 : ∀ I, Asc l.length I → Alone (pick l I) → f I ≤ v) {I : List Int} (h2 : Asc l.length I) (h3 : Alone (pick l I)) (h4 : f I = v) :
    best f (setsTo l l.length) = v := by
  obtain ⟨b1, b2, b3⟩ := best_spec f _ (setsTo l l.length) rfl
  have e1 := b1 I (mem_setsTo.2 ⟨h2, h3⟩)
  rcases b3 with b3 | ⟨s, hs, b3⟩
  · omega
  · obtain ⟨g1, g2⟩ := mem_setsTo.1 hs
    have := h1 s g1 g2
    omega

/-! What the rests choose, as numbers. -/
theorem num_num (l : Ls) : (num l).map (·.2.2.2) = moms l.length := by
  apply List.ext_getElem
  · simp [num, moms]
  · intro i h1 h2
    simp [num, moms]
theorem moms_nodup (n : Nat) : (moms n).Pairwise (· < ·) := by
  rw [moms, List.pairwise_map]
  exact List.pairwise_lt_range.imp fun h => by omega
theorem mem_num {l : Ls} {x : Nm} (h : x ∈ num l) : 0 ≤ x.2.2.2 ∧ x.2.2.2 < l.length ∧ shOf x = shAt l x.2.2.2 := by
  simp only [num, List.mem_map, List.mem_range] at h
  obtain ⟨i, hi, rfl⟩ := h
  refine ⟨by simp, by simpa using hi, ?_⟩
  simp [shOf, shAt]
theorem num_ok {l : Ls} (ok : ∀ s ∈ l, okS s = true) {x : Nm} (h : x ∈ num l) : okN x := by
  obtain ⟨h1, h2, h3⟩ := mem_num h
  have : shAt l x.2.2.2 ∈ l := by
    unfold shAt
    rw [List.getD_eq_getElem?_getD, List.getElem?_eq_getElem (by omega)]
    exact List.getElem_mem _
  have := okS_iff.1 (ok _ this)
  rw [← h3] at this
  exact this
theorem Ord.rsts {l : Ls} {L : Ns} (ok : ∀ s ∈ l, okS s = true) (h : Ord kt l L) : RstsOf L (rsts L) :=
  rsts_of h.sorted fun _ hs => num_ok ok (h.perm.mem_iff.1 hs)
/-- The numbers that are chosen. -/
def chn (L : Ns) : List Int := (cho 1000 (rsts L).reverse).map (·.1.2.2.2)
theorem chn_sub {l : Ls} {L : Ns} (ok : ∀ s ∈ l, okS s = true) (h : Ord kt l L) : ((cho 1000 (rsts L).reverse).map (·.1)).Sublist L.reverse := by
  have h1 := (cho_sub 1000 (rsts L).reverse).map (·.1)
  have h2 := (h.rsts ok).sub.reverse
  rw [List.map_reverse] at h1
  exact h1.trans h2
theorem chn_nodup {l : Ls} {L : Ns} (ok : ∀ s ∈ l, okS s = true) (h : Ord kt l L) : (chn L).Nodup := by
  have h1 := (chn_sub ok h).map (·.2.2.2)
  rw [List.map_map] at h1
  refine h1.nodup ?_
  have h2 : (L.reverse.map (·.2.2.2)).Perm (moms l.length) := by
    rw [← num_num]
    exact ((List.reverse_perm L).trans h.perm).map _
  rw [h2.nodup_iff]
  exact (moms_nodup _).imp fun h => by omega
theorem chn_mem {l : Ls} {L : Ns} (ok : ∀ s ∈ l, okS s = true) (h : Ord kt l L) {b : Rs} (hb : b ∈ cho 1000 (rsts L).reverse) : b.1 ∈ num l :=
  h.perm.mem_iff.1 (List.mem_reverse.1 ((chn_sub ok h).subset (List.mem_map.2 ⟨b, hb, rfl⟩)))
theorem chn_pick {l : Ls} {L : Ns} (ok : ∀ s ∈ l, okS s = true) (h : Ord kt l L) : pick l (chn L) = (cho 1000 (rsts L).reverse).map fun b => shOf b.1 := by
  unfold pick chn
  rw [List.map_map]
  exact List.map_congr_left fun b hb => ((mem_num (chn_mem ok h hb)).2.2).symm
structure Chosen (l : Ls) (L : Ns) (I : List Int) : Prop where
  asc : Asc l.length I
  alone : Alone (pick l I)
  pay : payI l I = total ((rsts L).map pstOf)
theorem chosen_ok {l : Ls} {L : Ns} (ok : ∀ s ∈ l, okS s = true) (h : Ord kt l L) {I : List Int} (hp : I.Perm (chn L)) (hs : I.Pairwise (· ≤ ·)) : Chosen l L I := by
  have hn : I.Nodup := hp.nodup_iff.2 (chn_nodup ok h)
  refine ⟨⟨?_, fun x hx => ?_⟩, ?_, ?_⟩
  · have := List.pairwise_and_iff.2 ⟨hs, hn⟩
    exact this.imp fun h => by omega
  · obtain ⟨b, hb, rfl⟩ := List.mem_map.1 (hp.mem_iff.1 hx)
    have := mem_num (chn_mem ok h hb)
    exact ⟨this.1, this.2.1⟩
  · have h1 := cho_alone2 (h.rsts ok)
    rw [← chn_pick ok h] at h1
    exact ((hp.map (shAt l)).pairwise_iff fun {x y} h => by rw [ovB_comm]; exact h).2 h1
  · have e1 : payI l I = payI l (chn L) := by
      unfold payI paySum pick
      exact perm_sum ((hp.map _).map _)
    rw [e1, ← strong (h.rsts ok)]
    unfold payI paySum
    rw [chn_pick ok h, List.map_map]
    rfl
/-- The set that is chosen earns the most. -/
theorem earns_best {l : Ls} {L : Ns} (ok : ∀ s ∈ l, okS s = true) (h : Ord kt l L) {I : List Int} (c : Chosen l L I) : best (payI l) (setsTo l l.length) = payI l I := by
  have hr := h.rsts ok
  have hpos : ∀ p ∈ (rsts L).map pstOf, 0 ≤ p.2 := by
    intro p hp
    obtain ⟨b, hb, rfl⟩ := List.mem_map.1 hp
    have := (Rst.all hr.rst b (by simpa using hb)).1
    simp only [pstOf]; omega
  refine best_eq ?_ (fun J hJ ha => ?_) c.asc c.alone rfl
  · rw [c.pay]
    have h0 := weak hpos (S := []) List.Pairwise.nil (by simp)
    simpa [paySum] using h0
  · rw [c.pay]
    refine weak hpos ha fun s hs => ?_
    obtain ⟨i, hi, rfl⟩ := List.mem_map.1 hs
    have hi' := hJ.rng i hi
    have hm : gt (num l) i.toNat ∈ num l := by
      unfold gt
      rw [List.getD_eq_getElem?_getD, List.getElem?_eq_getElem (by rw [num_len]; omega)]
      exact List.getElem_mem _
    have h1 := hr.pays _ (h.perm.mem_iff.2 hm)
    obtain ⟨_, _, e⟩ := mem_num hm
    have e2 : (gt (num l) i.toNat).2.2.2 = i := by rw [gt_num (by omega)]; simp; omega
    rw [e2] at e
    rw [e] at h1
    have e3 : (gt (num l) i.toNat).2.2.1 = (shAt l i).2.2 := by rw [← e]; rfl
    rw [e3] at h1
    exact h1
end Go.Proofs.Ytpkjgnllkaafkaa

/- MathE -/
namespace Go.Proofs.Ytpkjgnllkaafkaa

/-- How many different numbers. -/
def dst : List Int → Nat
  | [] => 0
  | x :: t => (if x ∈ t then 0 else 1) + dst t
theorem dst_perm {a b : List Int} (h : a.Perm b) : dst a = dst b := by
  induction h with
  | nil => rfl
  | cons x h ih => simp only [dst, ih, h.mem_iff]
  | swap x y l =>
    simp only [dst, List.mem_cons]
    by_cases e : x = y
    · subst e; rfl
    · have e' : ¬ y = x := fun h => e h.symm
      simp only [e, e', false_or]
      omega
  | trans _ _ ih1 ih2 => rw [ih1, ih2]
theorem dst_snoc (r : List Int) (x : Int) : dst (r ++ [x]) = dst r + if x ∈ r then 0 else 1 := by
  have h1 : (r ++ [x]).Perm (x :: r) := List.perm_append_comm
  rw [dst_perm h1]
  simp only [dst]
  omega
theorem dst_le (r : List Int) : dst r ≤ r.length := by
  induction r with
  | nil => exact Nat.le_refl _
  | cons x r ih => simp only [dst, List.length_cons]; split <;> omega
/-- Of equal numbers beside each other, one is kept. -/
def cmpL : List Int → List Int
  | [] => []
  | [x] => [x]
  | x :: y :: t => if x = y then cmpL (y :: t) else x :: cmpL (y :: t)
theorem cmpL_dst : ∀ (s : List Int), s.Pairwise (· ≤ ·) → (cmpL s).length = dst s
  | [], _ => rfl
  | [x], _ => by simp [cmpL, dst]
  | x :: y :: t, h => by
    rw [List.pairwise_cons] at h
    have ih := cmpL_dst (y :: t) h.2
    have hm : x ∈ y :: t ↔ x = y := by
      constructor
      · intro hx
        rcases List.mem_cons.1 hx with hx | hx
        · exact hx
        · have h1 := (List.pairwise_cons.1 h.2).1 x hx
          have h2 := h.1 y (by simp)
          omega
      · intro e; subst e; simp
    unfold cmpL dst
    by_cases e : x = y
    · rw [if_pos e, if_pos (hm.2 e), ih]; omega
    · rw [if_neg e, if_neg fun h => e (hm.1 h), List.length_cons, ih]; omega
theorem dst_erase {r : List Int} {x : Int} (h : x ∈ r) : dst (r.filter (· != x)) + 1 = dst r := by
  induction r with
  | nil => cases h
  | cons y r ih =>
    by_cases e : y = x
    · subst e
      rw [List.filter_cons_of_neg (by simp)]
      by_cases hy : y ∈ r
      · have := ih hy
        simp only [dst, if_pos hy]
        omega
      · have : r.filter (· != y) = r := List.filter_eq_self.2 fun z hz => by
          have : z ≠ y := fun e => hy (e ▸ hz)
          simpa using this
        rw [this]
        simp only [dst, if_neg hy]
        omega
    · rw [List.filter_cons_of_pos (by simpa using e)]
      have hx : x ∈ r := by
        rcases List.mem_cons.1 h with h | h
        · exact absurd h.symm e
        · exact h
      have := ih hx
      have hm : y ∈ r.filter (· != x) ↔ y ∈ r := by
        rw [List.mem_filter]
        exact ⟨fun h => h.1, fun h => ⟨h, by simpa using e⟩⟩
      simp only [dst, hm]
      omega
theorem nodup_dst : ∀ {J r : List Int}, J.Nodup → (∀ x ∈ J, x ∈ r) → J.length ≤ dst r
  | [], r, _, _ => by simp
  | x :: J, r, hn, hs => by
    rw [List.nodup_cons] at hn
    have h1 := dst_erase (hs x (by simp))
    have h2 := nodup_dst (J := J) (r := r.filter (· != x)) hn.2 fun y hy => by
      rw [List.mem_filter]
      refine ⟨hs y (by simp [hy]), ?_⟩
      have : y ≠ x := fun e => hn.1 (e ▸ hy)
      simpa using this
    rw [List.length_cons]
    omega
theorem dst_bound : ∀ (n : Nat) {r : List Int}, (∀ x ∈ r, 0 ≤ x ∧ x < n) → dst r ≤ n
  | 0, r, h => by
    cases r with
    | nil => exact Nat.le_refl _
    | cons x r => have := h x (by simp); omega
  | n + 1, r, h => by
    by_cases hx : (n : Int) ∈ r
    · have h1 := dst_erase hx
      have h2 := dst_bound n (r := r.filter (· != (n : Int))) fun y hy => by
        rw [List.mem_filter] at hy
        have := h y hy.1
        have h3 : y ≠ n := by simpa using hy.2
        omega
      omega
    · have := dst_bound n (r := r) fun y hy => by
        have := h y hy
        have h3 : y ≠ n := fun e => hx (e ▸ hy)
        omega
      omega
/-- Whether a roster gives no two shifts that overlap the same keeper. -/
def Right (l : Ls) (r : List Int) : Prop := ∀ i j, i < j → j < l.length → ovB (l.getD i sh0) (l.getD j sh0) = true → r.getD i 0 ≠ r.getD j 0
/-- The numbers of the shifts that run at a moment. -/
def runIx (l : Ls) (m : Int) : List Int := ((List.range l.length).filter fun i => runB (l.getD i sh0) m).map fun k : Nat => (k : Int)
theorem countP_range (p : Sh → Bool) : ∀ (l : Ls), ((List.range l.length).filter fun i => p (l.getD i sh0)).length = l.countP p
  | [] => rfl
  | s :: l => by
    rw [List.length_cons, List.range_succ_eq_map, List.filter_cons, List.filter_map]
    have ih := countP_range p l
    have e : ((fun i => p (List.getD (s :: l) i sh0)) ∘ Nat.succ) = fun i => p (l.getD i sh0) := by funext i; simp
    rw [e]
    have e0 : List.getD (s :: l) 0 sh0 = s := rfl
    rw [e0, List.countP_cons]
    split
    · rw [List.length_cons, List.length_map, ih]
    · rw [List.length_map, ih]; rfl
theorem runIx_len (l : Ls) (m : Int) : (runIx l m).length = cnt l m := by
  unfold runIx cnt
  rw [List.length_map]
  exact countP_range (fun s => runB s m) l
theorem right_peak {l : Ls} {r : List Int} (hl : r.length = l.length) (h : Right l r) (m : Int) : cnt l m ≤ dst r := by
  have e : cnt l m = (((List.range l.length).filter fun i => runB (l.getD i sh0) m).map fun i => r.getD i 0).length := by
    rw [List.length_map]; exact (countP_range (fun s => runB s m) l).symm
  rw [e]
  refine nodup_dst ?_ fun x hx => ?_
  · unfold List.Nodup
    rw [List.pairwise_map]
    have h1 : ((List.range l.length).filter fun i => runB (l.getD i sh0) m).Pairwise (· < ·) := List.pairwise_lt_range.filter _
    refine h1.imp_of_mem fun {a b} ha hb hab => ?_
    rw [List.mem_filter, List.mem_range] at ha hb
    refine h a b hab hb.1 (ovB_iff.2 ?_)
    have e1 := runB_iff.1 ha.2
    have e2 := runB_iff.1 hb.2
    omega
  · obtain ⟨i, hi, rfl⟩ := List.mem_map.1 hx
    rw [List.mem_filter, List.mem_range] at hi
    rw [List.getD_eq_getElem?_getD, List.getElem?_eq_getElem (by omega)]
    exact List.getElem_mem _
theorem rightB_iff {l : Ls} {r : List Int} : ((List.range l.length).all fun j => (List.range j).all fun i => !(ovB (l.getD i sh0) (l.getD j sh0) && (r.getD i 0 == r.getD j 0))) = true ↔ Right l r := by
  simp only [List.all_eq_true, List.mem_range, Bool.not_eq_true', Bool.and_eq_false_iff, beq_eq_false_iff_ne, Right]
  constructor
  · intro h i j hij hj ho
    rcases h j hj i hij with h | h
    · rw [ho] at h; cases h
    · exact h
  · intro h j hj i hij
    by_cases ho : ovB (l.getD i sh0) (l.getD j sh0) = true
    · exact .inr (h i j hij hj ho)
    · exact .inl (by simpa using ho)
end Go.Proofs.Ytpkjgnllkaafkaa

/- MathF -/
namespace Go.Proofs.Ytpkjgnllkaafkaa

/-- The keeper of a shift. -/
def kp (r : List Int) (x : Nm) : Int := r.getD x.2.2.2.toNat 0
structure Gr (l : Ls) (pre : Ns) (u r : List Int) : Prop where
  ul : u.length = 12
  rl : r.length = l.length
  un : ∀ k, 0 ≤ u.getD k 0
  low : ∀ x ∈ r, 0 ≤ x ∧ x < 12
  ends : ∀ x ∈ pre, 0 ≤ kp r x ∧ x.2.1 ≤ u.getD (kp r x).toNat 0
  wit : ∀ k, 0 < u.getD k 0 → ∃ x ∈ pre, kp r x = k ∧ x.2.1 = u.getD k 0
  apart : ∀ x ∈ pre, ∀ y ∈ pre, x.2.2.2 ≠ y.2.2.2 → kp r x = kp r y → ovB (shOf x) (shOf y) = false
  few : ∀ x ∈ pre, ∃ m, kp r x + 1 ≤ cnt l m ∧ ∃ s ∈ l, s.1 = m
theorem gr_start (l : Ls) : Gr l [] (List.replicate 12 0) (List.replicate l.length 0) := by
  have hz : ∀ k, (List.replicate 12 (0 : Int)).getD k 0 = 0 := by
    intro k
    rw [List.getD_eq_getElem?_getD, List.getElem?_replicate]
    split <;> rfl
  refine ⟨by simp, by simp, fun k => by rw [hz]; exact Int.le_refl _, fun x hx => ?_, by simp, fun k hk => ?_, by simp, by simp⟩
  · have := List.eq_of_mem_replicate hx
    omega
  · rw [hz] at hk; omega
/-- Those who are busy run now: so there is a free one. -/
theorem gr_busy {l : Ls} {pre : Ns} {u r : List Int} {s : Nm} (g : Gr l pre u r) (hsub : ∀ x ∈ pre, x ∈ num l) (hs : s ∈ num l) (hok : okN s) (hnew : ∀ x ∈ pre, x.2.2.2 ≠ s.2.2.2) (hord : ∀ x ∈ pre, x.1 ≤ s.1) {k : Nat}
    (hb : ∀ j, j < k → s.1 < u.getD j 0) : k + 1 ≤ cnt l s.1 := by
  have hw : ∀ j, ∃ x : Nm, j < k → x ∈ pre ∧ kp r x = j ∧ x.2.1 = u.getD j 0 := by
    intro j
    by_cases hj : j < k
    · have := hb j hj
      unfold okN at hok
      obtain ⟨x, h1, h2, h3⟩ := g.wit j (by omega)
      exact ⟨x, fun _ => ⟨h1, h2, h3⟩⟩
    · exact ⟨nm0, fun h => absurd h hj⟩
  obtain ⟨f, hf⟩ := Classical.axiomOfChoice hw
  have hlen : (s.2.2.2 :: (List.range k).map fun j => (f j).2.2.2).length ≤ dst (runIx l s.1) := by
    refine nodup_dst ?_ ?_
    · rw [List.nodup_cons]
      constructor
      · intro hm
        obtain ⟨j, hj, e⟩ := List.mem_map.1 hm
        rw [List.mem_range] at hj
        exact hnew _ (hf j hj).1 e
      · unfold List.Nodup
        rw [List.pairwise_map]
        refine (List.pairwise_lt_range (n := k)).imp_of_mem fun {a b} ha hb' hab => ?_
        rw [List.mem_range] at ha hb'
        obtain ⟨_, e1, _⟩ := hf a ha
        obtain ⟨_, e2, _⟩ := hf b hb'
        intro e
        unfold kp at e1 e2
        rw [e, e2] at e1
        omega
    · have hin : ∀ x ∈ num l, runB (shOf x) s.1 = true → x.2.2.2 ∈ runIx l s.1 := by
        intro x hx hr
        obtain ⟨h1, h2, h3⟩ := mem_num hx
        refine List.mem_map.2 ⟨x.2.2.2.toNat, List.mem_filter.2 ⟨List.mem_range.2 (by omega), ?_⟩, by omega⟩
        have e : l.getD x.2.2.2.toNat sh0 = shOf x := h3.symm
        rw [e]; exact hr
      intro x hx
      rcases List.mem_cons.1 hx with rfl | hx
      · refine hin s hs (runB_iff.2 ?_)
        unfold okN at hok
        simp only [shOf]
        omega
      · obtain ⟨j, hj, rfl⟩ := List.mem_map.1 hx
        rw [List.mem_range] at hj
        obtain ⟨h1, h2, h3⟩ := hf j hj
        refine hin _ (hsub _ h1) (runB_iff.2 ?_)
        have h4 := hord _ h1
        have h5 := hb j hj
        simp only [shOf]
        omega
  have h2 := dst_le (runIx l s.1)
  rw [runIx_len] at h2
  simp only [List.length_cons, List.length_map, List.length_range] at hlen
  omega
theorem getD_set (l : List Int) (i j : Nat) (v : Int) : (l.set i v).getD j 0 = if i = j ∧ j < l.length then v else l.getD j 0 := by
  simp only [List.getD_eq_getElem?_getD, List.getElem?_set]
  by_cases h : i = j
  · subst h
    by_cases h2 : i < l.length
    · simp [h2]
    · rw [if_pos rfl, if_neg h2, if_neg (by omega), List.getElem?_eq_none (by omega)]
  · rw [if_neg h, if_neg (by omega)]
theorem gr_step {l : Ls} {pre : Ns} {u r : List Int} {s : Nm} (g : Gr l pre u r) (hl : l.length ≤ 12) (hsub : ∀ x ∈ pre, x ∈ num l) (hs : s ∈ num l) (hok : okN s) (hnew : ∀ x ∈ pre, x.2.2.2 ≠ s.2.2.2) (hord : ∀ x ∈ pre, x.1 ≤ s.1) {k : Nat}
    (hb : ∀ j, j < k → s.1 < u.getD j 0) (hfree : u.getD k 0 ≤ s.1) : Gr l (pre ++ [s]) (u.set k s.2.1) (r.set s.2.2.2.toNat k) := by
  have hk := gr_busy g hsub hs hok hnew hord hb
  have hc := cnt_le l s.1
  obtain ⟨n1, n2, n3⟩ := mem_num hs
  have e1 : ∀ x ∈ pre, kp (r.set s.2.2.2.toNat k) x = kp r x := by
    intro x hx
    have := mem_num (hsub x hx)
    have h := hnew x hx
    unfold kp
    rw [getD_set, if_neg (by omega)]
  have e2 : kp (r.set s.2.2.2.toNat k) s = k := by
    unfold kp
    rw [getD_set, if_pos ⟨rfl, by rw [g.rl]; omega⟩]
  have e3 : ∀ j, (u.set k s.2.1).getD j 0 = if k = j then s.2.1 else u.getD j 0 := by
    intro j
    rw [getD_set]
    by_cases h : k = j
    · rw [if_pos h, if_pos ⟨h, by rw [g.ul]; omega⟩]
    · rw [if_neg h, if_neg (by omega)]
  have hok' := hok
  unfold okN at hok'
  have hup : ∀ j, u.getD j 0 ≤ (u.set k s.2.1).getD j 0 := by
    intro j
    rw [e3]
    split
    · rename_i h; subst h; omega
    · exact Int.le_refl _
  refine ⟨by rw [List.length_set]; exact g.ul, by rw [List.length_set]; exact g.rl, fun j => ?_, fun x hx => ?_, fun x hx => ?_, fun j hj => ?_, fun x hx y hy hxy he => ?_, fun x hx => ?_⟩
  · have := g.un j; have := hup j; omega
  · rcases List.mem_or_eq_of_mem_set hx with hx | rfl
    · exact g.low x hx
    · omega
  · rcases List.mem_append.1 hx with hx | hx
    · rw [e1 x hx]
      have h1 := g.ends x hx
      have h2 := hup (kp r x).toNat
      omega
    · simp at hx; subst hx
      rw [e2]
      refine ⟨by omega, ?_⟩
      rw [e3, if_pos (by omega)]
      exact Int.le_refl _
  · rw [e3] at hj ⊢
    by_cases h : k = j
    · rw [if_pos h]
      exact ⟨s, by simp, by rw [e2, h], rfl⟩
    · rw [if_neg h] at hj ⊢
      obtain ⟨x, h1, h2, h3⟩ := g.wit j hj
      exact ⟨x, by simp [h1], by rw [e1 x h1]; exact h2, h3⟩
  · have hlate : ∀ x ∈ pre, kp r x = k → ovB (shOf x) (shOf s) = false := by
      intro x hx he
      have := g.ends x hx
      rw [he] at this
      rw [Bool.eq_false_iff]
      intro hh
      have := ovB_iff.1 hh
      simp only [shOf] at this
      rw [Int.toNat_natCast] at *
      omega
    rcases List.mem_append.1 hx with kx | kx <;> rcases List.mem_append.1 hy with ky | ky
    · rw [e1 x kx, e1 y ky] at he
      exact g.apart x kx y ky hxy he
    · obtain rfl : y = s := by simpa using ky
      rw [e1 x kx, e2] at he
      exact hlate x kx he
    · obtain rfl : x = s := by simpa using kx
      rw [e1 y ky, e2] at he
      rw [ovB_comm]
      exact hlate y ky he.symm
    · obtain rfl : y = s := by simpa using ky
      obtain rfl : x = y := by simpa using kx
      exact absurd rfl hxy
  · rcases List.mem_append.1 hx with hx | hx
    · rw [e1 x hx]; exact g.few x hx
    · simp at hx; subst hx
      rw [e2]
      refine ⟨x.1, by omega, shAt l x.2.2.2, ?_, ?_⟩
      · unfold shAt
        rw [List.getD_eq_getElem?_getD, List.getElem?_eq_getElem (by omega)]
        exact List.getElem_mem _
      · rw [← n3]; rfl
/-- The whole roster is right, and needs no more keepers than run at the peak. -/
theorem gr_done {l : Ls} {L : Ns} {u r : List Int} (ok : ∀ s ∈ l, okS s = true) (h : Ord kf l L) (g : Gr l L u r) : Right l r ∧ dst r = (scan (cnt l) (moms 1001)).2 := by
  have hR : Right l r := by
    intro i j hij hj ho he
    have hi : gt (num l) i ∈ L := h.perm.mem_iff.2 (by
      unfold gt
      rw [List.getD_eq_getElem?_getD, List.getElem?_eq_getElem (by rw [num_len]; omega)]
      exact List.getElem_mem _)
    have hj' : gt (num l) j ∈ L := h.perm.mem_iff.2 (by
      unfold gt
      rw [List.getD_eq_getElem?_getD, List.getElem?_eq_getElem (by rw [num_len]; omega)]
      exact List.getElem_mem _)
    rw [gt_num (by omega)] at hi
    rw [gt_num hj] at hj'
    have h1 := g.apart _ hi _ hj' (by simp; omega) (by simpa [kp] using he)
    have h2 : ovB (l.getD i sh0) (l.getD j sh0) = false := h1
    rw [ho] at h2
    cases h2
  refine ⟨hR, ?_⟩
  have hpk := scan_pk (cnt l) (moms 1001) (moms_sorted _)
  refine Nat.le_antisymm ?_ ?_
  · refine dst_bound _ fun x hx => ⟨(g.low x hx).1, ?_⟩
    obtain ⟨i, hi, rfl⟩ := List.getElem_of_mem hx
    have hm : gt (num l) i ∈ L := h.perm.mem_iff.2 (by
      unfold gt
      rw [List.getD_eq_getElem?_getD, List.getElem?_eq_getElem (by rw [num_len]; have := g.rl; omega)]
      exact List.getElem_mem _)
    rw [gt_num (by have := g.rl; omega)] at hm
    obtain ⟨m, h1, s, hs, rfl⟩ := g.few _ hm
    have e : kp r ((l.getD i sh0).1, (l.getD i sh0).2.1, (l.getD i sh0).2.2, (i : Int)) = r[i] := by
      simp [kp, List.getD_eq_getElem?_getD, hi]
    rw [e] at h1
    have h2 := okS_iff.1 (ok s hs)
    have h3 := hpk.top s.1 (mem_moms.2 (by omega))
    omega
  · rcases hpk.at_ with ⟨h0, _⟩ | ⟨_, _, h1, _⟩
    · omega
    · rw [← h1]; exact right_peak g.rl hR _
end Go.Proofs.Ytpkjgnllkaafkaa

/- MathG -/
namespace Go.Proofs.Ytpkjgnllkaafkaa

def restNm (b : Rs) : Nm := (b.1.1, b.1.2.1, b.2, b.1.2.2.2)
theorem overSum_app (R S : List Rs) (s : Nm) : overSum (R ++ S) s = overSum R s + overSum S s := by simp [overSum]
theorem overSum_bd {R : List Rs} (h : ∀ b ∈ R, 0 < b.2 ∧ b.2 ≤ 99) (s : Nm) : 0 ≤ overSum R s ∧ overSum R s ≤ 99 * R.length := by
  induction R with
  | nil => simp [overSum]
  | cons b R ih =>
    have h1 := ih fun c hc => h c (by simp [hc])
    have h2 := h b (by simp)
    simp only [overSum, List.map_cons, List.sum_cons, List.length_cons] at h1 ⊢
    split <;> omega
theorem rsts_bd' : ∀ (n : Nat) (L : Ns), L.length = n → (∀ s ∈ L, okN s) → (∀ b ∈ rsts L, 0 < b.2 ∧ b.2 ≤ 99 ∧ b.1 ∈ L) ∧ (rsts L).length ≤ n
  | 0, L, hn, _ => by
    obtain rfl := List.eq_nil_of_length_eq_zero hn
    simp [rsts]
  | n + 1, L, hn, hok => by
    have hne : L ≠ [] := by intro e; subst e; simp at hn
    obtain ⟨L, s, rfl⟩ : ∃ ini c, L = ini ++ [c] := ⟨L.dropLast, L.getLast hne, (List.dropLast_concat_getLast hne).symm⟩
    obtain ⟨ih, il⟩ := rsts_bd' n L (by simpa using hn) fun x hx => hok x (by simp [hx])
    have hs := hok s (by simp)
    have ho := overSum_bd (R := rsts L) (fun b hb => ⟨(ih b hb).1, (ih b hb).2.1⟩) s
    rw [rsts_snoc]
    unfold restF
    split
    · rename_i h
      refine ⟨fun b hb => ?_, by simp; omega⟩
      rcases List.mem_append.1 hb with hb | hb
      · have := ih b hb
        exact ⟨this.1, this.2.1, by simp [this.2.2]⟩
      · simp at hb
        subst hb
        unfold okN at hs
        exact ⟨h, by simp only; omega, by simp⟩
    · refine ⟨fun b hb => ?_, by omega⟩
      have := ih b hb
      exact ⟨this.1, this.2.1, by simp [this.2.2]⟩
theorem rsts_bd {L : Ns} (hok : ∀ s ∈ L, okN s) : (∀ b ∈ rsts L, 0 < b.2 ∧ b.2 ≤ 99 ∧ b.1 ∈ L) ∧ (rsts L).length ≤ L.length := rsts_bd' _ L rfl hok
/-- What the first k rests take off. -/
def ovTo (R : List Rs) (s : Nm) (k : Nat) : Int := overSum (R.take k) s
theorem ovTo_zero (R : List Rs) (s : Nm) : ovTo R s 0 = 0 := by simp [ovTo, overSum]
theorem ovTo_all (R : List Rs) (s : Nm) {k : Nat} (h : R.length ≤ k) : ovTo R s k = overSum R s := by rw [ovTo, List.take_of_length_le h]
theorem ovTo_succ {R : List Rs} {s : Nm} {k : Nat} (h : k < R.length) {b : Nm} (hb : gt (R.map restNm) k = b) : ovTo R s (k + 1) = ovTo R s k + if ovB (b.1, b.2.1, b.2.2.1) (shOf s) then b.2.2.1 else 0 := by
  subst hb
  unfold ovTo
  rw [List.take_succ_eq_append_getElem h, overSum_app]
  have e : gt (R.map restNm) k = restNm R[k] := by simp [gt, List.getD_eq_getElem?_getD, h]
  rw [e]
  have e2 : ovB (shOf R[k].1) (shOf s) = ovB ((restNm R[k]).1, (restNm R[k]).2.1, (restNm R[k]).2.2.1) (shOf s) := rfl
  simp only [overSum, List.map_cons, List.map_nil, List.sum_cons, List.sum_nil, e2, Int.add_zero]
  rfl
theorem ovTo_yes {R : List Rs} {s : Nm} {k : Nat} (h : k < R.length) (y1 y2 y3 y4 : Int) (hb : gt (R.map restNm) k = (y1, y2, y3, y4)) (ho : ovB (y1, y2, y3) (s.1, s.2.1, s.2.2.1) = true) : ovTo R s (k + 1) = ovTo R s k + y3 := by
  rw [ovTo_succ h hb]
  have : ovB (y1, y2, y3) (shOf s) = true := ho
  simp only [this, if_pos]
theorem ovTo_no {R : List Rs} {s : Nm} {k : Nat} (h : k < R.length) (y1 y2 y3 y4 : Int) (hb : gt (R.map restNm) k = (y1, y2, y3, y4)) (ho : ovB (y1, y2, y3) (s.1, s.2.1, s.2.2.1) = false) : ovTo R s (k + 1) = ovTo R s k := by
  rw [ovTo_succ h hb]
  have : ovB (y1, y2, y3) (shOf s) = false := ho
  simp [this]
theorem ovTo_bd {R : List Rs} (h : ∀ b ∈ R, 0 < b.2 ∧ b.2 ≤ 99) (s : Nm) (k : Nat) (hl : R.length ≤ 12) : 0 ≤ ovTo R s k ∧ ovTo R s k ≤ 1188 := by
  have := overSum_bd (R := R.take k) (fun b hb => h b (List.mem_of_mem_take hb)) s
  have h2 := List.length_take_le' k R
  unfold ovTo
  omega
theorem rests_yes {L : Ns} {s : Nm} {v : Int} (hv : s.2.2.1 - overSum (rsts L) s = v) (h : 0 < v) : (rsts (L ++ [s])).map restNm = (rsts L).map restNm ++ [(s.1, s.2.1, v, s.2.2.2)] := by
  subst hv
  rw [rsts_snoc, restF, if_pos h, List.map_append]
  rfl
theorem rests_no {L : Ns} {s : Nm} {v : Int} (hv : s.2.2.1 - overSum (rsts L) s = v) (h : ¬ 0 < v) : (rsts (L ++ [s])).map restNm = (rsts L).map restNm := by
  subst hv
  rw [rsts_snoc, restF, if_neg h]
end Go.Proofs.Ytpkjgnllkaafkaa

/- MathH -/
namespace Go.Proofs.Ytpkjgnllkaafkaa

def gi (L : List Int) (k : Nat) : Int := L.getD k 0
/-- The elements at j - 1 and j exchanged. -/
def swi (L : List Int) (j : Nat) : List Int := (L.set j (gi L (j - 1))).set (j - 1) (gi L j)
theorem swi_len (L : List Int) (j : Nat) : (swi L j).length = L.length := by simp [swi]
theorem swi_perm {L : List Int} {j : Nat} (h0 : 0 < j) (hj : j < L.length) : (swi L j).Perm L := by
  have e1 : gi L (j - 1) = L[j - 1] := by simp [gi, List.getD_eq_getElem?_getD, show j - 1 < L.length by omega]
  have e2 : gi L j = L[j] := by simp [gi, List.getD_eq_getElem?_getD, hj]
  rw [swi, e1, e2]
  exact List.set_set_perm hj (by omega)
theorem gi_swi {L : List Int} {j k : Nat} (h0 : 0 < j) (hj : j < L.length) : gi (swi L j) k = if k = j then gi L (j - 1) else if k = j - 1 then gi L j else gi L k := by
  unfold swi gi
  simp only [List.getD_eq_getElem?_getD, List.getElem?_set, List.length_set]
  by_cases h1 : k = j - 1
  · subst h1
    rw [if_pos rfl, if_pos (by omega), if_neg (by omega), if_pos rfl]; rfl
  · rw [if_neg (Ne.symm h1), if_neg h1]
    by_cases h2 : k = j
    · subst h2; rw [if_pos rfl, if_pos hj, if_pos rfl]; rfl
    · rw [if_neg (Ne.symm h2), if_neg h2]

/-- The first i + 1 are in order but for the one at j. -/
def NearI (L : List Int) (i j : Nat) : Prop := ∀ a b, a < b → b ≤ i → b ≠ j → (gi L a) ≤ (gi L b)
/-- The first i are in order. -/
def UptoI (L : List Int) (i : Nat) : Prop := ∀ a b, a < b → b < i → (gi L a) ≤ (gi L b)
theorem neari_start {L : List Int} {i : Nat} (h : UptoI L i) : NearI L i i := fun a b h1 h2 h3 => h a b h1 (by omega)
theorem neari_swi {L : List Int} {i j : Nat} (h : NearI L i j) (h0 : 0 < j) (hj : j ≤ i) (hi : i < L.length) (hc : (gi L j) < (gi L (j - 1))) : NearI (swi L j) i (j - 1) := by
  intro a b h1 h2 h3
  rw [gi_swi h0 (by omega), gi_swi h0 (by omega)]
  by_cases hb : b = j
  · subst hb
    rw [if_pos rfl, if_neg (by omega)]
    by_cases ha : a = b - 1
    · rw [if_pos ha]; omega
    · rw [if_neg ha]; exact h a (b - 1) (by omega) (by omega) (by omega)
  · rw [if_neg hb, if_neg h3]
    by_cases ha : a = j
    · rw [if_pos ha]; exact h (j - 1) b (by omega) h2 hb
    · rw [if_neg ha]
      by_cases ha2 : a = j - 1
      · rw [if_pos ha2]; exact h j b (by omega) h2 hb
      · rw [if_neg ha2]; exact h a b h1 h2 hb
theorem neari_stop {L : List Int} {i j : Nat} (h : NearI L i j) (hj : j ≤ i) (hc : j = 0 ∨ (gi L (j - 1)) ≤ (gi L j)) : UptoI L (i + 1) := by
  intro a b h1 h2
  by_cases hb : b = j
  · subst hb
    rcases hc with hc | hc
    · omega
    · by_cases ha : a = b - 1
      · rw [ha]; exact hc
      · have := h a (b - 1) (by omega) (by omega) (by omega); omega
  · exact h a b h1 (by omega) hb
theorem uptoi_one (L : List Int) {i : Nat} (h : i ≤ 1) : UptoI L i := fun a b h1 h2 => by omega
theorem uptoi_sorted {L : List Int} (h : UptoI L L.length) : L.Pairwise fun x y => x ≤ y := by
  rw [List.pairwise_iff_getElem]
  intro a b ha hb hab
  have := h a b hab hb
  simpa [gi, List.getD_eq_getElem?_getD, ha, hb] using this

end Go.Proofs.Ytpkjgnllkaafkaa

/- MathI -/
namespace Go.Proofs.Ytpkjgnllkaafkaa

/-- Of the first i, those that overlap the one at j, with j. -/
def rowTo (l : Ls) (j i : Nat) : List (Nat × Nat) := ((List.range i).filter fun i => ovB (l.getD i sh0) (l.getD j sh0)).map fun i => (i, j)
def allp (l : Ls) (k : Nat) : List (Nat × Nat) := (List.range k).flatMap fun j => rowTo l j j
theorem rowTo_zero (l : Ls) (j : Nat) : rowTo l j 0 = [] := rfl
theorem rowTo_yes {l : Ls} {j i : Nat} (h : ovB (l.getD i sh0) (l.getD j sh0) = true) : rowTo l j (i + 1) = rowTo l j i ++ [(i, j)] := by
  have e : [i].filter (fun i => ovB (l.getD i sh0) (l.getD j sh0)) = [i] := List.filter_cons_of_pos (p := fun i => ovB (l.getD i sh0) (l.getD j sh0)) h
  simp only [rowTo, List.range_succ, List.filter_append, List.map_append, e]
  rfl
theorem rowTo_no {l : Ls} {j i : Nat} (h : ovB (l.getD i sh0) (l.getD j sh0) = false) : rowTo l j (i + 1) = rowTo l j i := by
  have e : [i].filter (fun i => ovB (l.getD i sh0) (l.getD j sh0)) = [] := List.filter_cons_of_neg (p := fun i => ovB (l.getD i sh0) (l.getD j sh0)) (by rw [h]; simp)
  simp only [rowTo, List.range_succ, List.filter_append, List.map_append, e]
  simp
theorem allp_zero (l : Ls) : allp l 0 = [] := rfl
theorem allp_succ (l : Ls) (k : Nat) : allp l (k + 1) = allp l k ++ rowTo l k k := by simp [allp, List.range_succ]
theorem rowTo_len (l : Ls) (j i : Nat) : (rowTo l j i).length ≤ i := by
  unfold rowTo
  rw [List.length_map]
  have := List.length_filter_le (fun i => ovB (l.getD i sh0) (l.getD j sh0)) (List.range i)
  rw [List.length_range] at this
  exact this
theorem allp_len (l : Ls) : ∀ k, k ≤ 12 → (allp l k).length ≤ 12 * k
  | 0, _ => by simp [allp]
  | k + 1, h => by
    have h1 := allp_len l k (by omega)
    have h2 := rowTo_len l k k
    rw [allp_succ, List.length_append]
    omega
theorem mem_allp {l : Ls} {k : Nat} {p : Nat × Nat} : p ∈ allp l k ↔ p.1 < p.2 ∧ p.2 < k ∧ ovB (l.getD p.1 sh0) (l.getD p.2 sh0) = true := by
  obtain ⟨i, j⟩ := p
  simp only [allp, rowTo, List.mem_flatMap, List.mem_range, List.mem_map, List.mem_filter, Prod.mk.injEq]
  constructor
  · rintro ⟨j', hj, i', ⟨hi, ho⟩, rfl, rfl⟩
    exact ⟨hi, hj, ho⟩
  · rintro ⟨hi, hj, ho⟩
    exact ⟨j, hj, i, ⟨hi, ho⟩, rfl, rfl⟩
theorem right_all {l : Ls} {r : List Int} (h : ∀ p ∈ allp l l.length, r.getD p.1 0 ≠ r.getD p.2 0) : Right l r := by
  intro i j hij hj ho
  exact h (i, j) (mem_allp.2 ⟨hij, hj, ho⟩)
theorem right_not {l : Ls} {r : List Int} {p : Nat × Nat} (hp : p ∈ allp l l.length) (h : r.getD p.1 0 = r.getD p.2 0) : ¬ Right l r := by
  intro hR
  obtain ⟨h1, h2, h3⟩ := mem_allp.1 hp
  exact hR p.1 p.2 h1 h2 h3 h
theorem rowTo_pre (l : Ls) (j i : Nat) : ∀ m, i ≤ m → ∃ q, rowTo l j i ++ q = rowTo l j m
  | 0, h => ⟨[], by rw [List.append_nil, show i = 0 by omega]⟩
  | m + 1, h => by
    by_cases e : i = m + 1
    · exact ⟨[], by rw [List.append_nil, e]⟩
    · obtain ⟨q, hq⟩ := rowTo_pre l j i m (by omega)
      cases ho : ovB (l.getD m sh0) (l.getD j sh0) with
      | true => exact ⟨q ++ [(m, j)], by rw [rowTo_yes ho, ← hq, List.append_assoc]⟩
      | false => exact ⟨q, by rw [rowTo_no ho, hq]⟩
theorem allp_pre' (l : Ls) (j : Nat) : ∀ n, j ≤ n → ∃ q, allp l j ++ q = allp l n
  | 0, h => ⟨[], by rw [List.append_nil, show j = 0 by omega]⟩
  | n + 1, h => by
    by_cases e : j = n + 1
    · exact ⟨[], by rw [List.append_nil, e]⟩
    · obtain ⟨q, hq⟩ := allp_pre' l j n (by omega)
      exact ⟨q ++ rowTo l n n, by rw [allp_succ, ← hq, List.append_assoc]⟩
theorem allp_pre (l : Ls) {j k n : Nat} (hk : k < j) (hj : j < n) : ∃ q, (allp l j ++ rowTo l j (k + 1)) ++ q = allp l n := by
  obtain ⟨q1, h1⟩ := rowTo_pre l j (k + 1) j (by omega)
  obtain ⟨q2, h2⟩ := allp_pre' l (j + 1) n (by omega)
  refine ⟨q1 ++ q2, ?_⟩
  rw [← h2, allp_succ, ← h1]
  simp only [List.append_assoc]
end Go.Proofs.Ytpkjgnllkaafkaa

/- MathK -/
namespace Go.Proofs.Ytpkjgnllkaafkaa

/-- The sets of the first i, and the last q of them with i where that is alone. -/
def setsQ (l : Ls) (i q : Nat) : List (List Int) := setsTo l i ++ (((setsTo l i).reverse.take q).map (· ++ [(i : Int)])).filter (aloneB l)
theorem setsQ_zero (l : Ls) (i : Nat) : setsQ l i 0 = setsTo l i := by simp [setsQ]
theorem setsQ_all {l : Ls} {i q : Nat} (h : (setsTo l i).length ≤ q) : setsQ l i q = setsTo l (i + 1) := by
  unfold setsQ
  rw [List.take_of_length_le (by simpa using h)]
  rfl
theorem setsQ_get {l : Ls} {i q k : Nat} (h : k < (setsTo l i).length) : (setsQ l i q).getD k [] = (setsTo l i).getD k [] := by
  unfold setsQ
  rw [List.getD_eq_getElem?_getD, List.getElem?_append_left h, List.getD_eq_getElem?_getD]
theorem setsQ_len_le (l : Ls) (i q : Nat) : (setsTo l i).length ≤ (setsQ l i q).length := by simp [setsQ]
theorem setsQ_len (l : Ls) {i : Nat} (q : Nat) (h : i ≤ 11) : (setsQ l i q).length ≤ 4096 := by
  have h1 := setsTo_len l i
  have h2 := List.length_filter_le (aloneB l) (((setsTo l i).reverse.take q).map (· ++ [(i : Int)]))
  have h3 := List.length_take_le' q (setsTo l i).reverse
  rw [List.length_reverse] at h3
  rw [List.length_map] at h2
  have h4 : 2 ^ i ≤ 2 ^ 11 := Nat.pow_le_pow_right (by omega) h
  unfold setsQ
  rw [List.length_append]
  omega
theorem setsQ_take {l : Ls} {i q k : Nat} (h : q + k + 1 = (setsTo l i).length) : (setsTo l i).reverse.take (q + 1) = (setsTo l i).reverse.take q ++ [(setsTo l i).getD k []] := by
  rw [List.take_succ_eq_append_getElem (by rw [List.length_reverse]; omega), List.getElem_reverse]
  have e : (setsTo l i).length - 1 - q = k := by omega
  simp [List.getD_eq_getElem?_getD, show k < (setsTo l i).length by omega, e]
theorem setsQ_yes {l : Ls} {i q k : Nat} {s : List Int} (h : q + k + 1 = (setsTo l i).length) (hs : (setsTo l i).getD k [] = s) (ha : aloneB l (s ++ [(i : Int)]) = true) : setsQ l i (q + 1) = setsQ l i q ++ [s ++ [(i : Int)]] := by
  unfold setsQ
  rw [setsQ_take h, hs, List.map_append, List.filter_append, List.append_assoc]
  congr 2
  simp [ha]
theorem setsQ_no {l : Ls} {i q k : Nat} {s : List Int} (h : q + k + 1 = (setsTo l i).length) (hs : (setsTo l i).getD k [] = s) (ha : aloneB l (s ++ [(i : Int)]) = false) : setsQ l i (q + 1) = setsQ l i q := by
  unfold setsQ
  rw [setsQ_take h, hs, List.map_append, List.filter_append]
  simp [ha]
theorem setsTo_mem {l : Ls} {i k : Nat} {s : List Int} (h : k < (setsTo l i).length) (hs : (setsTo l i).getD k [] = s) : (∀ x ∈ s, 0 ≤ x ∧ x < i) ∧ s.length ≤ i := by
  have hm : s ∈ setsTo l i := by
    rw [← hs, List.getD_eq_getElem?_getD, List.getElem?_eq_getElem h]
    exact List.getElem_mem _
  have ha := (mem_setsTo.1 hm).1
  exact ⟨ha.rng, asc_len ha⟩
theorem setsTo_one (l : Ls) : setsTo l 0 = [[]] := rfl
theorem best_one_len : best lenI [[]] = 0 := rfl
theorem best_one_pay (l : Ls) : best (payI l) [[]] = 0 := rfl
end Go.Proofs.Ytpkjgnllkaafkaa

/- MathSp -/
namespace Go.Proofs.Ytpkjgnllkaafkaa

/-- Whether some shift runs. -/
def covB (l : Ls) (m : Int) : Bool := l.any fun s => runB s m
theorem covB_iff {l : Ls} {m : Int} : covB l m = true ↔ ∃ s ∈ l, runB s m = true := by simp [covB]
theorem covB_cnt (l : Ls) (m : Int) : covB l m = decide (0 < cnt l m) := by
  rw [Bool.eq_iff_iff, covB_iff, decide_eq_true_eq]
  exact List.countP_pos_iff.symm
/-- How many of the first moments have some shift that runs. -/
def covN (l : Ls) (n : Nat) : Nat := (moms n).countP (covB l)
theorem covN_zero (l : Ls) : covN l 0 = 0 := rfl
theorem covN_yes {l : Ls} {n : Nat} (h : covB l n = true) : covN l (n + 1) = covN l n + 1 := by
  unfold covN; rw [moms_succ, List.countP_append]; simp [h]
theorem covN_no {l : Ls} {n : Nat} (h : covB l n = false) : covN l (n + 1) = covN l n := by
  unfold covN; rw [moms_succ, List.countP_append]; simp [h]
theorem moms_len (n : Nat) : (moms n).length = n := by simp [moms]
theorem covN_le (l : Ls) (n : Nat) : covN l n ≤ n := by
  have := List.countP_le_length (p := covB l) (l := moms n)
  rw [moms_len] at this
  exact this
theorem covN_congr {l k : Ls} {n : Nat} (h : ∀ m ∈ moms n, covB l m = covB k m) : covN l n = covN k n := by
  unfold covN
  exact List.countP_congr fun m hm => by rw [h m hm]
theorem covN_mono {l k : Ls} {n : Nat} (h : ∀ m ∈ moms n, covB l m = true → covB k m = true) : covN l n ≤ covN k n := List.countP_mono_left h

/-- Stretches from the first on, with a gap between any two. -/
structure Gap (P : Ls) : Prop where
  apart : P.Pairwise fun x y => x.2.1 < y.1
  each : ∀ t ∈ P, 0 ≤ t.1 ∧ t.1 < t.2.1 ∧ t.2.1 ≤ 1000 ∧ t.2.2 = 0
theorem Gap.tail {t : Sh} {P : Ls} (h : Gap (t :: P)) : Gap P := ⟨(List.pairwise_cons.1 h.apart).2, fun x hx => h.each x (by simp [hx])⟩
theorem Gap.later {t : Sh} {P : Ls} (h : Gap (t :: P)) {m : Int} (hm : covB P m = true) : t.2.1 < m := by
  obtain ⟨s, hs, hr⟩ := covB_iff.1 hm
  have := (List.pairwise_cons.1 h.apart).1 s hs
  have := runB_iff.1 hr
  omega
theorem covB_cons (t : Sh) (P : Ls) (m : Int) : covB (t :: P) m = (runB t m || covB P m) := by simp [covB]
/-- Such stretches are told by the moments that they cover. -/
theorem gap_eq : ∀ {P Q : Ls}, Gap P → Gap Q → (∀ m, covB P m = covB Q m) → P = Q
  | [], [], _, _, _ => rfl
  | [], q :: Q, _, hq, h => by
    have h1 := hq.each q (by simp)
    have h2 := h q.1
    have h3 : runB q q.1 = true := runB_iff.2 (by omega)
    rw [covB_cons, h3] at h2
    simp [covB] at h2
  | p :: P, [], hp, _, h => by
    have h1 := hp.each p (by simp)
    have h2 := h p.1
    have h3 : runB p p.1 = true := runB_iff.2 (by omega)
    rw [covB_cons, h3] at h2
    simp [covB] at h2
  | p :: P, q :: Q, hp, hq, h => by
    have p1 := hp.each p (by simp)
    have q1 := hq.each q (by simp)
    have low : ∀ {t : Sh} {T : Ls}, Gap (t :: T) → ∀ m, covB (t :: T) m = true → t.1 ≤ m := by
      intro t T ht m hm
      rw [covB_cons, Bool.or_eq_true] at hm
      have := ht.each t (by simp)
      rcases hm with hm | hm
      · exact (runB_iff.1 hm).1
      · have := ht.later hm; omega
    have fst : ∀ {t : Sh} {T : Ls}, Gap (t :: T) → ∀ m, t.1 ≤ m → m < t.2.1 → covB (t :: T) m = true := by
      intro t T ht m h1 h2
      rw [covB_cons, runB_iff.2 ⟨h1, h2⟩]
      rfl
    have stop : ∀ {t : Sh} {T : Ls}, Gap (t :: T) → covB (t :: T) t.2.1 = false := by
      intro t T ht
      rw [Bool.eq_false_iff]
      intro hm
      rw [covB_cons, Bool.or_eq_true] at hm
      rcases hm with hm | hm
      · have := runB_iff.1 hm; omega
      · have := ht.later hm; omega
    have e1 : p.1 = q.1 := by
      have a1 := low hq p.1 (by rw [← h]; exact fst hp _ (by omega) (by omega))
      have a2 := low hp q.1 (by rw [h]; exact fst hq _ (by omega) (by omega))
      omega
    have e2 : p.2.1 = q.2.1 := by
      rcases Int.lt_trichotomy p.2.1 q.2.1 with hlt | he | hgt
      · have a1 := stop hp
        rw [h, fst hq _ (by omega) hlt] at a1
        cases a1
      · exact he
      · have a1 := stop hq
        rw [← h, fst hp _ (by omega) hgt] at a1
        cases a1
    have e : p = q := Prod.ext e1 (Prod.ext e2 (by rw [p1.2.2.2, q1.2.2.2]))
    subst e
    have ht : P = Q := gap_eq hp.tail hq.tail fun m => by
      have hm := h m
      rw [covB_cons, covB_cons] at hm
      cases hr : runB p m with
      | false => rw [hr] at hm; simpa using hm
      | true =>
        have := runB_iff.1 hr
        have a1 : covB P m = false := by
          rw [Bool.eq_false_iff]; intro hh; have := hp.later hh; omega
        have a2 : covB Q m = false := by
          rw [Bool.eq_false_iff]; intro hh; have := hq.later hh; omega
        rw [a1, a2]
    rw [ht]
/-- How long the stretches are, together. -/
def lenSp (P : Ls) : Int := (P.map fun t => t.2.1 - t.1).sum
theorem run_count {a b : Int} (h0 : 0 ≤ a) (hab : a ≤ b) : ∀ (n : Nat), ((moms n).countP fun m => runB (a, b, 0) m : Nat) = (min (n : Int) b - min (n : Int) a)
  | 0 => by simp [moms]; omega
  | n + 1 => by
    have ih := run_count h0 hab n
    rw [moms_succ, List.countP_append]
    by_cases h : a ≤ n ∧ (n : Int) < b
    · have e : List.countP (fun m => runB (a, b, 0) m) [(n : Int)] = 1 := by
        rw [List.countP_singleton, if_pos (runB_iff.2 h)]
      rw [e]; omega
    · have e : List.countP (fun m => runB (a, b, 0) m) [(n : Int)] = 0 := by
        rw [List.countP_singleton, if_neg fun hr => h (runB_iff.1 hr)]
      rw [e]; omega
theorem lenSp_cov : ∀ {P : Ls}, Gap P → lenSp P = covN P 1000
  | [], _ => by
    have e : ∀ ms : List Int, List.countP (covB []) ms = 0 := fun ms => by
      induction ms with
      | nil => rfl
      | cons m ms ih => rw [List.countP_cons, ih]; rfl
    unfold covN
    rw [e]
    rfl
  | p :: P, h => by
    have ih := lenSp_cov h.tail
    have p1 := h.each p (by simp)
    have e1 : covN (p :: P) 1000 = ((moms 1000).countP fun m => runB p m) + covN P 1000 := by
      unfold covN
      have hd : ∀ m, ¬ (runB p m = true ∧ covB P m = true) := by
        rintro m ⟨h1, h2⟩
        have := runB_iff.1 h1
        have := h.later h2
        omega
      induction moms 1000 with
      | nil => rfl
      | cons m ms ih =>
        rw [List.countP_cons, List.countP_cons, List.countP_cons, ih, covB_cons]
        have := hd m
        cases h1 : runB p m <;> cases h2 : covB P m <;> simp_all <;> omega
    have e2 := run_count (a := p.1) (b := p.2.1) p1.1 (by omega) 1000
    have e3 : (fun m => runB (p.1, p.2.1, 0) m) = fun m => runB p m := rfl
    rw [e3] at e2
    rw [e1]
    simp only [lenSp, List.map_cons, List.sum_cons] at ih ⊢
    rw [ih]
    omega

/-! The program's way: by the beginnings. The last stretch comes first here. -/
def spF : Ls → Nm → Ls
  | [], s => [(s.1, s.2.1, 0)]
  | t :: R, s => if s.1 ≤ t.2.1 then (t.1, max t.2.1 s.2.1, t.2.2) :: R else (s.1, s.2.1, 0) :: t :: R
def spR (L : Ns) : Ls := L.foldl spF []
theorem spR_snoc (L : Ns) (s : Nm) : spR (L ++ [s]) = spF (spR L) s := by simp [spR]
structure SpOf (L : Ns) (R : Ls) : Prop where
  apart : R.Pairwise fun x y => y.2.1 < x.1
  each : ∀ t ∈ R, 0 ≤ t.1 ∧ t.1 < t.2.1 ∧ t.2.1 ≤ 1000 ∧ t.2.2 = 0
  cov : ∀ m, covB R m = covB (L.map shOf) m
  from_ : ∀ t ∈ R, ∃ s ∈ L, s.1 = t.1
  len : R.length ≤ L.length
theorem covB_app (l k : Ls) (m : Int) : covB (l ++ k) m = (covB l m || covB k m) := by simp [covB]
theorem spR_of' : ∀ (n : Nat) (L : Ns), L.length = n → (L.Pairwise fun x y => kf x ≤ kf y) → (∀ s ∈ L, okN s) → SpOf L (spR L)
  | 0, L, hn, _, _ => by
    obtain rfl := List.eq_nil_of_length_eq_zero hn
    exact ⟨List.Pairwise.nil, by simp [spR], by simp [spR], by simp [spR], by simp [spR]⟩
  | n + 1, L, hn, hs, hok => by
    have hne : L ≠ [] := by intro e; subst e; simp at hn
    obtain ⟨L, s, rfl⟩ : ∃ ini c, L = ini ++ [c] := ⟨L.dropLast, L.getLast hne, (List.dropLast_concat_getLast hne).symm⟩
    rw [List.pairwise_append] at hs
    obtain ⟨h1, _, h3⟩ := hs
    have ih := spR_of' n L (by simpa using hn) h1 fun x hx => hok x (by simp [hx])
    have hs0 := hok s (by simp)
    unfold okN at hs0
    have hcov : ∀ m, covB ((L ++ [s]).map shOf) m = (covB (L.map shOf) m || runB (shOf s) m) := by
      intro m; rw [List.map_append, covB_app]; simp [covB]
    rw [spR_snoc]
    have hfr : ∀ t ∈ spR L, t.1 ≤ s.1 := by
      intro t ht
      obtain ⟨x, hx, e⟩ := ih.from_ t ht
      have := h3 x hx s (by simp)
      unfold kf at this
      omega
    generalize spR L = R at *
    cases R with
    | nil =>
      refine ⟨by simp [spF], ?_, ?_, ?_, by simp [spF]⟩
      · intro t ht; simp [spF] at ht; subst ht; exact ⟨hs0.1, hs0.2.1, hs0.2.2.1, rfl⟩
      · intro m
        rw [hcov, ← ih.cov m]
        simp [spF, covB]
        rfl
      · intro t ht; simp [spF] at ht; subst ht; exact ⟨s, by simp, rfl⟩
    | cons t R =>
      have t1 := ih.each t (by simp)
      have t2 := hfr t (by simp)
      by_cases h : s.1 ≤ t.2.1
      · have e : spF (t :: R) s = (t.1, max t.2.1 s.2.1, t.2.2) :: R := if_pos h
        rw [e]
        refine ⟨?_, ?_, ?_, ?_, ?_⟩
        · have := List.pairwise_cons.1 ih.apart
          exact List.pairwise_cons.2 ⟨fun y hy => this.1 y hy, this.2⟩
        · intro x hx
          rcases List.mem_cons.1 hx with rfl | hx
          · simp only; omega
          · exact ih.each x (by simp [hx])
        · intro m
          rw [hcov, ← ih.cov m, covB_cons, covB_cons]
          have e : runB (t.1, max t.2.1 s.2.1, t.2.2) m = (runB t m || runB (shOf s) m) := by
            rw [Bool.eq_iff_iff, Bool.or_eq_true, runB_iff, runB_iff, runB_iff]
            simp only [shOf]
            omega
          rw [e]
          cases runB t m <;> cases runB (shOf s) m <;> cases covB R m <;> rfl
        · intro x hx
          rcases List.mem_cons.1 hx with rfl | hx
          · obtain ⟨y, hy, e⟩ := ih.from_ t (by simp)
            exact ⟨y, by simp [hy], e⟩
          · obtain ⟨y, hy, e⟩ := ih.from_ x (by simp [hx])
            exact ⟨y, by simp [hy], e⟩
        · have := ih.len
          simp at this ⊢; omega
      · have e : spF (t :: R) s = (s.1, s.2.1, 0) :: t :: R := if_neg h
        rw [e]
        refine ⟨?_, ?_, ?_, ?_, ?_⟩
        · refine List.pairwise_cons.2 ⟨fun y hy => ?_, ih.apart⟩
          rcases List.mem_cons.1 hy with rfl | hy
          · simp only; omega
          · have := (List.pairwise_cons.1 ih.apart).1 y hy
            simp only; omega
        · intro x hx
          rcases List.mem_cons.1 hx with rfl | hx
          · exact ⟨hs0.1, hs0.2.1, hs0.2.2.1, rfl⟩
          · exact ih.each x hx
        · intro m
          rw [hcov, ← ih.cov m, covB_cons, Bool.or_comm]
          rfl
        · intro x hx
          rcases List.mem_cons.1 hx with rfl | hx
          · exact ⟨s, by simp, rfl⟩
          · obtain ⟨y, hy, e⟩ := ih.from_ x hx
            exact ⟨y, by simp [hy], e⟩
        · have := ih.len
          simp at this ⊢; omega
theorem covB_perm {l k : Ls} (h : ∀ s, s ∈ l ↔ s ∈ k) (m : Int) : covB l m = covB k m := by
  rw [Bool.eq_iff_iff, covB_iff, covB_iff]
  constructor
  · rintro ⟨s, hs, hr⟩; exact ⟨s, (h s).1 hs, hr⟩
  · rintro ⟨s, hs, hr⟩; exact ⟨s, (h s).2 hs, hr⟩
theorem num_sh (l : Ls) : (num l).map shOf = l := by
  apply List.ext_getElem
  · simp [num]
  · intro i h1 h2
    simp [num, shOf, List.getD_eq_getElem?_getD, h2]
/-- The spells of shifts. -/
structure SpellsOf (l P : Ls) : Prop where
  gap : Gap P
  cov : ∀ m, covB P m = covB l m
  len : P.length ≤ l.length
theorem spells_of {l : Ls} (ok : ∀ s ∈ l, okS s = true) {L : Ns} (h : Ord kf l L) : SpellsOf l (spR L).reverse := by
  have h1 := spR_of' _ L rfl h.sorted fun x hx => num_ok ok (h.perm.mem_iff.1 hx)
  refine ⟨⟨List.pairwise_reverse.2 h1.apart, fun t ht => h1.each t (by simpa using ht)⟩, fun m => ?_, ?_⟩
  · rw [covB_perm (k := spR L) (fun s => List.mem_reverse), h1.cov m]
    have e : (L.map shOf).Perm l := by
      have := h.perm.map shOf
      rwa [num_sh] at this
    exact covB_perm (fun s => e.mem_iff) m
  · rw [List.length_reverse, ← h.len]; exact h1.len
theorem SpellsOf.uniq {l P Q : Ls} (hp : SpellsOf l P) (hq : SpellsOf l Q) : P = Q := gap_eq hp.gap hq.gap fun m => by rw [hp.cov, hq.cov]
theorem SpellsOf.sum {l P : Ls} (h : SpellsOf l P) : lenSp P = covN l 1000 := by
  rw [lenSp_cov h.gap, covN_congr fun m _ => h.cov m]
theorem SpellsOf.ok {l P : Ls} (h : SpellsOf l P) (he : errV l = 0) : errV P = 0 := by
  obtain ⟨h1, _⟩ := errV_ok.1 he
  refine errV_ok.2 ⟨by have := h.len; omega, fun s hs => okS_iff.2 ?_⟩
  have := h.gap.each s hs
  omega
theorem SpellsOf.alone {l P : Ls} (h : SpellsOf l P) : Alone P := by
  unfold Alone
  refine h.gap.apart.imp fun {x y} hxy => ?_
  rw [Bool.eq_false_iff]
  intro ho
  have := ovB_iff.1 ho
  omega

/-! The document's way: moment by moment. -/
/-- The stretches after the first moments; the last one may be open (its end is not known). -/
structure SpTo (l : Ls) (n : Nat) (P : Ls) (now : Bool) : Prop where
  now_ : now = (decide (0 < n) && covB l (n - 1))
  closed : now = false → Gap P ∧ (∀ m, covB P m = (covB l m && decide (m < n))) ∧ ∀ t ∈ P, t.2.1 < n
  open_ : now = true → ∃ (Q : Ls) (f : Int), P = Q ++ [(f, 0, 0)] ∧ 0 ≤ f ∧ f < n ∧ Gap Q ∧ (∀ t ∈ Q, t.2.1 < f) ∧ (∀ m, f ≤ m → m < n → covB l m = true) ∧ ∀ m, covB Q m = (covB l m && decide (m < f))
theorem covB_neg {l : Ls} (ok : ∀ s ∈ l, okS s = true) {m : Int} (h : m < 0 ∨ 1000 ≤ m) : covB l m = false := by
  rw [Bool.eq_false_iff]
  intro hh
  obtain ⟨s, hs, hr⟩ := covB_iff.1 hh
  have := okS_iff.1 (ok s hs)
  have := runB_iff.1 hr
  omega
theorem spTo_zero {l : Ls} (ok : ∀ s ∈ l, okS s = true) : SpTo l 0 [] false := by
  refine ⟨rfl, fun _ => ⟨⟨List.Pairwise.nil, by simp⟩, fun m => ?_, by simp⟩, by simp⟩
  by_cases h : m < 0
  · rw [covB_neg ok (.inl h)]; rfl
  · have : decide (m < ((0 : Nat) : Int)) = false := by simpa using h
    rw [this, Bool.and_false]; rfl
theorem spTo_out {l : Ls} {n : Nat} {P : Ls} (h : SpTo l n P false) (hc : covB l n = false) : SpTo l (n + 1) P false := by
  obtain ⟨h1, h2, h3⟩ := h.closed rfl
  refine ⟨?_, fun _ => ⟨h1, fun m => ?_, fun t ht => by have := h3 t ht; omega⟩, by simp⟩
  · have e : ((n + 1 : Nat) : Int) - 1 = n := by omega
    rw [e, hc, Bool.and_false]
  · rw [h2 m]
    by_cases e : m = n
    · subst e; rw [hc]; rfl
    · have : decide (m < (n : Int)) = decide (m < ((n + 1 : Nat) : Int)) := by rw [decide_eq_decide]; omega
      rw [this]
theorem spTo_start {l : Ls} {n : Nat} {P : Ls} (h : SpTo l n P false) (hc : covB l n = true) : SpTo l (n + 1) (P ++ [((n : Int), 0, 0)]) true := by
  obtain ⟨h1, h2, h3⟩ := h.closed rfl
  refine ⟨?_, by simp, fun _ => ⟨P, n, rfl, by omega, by omega, h1, h3, fun m a b => ?_, h2⟩⟩
  · have e : ((n + 1 : Nat) : Int) - 1 = n := by omega
    rw [e, hc]; simp
  · obtain rfl : m = n := by omega
    exact hc
theorem spTo_go {l : Ls} {n : Nat} {P : Ls} (h : SpTo l n P true) (hc : covB l n = true) : SpTo l (n + 1) P true := by
  obtain ⟨Q, f, rfl, h0, h1, h2, h3, h4, h5⟩ := h.open_ rfl
  refine ⟨?_, by simp, fun _ => ⟨Q, f, rfl, h0, by omega, h2, h3, fun m a b => ?_, h5⟩⟩
  · have e : ((n + 1 : Nat) : Int) - 1 = n := by omega
    rw [e, hc]; simp
  · by_cases e : m = n
    · subst e; exact hc
    · exact h4 m a (by omega)
theorem spTo_end {l : Ls} {n : Nat} {P : Ls} (hn : n ≤ 1000) (h : SpTo l n P true) (hc : covB l n = false) : ∃ (Q : Ls) (f : Int), P = Q ++ [(f, 0, 0)] ∧ SpTo l (n + 1) (Q ++ [(f, (n : Int), 0)]) false := by
  obtain ⟨Q, f, rfl, h0, h1, h2, h3, h4, h5⟩ := h.open_ rfl
  refine ⟨Q, f, rfl, ?_, fun _ => ⟨⟨?_, ?_⟩, fun m => ?_, fun t ht => ?_⟩, by simp⟩
  · have e : ((n + 1 : Nat) : Int) - 1 = n := by omega
    rw [e, hc, Bool.and_false]
  · refine List.pairwise_append.2 ⟨h2.apart, by simp, fun a ha b hb => ?_⟩
    simp at hb; subst hb
    exact h3 a ha
  · intro t ht
    rcases List.mem_append.1 ht with ht | ht
    · exact h2.each t ht
    · simp at ht; subst ht; exact ⟨h0, h1, by simp only; omega, rfl⟩
  · rw [covB_app, h5 m]
    have e : covB [(f, (n : Int), 0)] m = runB (f, (n : Int), 0) m := by simp [covB]
    rw [e, Bool.eq_iff_iff]
    simp only [Bool.or_eq_true, Bool.and_eq_true, decide_eq_true_eq, runB_iff]
    constructor
    · rintro (⟨a, b⟩ | ⟨a, b⟩)
      · exact ⟨a, by omega⟩
      · exact ⟨h4 m a b, by omega⟩
    · rintro ⟨a, b⟩
      by_cases hm : m < f
      · exact .inl ⟨a, hm⟩
      · refine .inr ⟨by omega, ?_⟩
        have : m ≠ n := fun e => by subst e; rw [hc] at a; cases a
        omega
  · rcases List.mem_append.1 ht with ht | ht
    · have := h3 t ht; omega
    · simp at ht; subst ht; simp only; omega
theorem spTo_done {l : Ls} (ok : ∀ s ∈ l, okS s = true) {P Q : Ls} {now : Bool} (h : SpTo l 1001 P now) (hQ : SpellsOf l Q) : P = Q := by
  have hz : covB l 1000 = false := covB_neg ok (.inr (Int.le_refl _))
  have hnow : now = false := by
    rw [h.now_]
    have e : ((1001 : Nat) : Int) - 1 = 1000 := rfl
    rw [e, hz, Bool.and_false]
  obtain ⟨h1, h2, _⟩ := h.closed hnow
  refine gap_eq h1 hQ.gap fun m => ?_
  rw [h2 m, hQ.cov m]
  by_cases hm : m < ((1001 : Nat) : Int)
  · rw [decide_eq_true hm, Bool.and_true]
  · rw [covB_neg ok (.inr (by omega))]; rfl
/-- How many stretches there are at most, on the way. -/
theorem spTo_len {l : Ls} {n : Nat} {P : Ls} {now : Bool} (h : SpTo l n P now) : P.length ≤ 2000 := by
  have key : ∀ (R : Ls), Gap R → (R.length : Int) ≤ 1000 := by
    intro R hR
    have h1 := lenSp_cov hR
    have h2 := covN_le R 1000
    have h3 : (R.length : Int) ≤ lenSp R := by
      have := hR.each
      clear h1 h2 hR
      induction R with
      | nil => simp [lenSp]
      | cons t R ih =>
        have a := ih fun x hx => this x (by simp [hx])
        have b := this t (by simp)
        simp only [lenSp, List.map_cons, List.sum_cons, List.length_cons] at a ⊢
        omega
    omega
  cases now with
  | false => have := key P (h.closed rfl).1; omega
  | true =>
    obtain ⟨Q, f, rfl, _, _, h2, _⟩ := h.open_ rfl
    have := key Q h2
    simp; omega
end Go.Proofs.Ytpkjgnllkaafkaa

/- MathMi -/
namespace Go.Proofs.Ytpkjgnllkaafkaa

/-! Peaks by moments. -/
theorem peak_le {g h : Int → Nat} {n : Nat} (hh : ∀ m ∈ moms n, 0 < g m → ∃ k ∈ moms n, g m ≤ h k) : (scan g (moms n)).2 ≤ (scan h (moms n)).2 := by
  have h1 := scan_pk g _ (moms_sorted n)
  have h2 := scan_pk h _ (moms_sorted n)
  rcases h1.at_ with ⟨e, _⟩ | ⟨e1, e2, e3, _⟩
  · omega
  · obtain ⟨k, hk, hle⟩ := hh _ e2 (by omega)
    have := h2.top k hk
    omega
theorem cnt_sub {l k : Ls} (h : l.Sublist k) (m : Int) : cnt l m ≤ cnt k m := h.countP_le
theorem peak_sub {l k : Ls} (h : l.Sublist k) : (scan (cnt l) (moms 1001)).2 ≤ (scan (cnt k) (moms 1001)).2 :=
  peak_le fun m hm _ => ⟨m, hm, cnt_sub h m⟩
theorem covN_sub {l k : Ls} (h : l.Sublist k) (n : Nat) : covN l n ≤ covN k n := covN_mono fun m _ hm => by
  obtain ⟨s, hs, hr⟩ := covB_iff.1 hm
  exact covB_iff.2 ⟨s, h.subset hs, hr⟩

/-! The shifts seen from the other end of the time. -/
def mir (s : Sh) : Sh := (1000 - s.2.1, 1000 - s.1, s.2.2)
def mirL (l : Ls) : Ls := l.map mir
theorem mirL_len (l : Ls) : (mirL l).length = l.length := by simp [mirL]
theorem mir_run (s : Sh) (m : Int) : runB (mir s) m = runB s (999 - m) := by
  rw [Bool.eq_iff_iff, runB_iff, runB_iff]; simp only [mir]; omega
theorem mir_ok {s : Sh} (h : okS s = true) : okS (mir s) = true := by
  rw [okS_iff] at h ⊢; simp only [mir]; omega
theorem mir_errV {l : Ls} (h : errV l = 0) : errV (mirL l) = 0 := by
  obtain ⟨h1, h2⟩ := errV_ok.1 h
  refine errV_ok.2 ⟨by rw [mirL_len]; exact h1, fun s hs => ?_⟩
  obtain ⟨t, ht, rfl⟩ := List.mem_map.1 hs
  exact mir_ok (h2 t ht)
theorem mir_cnt (l : Ls) (m : Int) : cnt (mirL l) m = cnt l (999 - m) := by
  unfold cnt mirL
  rw [List.countP_map]
  exact List.countP_congr fun s _ => by simp only [Function.comp]; rw [mir_run]
theorem mir_mir (l : Ls) : mirL (mirL l) = l := by
  unfold mirL
  rw [List.map_map]
  have : (mir ∘ mir) = id := by
    funext s
    obtain ⟨a, b, c⟩ := s
    simp only [mir, Function.comp, id]
    have e1 : 1000 - (1000 - a) = a := by omega
    have e2 : 1000 - (1000 - b) = b := by omega
    rw [e1, e2]
  rw [this, List.map_id]
theorem mir_peak_le {l : Ls} (ok : ∀ s ∈ l, okS s = true) : (scan (cnt l) (moms 1001)).2 ≤ (scan (cnt (mirL l)) (moms 1001)).2 := by
  refine peak_le fun m hm hp => ⟨999 - m, ?_, ?_⟩
  · have h1 := mem_moms.1 hm
    have h2 : m < 1000 := by
      have hc : covB l m = true := by rw [covB_cnt]; exact decide_eq_true hp
      apply Int.not_le.1
      intro hh
      rw [covB_neg ok (.inr hh)] at hc
      cases hc
    rw [mem_moms]; omega
  · rw [mir_cnt, show (999 : Int) - (999 - m) = m by omega]
    exact Nat.le_refl _
theorem mir_peak {l : Ls} (ok : ∀ s ∈ l, okS s = true) : (scan (cnt (mirL l)) (moms 1001)).2 = (scan (cnt l) (moms 1001)).2 := by
  refine Nat.le_antisymm ?_ (mir_peak_le ok)
  have h := mir_peak_le (l := mirL l) fun s hs => by
    obtain ⟨t, ht, rfl⟩ := List.mem_map.1 hs
    exact mir_ok (ok t ht)
  rw [mir_mir] at h
  exact h
theorem mir_cov (l : Ls) (m : Int) : covB (mirL l) m = covB l (999 - m) := by rw [covB_cnt, covB_cnt, mir_cnt]
theorem moms_rev (n : Nat) : (moms n).reverse = (moms n).map fun m => (n : Int) - 1 - m := by
  apply List.ext_getElem
  · simp
  · intro i h1 h2
    simp [moms] at h1 ⊢
    omega
theorem mir_covN (l : Ls) : covN (mirL l) 1000 = covN l 1000 := by
  unfold covN
  have h := moms_rev 1000
  have e : (moms 1000).countP (covB l) = ((moms 1000).reverse).countP (covB l) := by rw [List.countP_reverse]
  rw [e, h, List.countP_map]
  refine List.countP_congr fun m _ => ?_
  simp only [Function.comp]
  rw [mir_cov]
  have : (999 : Int) - m = ((1000 : Nat) : Int) - 1 - m := by omega
  rw [this]
theorem mir_ov (x y : Sh) : ovB (mir x) (mir y) = ovB x y := by
  rw [Bool.eq_iff_iff, ovB_iff, ovB_iff]; simp only [mir]; omega
theorem mir_at {l : Ls} {i : Int} (h0 : 0 ≤ i) (h : i < l.length) : shAt (mirL l) i = mir (shAt l i) := by
  unfold shAt mirL
  have : i.toNat < l.length := by omega
  simp [List.getD_eq_getElem?_getD, this]
theorem mir_pick {l : Ls} {I : List Int} (h : ∀ x ∈ I, 0 ≤ x ∧ x < l.length) : pick (mirL l) I = (pick l I).map mir := by
  unfold pick
  rw [List.map_map]
  exact List.map_congr_left fun i hi => mir_at (h i hi).1 (h i hi).2
theorem mir_alone {l : Ls} {I : List Int} (h : ∀ x ∈ I, 0 ≤ x ∧ x < l.length) : Alone (pick (mirL l) I) ↔ Alone (pick l I) := by
  rw [mir_pick h]
  unfold Alone
  rw [List.pairwise_map]
  simp only [mir_ov]
theorem mir_pay {l : Ls} {I : List Int} (h : ∀ x ∈ I, 0 ≤ x ∧ x < l.length) : payI (mirL l) I = payI l I := by
  unfold payI paySum
  rw [mir_pick h, List.map_map]
  rfl

/-! The shifts without one. -/
def del (l : Ls) (i : Nat) : Ls := l.take i ++ l.drop (i + 1)
theorem del_len {l : Ls} {i : Nat} (h : i < l.length) : (del l i).length + 1 = l.length := by
  unfold del; rw [List.length_append, List.length_take, List.length_drop]; omega
theorem del_sub (l : Ls) (i : Nat) : (del l i).Sublist l := by
  unfold del
  have h1 : (l.take i ++ l.drop (i + 1)).Sublist (l.take i ++ l.drop i) :=
    (List.Sublist.refl _).append (List.drop_sublist_drop_left l (by omega))
  rwa [List.take_append_drop] at h1
theorem del_errV {l : Ls} (i : Nat) (h : errV l = 0) : errV (del l i) = 0 := by
  obtain ⟨h1, h2⟩ := errV_ok.1 h
  have hs := del_sub l i
  exact errV_ok.2 ⟨Nat.le_trans hs.length_le h1, fun s hm => h2 s (hs.subset hm)⟩
def upI (i : Nat) (j : Int) : Int := if j < i then j else j + 1
theorem del_at {l : Ls} {i : Nat} {j : Int} (hi : i < l.length) (h0 : 0 ≤ j) : shAt (del l i) j = shAt l (upI i j) := by
  unfold shAt del upI
  by_cases h : j < i
  · rw [if_pos h]
    have : j.toNat < i := by omega
    rw [List.getD_eq_getElem?_getD, List.getElem?_append_left (by rw [List.length_take]; omega), List.getElem?_take, if_pos this, List.getD_eq_getElem?_getD]
  · rw [if_neg h, List.getD_eq_getElem?_getD, List.getElem?_append_right (by rw [List.length_take]; omega), List.length_take, List.getElem?_drop, List.getD_eq_getElem?_getD]
    congr 2
    omega
theorem del_pick {l : Ls} {i : Nat} {I : List Int} (hi : i < l.length) (h : ∀ x ∈ I, 0 ≤ x) : pick l (I.map (upI i)) = pick (del l i) I := by
  unfold pick
  rw [List.map_map]
  exact List.map_congr_left fun j hj => (del_at hi (h j hj)).symm
theorem del_asc {l : Ls} {i : Nat} {I : List Int} (hi : i < l.length) (h : Asc (del l i).length I) : Asc l.length (I.map (upI i)) := by
  have hl := del_len hi
  refine ⟨?_, fun x hx => ?_⟩
  · rw [List.pairwise_map]
    refine h.up.imp fun {a b} hab => ?_
    unfold upI
    split <;> split <;> omega
  · obtain ⟨j, hj, rfl⟩ := List.mem_map.1 hx
    have := h.rng j hj
    unfold upI
    split <;> omega
theorem del_pay {l : Ls} {i : Nat} {I : List Int} (hi : i < l.length) (h : ∀ x ∈ I, 0 ≤ x) : payI l (I.map (upI i)) = payI (del l i) I := by unfold payI; rw [del_pick hi h]

/-! A shift that ends later. -/
def lon (s : Sh) (by_ : Int) : Sh := (s.1, s.2.1 + by_, s.2.2)
def strL (l : Ls) (i : Nat) (by_ : Int) : Ls := l.set i (lon (l.getD i sh0) by_)
theorem strL_cnt {l : Ls} {i : Nat} {by_ : Int} (hb : 0 ≤ by_) (m : Int) : cnt l m ≤ cnt (strL l i by_) m := by
  unfold strL cnt
  induction l generalizing i with
  | nil => simp
  | cons s l ih =>
    cases i with
    | zero =>
      simp only [List.set_cons_zero, List.countP_cons]
      have e : List.getD (s :: l) 0 sh0 = s := rfl
      rw [e]
      have : runB s m = true → runB (lon s by_) m = true := by
        rw [runB_iff, runB_iff]; simp only [lon]; omega
      split
      · rename_i h; rw [if_pos (this h)]; exact Nat.le_refl _
      · omega
    | succ i =>
      simp only [List.set_cons_succ, List.countP_cons]
      have e : List.getD (s :: l) (i + 1) sh0 = l.getD i sh0 := by simp [List.getD_eq_getElem?_getD]
      rw [e]
      have := ih (i := i)
      omega
theorem strL_peak {l : Ls} {i : Nat} {by_ : Int} (hb : 0 ≤ by_) : (scan (cnt l) (moms 1001)).2 ≤ (scan (cnt (strL l i by_)) (moms 1001)).2 :=
  peak_le fun m hm _ => ⟨m, hm, strL_cnt hb m⟩
end Go.Proofs.Ytpkjgnllkaafkaa
