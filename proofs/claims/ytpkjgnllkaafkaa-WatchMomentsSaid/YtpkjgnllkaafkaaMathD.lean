import Derived.Test.YtpkjgnllkaafkaaMathC
/- Sets of numbers of shifts, and the best of all; no program. -/
namespace Go.Proofs.Ytpkjgnllkaafkaa

def shAt (l : Ls) (i : Int) : Sh := l.getD i.toNat sh0
def pick (l : Ls) (I : List Int) : Ls := I.map (shAt l)
structure Asc (n : Nat) (I : List Int) : Prop where
  up : I.Pairwise (· < ·)
  rng : ∀ x ∈ I, 0 ≤ x ∧ x < n
theorem asc_nil (n : Nat) : Asc n [] := ⟨List.Pairwise.nil, by simp⟩
theorem asc_snoc {i : Nat} {I : List Int} (h : Asc i I) : Asc (i + 1) (I ++ [(i : Int)]) := by
  refine ⟨List.pairwise_append.2 ⟨h.up, by simp, fun a ha b hb => ?_⟩, fun x hx => ?_⟩
  · simp at hb; subst hb; exact (h.rng a ha).2
  · rcases List.mem_append.1 hx with hx | hx
    · have := h.rng x hx; omega
    · simp at hx; omega
theorem asc_more {i : Nat} {I : List Int} (h : Asc i I) : Asc (i + 1) I := ⟨h.up, fun x hx => by have := h.rng x hx; omega⟩
theorem asc_cases {i : Nat} {I : List Int} (h : Asc (i + 1) I) : Asc i I ∨ ∃ J, I = J ++ [(i : Int)] ∧ Asc i J := by
  by_cases hi : (i : Int) ∈ I
  · right
    have hne : I ≠ [] := by intro e; subst e; cases hi
    obtain ⟨J, c, rfl⟩ : ∃ ini c, I = ini ++ [c] := ⟨I.dropLast, I.getLast hne, (List.dropLast_concat_getLast hne).symm⟩
    have hu := List.pairwise_append.1 h.up
    have hc : c = i := by
      rcases List.mem_append.1 hi with hj | hj
      · have := hu.2.2 _ hj c (by simp)
        have := (h.rng c (by simp)).2
        omega
      · simp at hj; exact hj.symm
    subst hc
    refine ⟨J, rfl, hu.1, fun x hx => ⟨(h.rng x (by simp [hx])).1, ?_⟩⟩
    exact hu.2.2 x hx _ (by simp)
  · left
    refine ⟨h.up, fun x hx => ⟨(h.rng x hx).1, ?_⟩⟩
    have h1 := (h.rng x hx).2
    have h2 : x ≠ i := fun e => hi (e ▸ hx)
    omega
theorem asc_len {n : Nat} {I : List Int} (h : Asc n I) : I.length ≤ n := by
  have : ∀ (n : Nat) (I : List Int), Asc n I → I.length ≤ n := by
    intro n
    induction n with
    | zero =>
      intro I h
      cases I with
      | nil => simp
      | cons x I => have := h.rng x (by simp); omega
    | succ n ih =>
      intro I h
      rcases asc_cases h with h | ⟨J, rfl, hJ⟩
      · have := ih I h; omega
      · have := ih J hJ; simp; omega
  exact this n I h
/-- Whether a set of numbers is alone, as the document asks it: each against those before it. -/
def aloneB (l : Ls) (I : List Int) : Bool := (List.range I.length).all fun i => (List.range i).all fun k => !ovB (shAt l (I.getD i 0)) (shAt l (I.getD k 0))
theorem aloneB_iff {l : Ls} {I : List Int} : aloneB l I = true ↔ Alone (pick l I) := by
  unfold aloneB Alone pick
  rw [List.pairwise_map, List.pairwise_iff_getElem]
  simp only [List.all_eq_true, List.mem_range, Bool.not_eq_true']
  constructor
  · intro h a b ha hb hab
    have := h b hb a hab
    rw [ovB_comm]
    simpa [List.getD_eq_getElem?_getD, ha, hb] using this
  · intro h b hb a hab
    have := h a b (by omega) hb hab
    rw [ovB_comm]
    simpa [List.getD_eq_getElem?_getD, show a < I.length by omega, hb] using this
/-- All sets of the first i that are alone, in the order in which they are found. -/
def setsTo (l : Ls) : Nat → List (List Int)
  | 0 => [[]]
  | i + 1 => setsTo l i ++ ((setsTo l i).reverse.map (· ++ [(i : Int)])).filter (aloneB l)
theorem mem_setsTo {l : Ls} : ∀ {i : Nat} {I : List Int}, I ∈ setsTo l i ↔ Asc i I ∧ Alone (pick l I)
  | 0, I => by
    simp only [setsTo, List.mem_singleton]
    constructor
    · rintro rfl; exact ⟨asc_nil 0, List.Pairwise.nil⟩
    · rintro ⟨h, _⟩
      exact List.eq_nil_of_length_eq_zero (by have := asc_len h; omega)
  | i + 1, I => by
    simp only [setsTo, List.mem_append, List.mem_filter, List.mem_map, List.mem_reverse]
    constructor
    · rintro (h | ⟨⟨J, hJ, rfl⟩, ha⟩)
      · obtain ⟨h1, h2⟩ := mem_setsTo.1 h
        exact ⟨asc_more h1, h2⟩
      · exact ⟨asc_snoc (mem_setsTo.1 hJ).1, aloneB_iff.1 ha⟩
    · rintro ⟨h1, h2⟩
      rcases asc_cases h1 with h1 | ⟨J, rfl, hJ⟩
      · exact .inl (mem_setsTo.2 ⟨h1, h2⟩)
      · refine .inr ⟨⟨J, mem_setsTo.2 ⟨hJ, ?_⟩, rfl⟩, aloneB_iff.2 h2⟩
        have : Alone (pick l J ++ pick l [(i : Int)]) := by simpa [pick] using h2
        exact (List.pairwise_append.1 this).1
theorem setsTo_len (l : Ls) : ∀ (i : Nat), (setsTo l i).length ≤ 2 ^ i
  | 0 => by simp [setsTo]
  | i + 1 => by
    have h1 := setsTo_len l i
    have h2 := List.length_filter_le (aloneB l) ((setsTo l i).reverse.map (· ++ [(i : Int)]))
    simp only [List.length_map, List.length_reverse] at h2
    simp only [setsTo, List.length_append]
    omega
/-- The greatest value of all. -/
def best (f : List Int → Int) (ss : List (List Int)) : Int := ss.foldl (fun a s => max a (f s)) 0
theorem best_nil (f : List Int → Int) : best f [] = 0 := rfl
theorem best_app (f : List Int → Int) (a b : List (List Int)) : best f (a ++ b) = b.foldl (fun a s => max a (f s)) (best f a) := by simp [best]
theorem best_snoc (f : List Int → Int) (a : List (List Int)) (s : List Int) : best f (a ++ [s]) = max (best f a) (f s) := by rw [best_app]; rfl
theorem best_spec (f : List Int → Int) : ∀ (n : Nat) (ss : List (List Int)), ss.length = n → (∀ s ∈ ss, f s ≤ best f ss) ∧ 0 ≤ best f ss ∧ (best f ss = 0 ∨ ∃ s ∈ ss, f s = best f ss)
  | 0, ss, hn => by
    obtain rfl := List.eq_nil_of_length_eq_zero hn
    exact ⟨by simp, Int.le_refl _, .inl rfl⟩
  | n + 1, ss, hn => by
    have hne : ss ≠ [] := by intro e; subst e; simp at hn
    obtain ⟨ss, c, rfl⟩ : ∃ ini c, ss = ini ++ [c] := ⟨ss.dropLast, ss.getLast hne, (List.dropLast_concat_getLast hne).symm⟩
    obtain ⟨h1, h2, h3⟩ := best_spec f n ss (by simpa using hn)
    rw [best_snoc]
    refine ⟨fun s hs => ?_, by omega, ?_⟩
    · rcases List.mem_append.1 hs with hs | hs
      · have := h1 s hs; omega
      · simp at hs; subst hs; omega
    · by_cases hc : best f ss < f c
      · exact .inr ⟨c, by simp, by omega⟩
      · rcases h3 with h3 | ⟨s, hs, h3⟩
        · exact .inl (by omega)
        · exact .inr ⟨s, by simp [hs], by omega⟩
def lenI (I : List Int) : Int := I.length
def payI (l : Ls) (I : List Int) : Int := paySum (pick l I)
/-- A best value that is met is the best of all sets. -/
theorem best_eq {l : Ls} {f : List Int → Int} {v : Int} (hv : 0 ≤ v) (h1 : ∀ I, Asc l.length I → Alone (pick l I) → f I ≤ v) {I : List Int} (h2 : Asc l.length I) (h3 : Alone (pick l I)) (h4 : f I = v) :
    best f (setsTo l l.length) = v := by
  obtain ⟨b1, b2, b3⟩ := best_spec f _ (setsTo l l.length) rfl
  have e1 := b1 I (mem_setsTo.2 ⟨h2, h3⟩)
  rcases b3 with b3 | ⟨s, hs, b3⟩
  · omega
  · obtain ⟨g1, g2⟩ := mem_setsTo.1 hs
    have := h1 s g1 g2
    omega

/-! What the rests choose, as numbers. -/
theorem num_num (l : Ls) : (num l).map (·.2.2.2) = moms l.length := by
  apply List.ext_getElem
  · simp [num, moms]
  · intro i h1 h2
    simp [num, moms]
theorem moms_nodup (n : Nat) : (moms n).Pairwise (· < ·) := by
  rw [moms, List.pairwise_map]
  exact List.pairwise_lt_range.imp fun h => by omega
theorem mem_num {l : Ls} {x : Nm} (h : x ∈ num l) : 0 ≤ x.2.2.2 ∧ x.2.2.2 < l.length ∧ shOf x = shAt l x.2.2.2 := by
  simp only [num, List.mem_map, List.mem_range] at h
  obtain ⟨i, hi, rfl⟩ := h
  refine ⟨by simp, by simpa using hi, ?_⟩
  simp [shOf, shAt]
theorem num_ok {l : Ls} (ok : ∀ s ∈ l, okS s = true) {x : Nm} (h : x ∈ num l) : okN x := by
  obtain ⟨h1, h2, h3⟩ := mem_num h
  have : shAt l x.2.2.2 ∈ l := by
    unfold shAt
    rw [List.getD_eq_getElem?_getD, List.getElem?_eq_getElem (by omega)]
    exact List.getElem_mem _
  have := okS_iff.1 (ok _ this)
  rw [← h3] at this
  exact this
theorem Ord.rsts {l : Ls} {L : Ns} (ok : ∀ s ∈ l, okS s = true) (h : Ord kt l L) : RstsOf L (rsts L) :=
  rsts_of h.sorted fun _ hs => num_ok ok (h.perm.mem_iff.1 hs)
/-- The numbers that are chosen. -/
def chn (L : Ns) : List Int := (cho 1000 (rsts L).reverse).map (·.1.2.2.2)
theorem chn_sub {l : Ls} {L : Ns} (ok : ∀ s ∈ l, okS s = true) (h : Ord kt l L) : ((cho 1000 (rsts L).reverse).map (·.1)).Sublist L.reverse := by
  have h1 := (cho_sub 1000 (rsts L).reverse).map (·.1)
  have h2 := (h.rsts ok).sub.reverse
  rw [List.map_reverse] at h1
  exact h1.trans h2
theorem chn_nodup {l : Ls} {L : Ns} (ok : ∀ s ∈ l, okS s = true) (h : Ord kt l L) : (chn L).Nodup := by
  have h1 := (chn_sub ok h).map (·.2.2.2)
  rw [List.map_map] at h1
  refine h1.nodup ?_
  have h2 : (L.reverse.map (·.2.2.2)).Perm (moms l.length) := by
    rw [← num_num]
    exact ((List.reverse_perm L).trans h.perm).map _
  rw [h2.nodup_iff]
  exact (moms_nodup _).imp fun h => by omega
theorem chn_mem {l : Ls} {L : Ns} (ok : ∀ s ∈ l, okS s = true) (h : Ord kt l L) {b : Rs} (hb : b ∈ cho 1000 (rsts L).reverse) : b.1 ∈ num l :=
  h.perm.mem_iff.1 (List.mem_reverse.1 ((chn_sub ok h).subset (List.mem_map.2 ⟨b, hb, rfl⟩)))
theorem chn_pick {l : Ls} {L : Ns} (ok : ∀ s ∈ l, okS s = true) (h : Ord kt l L) : pick l (chn L) = (cho 1000 (rsts L).reverse).map fun b => shOf b.1 := by
  unfold pick chn
  rw [List.map_map]
  exact List.map_congr_left fun b hb => ((mem_num (chn_mem ok h hb)).2.2).symm
structure Chosen (l : Ls) (L : Ns) (I : List Int) : Prop where
  asc : Asc l.length I
  alone : Alone (pick l I)
  pay : payI l I = total ((rsts L).map pstOf)
theorem chosen_ok {l : Ls} {L : Ns} (ok : ∀ s ∈ l, okS s = true) (h : Ord kt l L) {I : List Int} (hp : I.Perm (chn L)) (hs : I.Pairwise (· ≤ ·)) : Chosen l L I := by
  have hn : I.Nodup := hp.nodup_iff.2 (chn_nodup ok h)
  refine ⟨⟨?_, fun x hx => ?_⟩, ?_, ?_⟩
  · have := List.pairwise_and_iff.2 ⟨hs, hn⟩
    exact this.imp fun h => by omega
  · obtain ⟨b, hb, rfl⟩ := List.mem_map.1 (hp.mem_iff.1 hx)
    have := mem_num (chn_mem ok h hb)
    exact ⟨this.1, this.2.1⟩
  · have h1 := cho_alone2 (h.rsts ok)
    rw [← chn_pick ok h] at h1
    exact ((hp.map (shAt l)).pairwise_iff fun {x y} h => by rw [ovB_comm]; exact h).2 h1
  · have e1 : payI l I = payI l (chn L) := by
      unfold payI paySum pick
      exact perm_sum ((hp.map _).map _)
    rw [e1, ← strong (h.rsts ok)]
    unfold payI paySum
    rw [chn_pick ok h, List.map_map]
    rfl
/-- The set that is chosen earns the most. -/
theorem earns_best {l : Ls} {L : Ns} (ok : ∀ s ∈ l, okS s = true) (h : Ord kt l L) {I : List Int} (c : Chosen l L I) : best (payI l) (setsTo l l.length) = payI l I := by
  have hr := h.rsts ok
  have hpos : ∀ p ∈ (rsts L).map pstOf, 0 ≤ p.2 := by
    intro p hp
    obtain ⟨b, hb, rfl⟩ := List.mem_map.1 hp
    have := (Rst.all hr.rst b (by simpa using hb)).1
    simp only [pstOf]; omega
  refine best_eq ?_ (fun J hJ ha => ?_) c.asc c.alone rfl
  · rw [c.pay]
    have h0 := weak hpos (S := []) List.Pairwise.nil (by simp)
    simpa [paySum] using h0
  · rw [c.pay]
    refine weak hpos ha fun s hs => ?_
    obtain ⟨i, hi, rfl⟩ := List.mem_map.1 hs
    have hi' := hJ.rng i hi
    have hm : gt (num l) i.toNat ∈ num l := by
      unfold gt
      rw [List.getD_eq_getElem?_getD, List.getElem?_eq_getElem (by rw [num_len]; omega)]
      exact List.getElem_mem _
    have h1 := hr.pays _ (h.perm.mem_iff.2 hm)
    obtain ⟨_, _, e⟩ := mem_num hm
    have e2 : (gt (num l) i.toNat).2.2.2 = i := by rw [gt_num (by omega)]; simp; omega
    rw [e2] at e
    rw [e] at h1
    have e3 : (gt (num l) i.toNat).2.2.1 = (shAt l i).2.2 := by rw [← e]; rfl
    rw [e3] at h1
    exact h1
end Go.Proofs.Ytpkjgnllkaafkaa
