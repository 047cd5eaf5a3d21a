import Derived.Test.YtpkjgnllkaafkaaMathB
/- What is earned, and what pays: the rests of the shifts in the order of their ends; no program. -/
namespace Go.Proofs.Ytpkjgnllkaafkaa

theorem perm_sum {a b : List Int} (h : a.Perm b) : a.sum = b.sum := by
  induction h with
  | nil => rfl
  | cons x _ ih => simp only [List.sum_cons, ih]
  | swap x y l => simp only [List.sum_cons]; omega
  | trans _ _ ih1 ih2 => rw [ih1, ih2]
def ovB (x y : Sh) : Bool := decide (x.1 < y.2.1) && decide (y.1 < x.2.1)
theorem ovB_iff {x y : Sh} : ovB x y = true ↔ x.1 < y.2.1 ∧ y.1 < x.2.1 := by simp [ovB]
theorem ovB_comm (x y : Sh) : ovB x y = ovB y x := by simp [ovB, Bool.and_comm]
def shOf (x : Nm) : Sh := (x.1, x.2.1, x.2.2.1)
/-- Posts: a moment and a pay each. -/
abbrev Pst := Int × Int
def paidBy (P : List Pst) (s : Sh) : Int := (P.map fun p => if runB s p.1 then p.2 else 0).sum
def total (P : List Pst) : Int := (P.map (·.2)).sum
theorem paidBy_app (P Q : List Pst) (s : Sh) : paidBy (P ++ Q) s = paidBy P s + paidBy Q s := by simp [paidBy]
theorem total_app (P Q : List Pst) : total (P ++ Q) = total P + total Q := by simp [total]
theorem paidBy_nonneg {P : List Pst} (h : ∀ p ∈ P, 0 ≤ p.2) (s : Sh) : 0 ≤ paidBy P s := by
  induction P with
  | nil => simp [paidBy]
  | cons p P ih =>
    have h1 := ih fun q hq => h q (by simp [hq])
    have h2 := h p (by simp)
    simp only [paidBy, List.map_cons, List.sum_cons] at h1 ⊢
    split <;> omega
/-- No two run at a common moment. -/
def Alone (S : Ls) : Prop := S.Pairwise fun x y => ovB x y = false
theorem sum_one {S : Ls} (ha : Alone S) (m v : Int) (hv : 0 ≤ v) : (S.map fun s => if runB s m then v else 0).sum ≤ v ∧ 0 ≤ (S.map fun s => if runB s m then v else 0).sum ∧ ((∀ s ∈ S, runB s m = false) → (S.map fun s => if runB s m then v else 0).sum = 0) := by
  induction S with
  | nil => simp; exact hv
  | cons s S ih =>
    rw [Alone, List.pairwise_cons] at ha
    obtain ⟨h1, h2, h3⟩ := ih ha.2
    simp only [List.map_cons, List.sum_cons]
    by_cases hr : runB s m = true
    · have : ∀ t ∈ S, runB t m = false := by
        intro t ht
        have := ha.1 t ht
        rw [Bool.eq_false_iff] at this ⊢
        intro hm
        refine this (ovB_iff.2 ?_)
        have e1 := runB_iff.1 hr
        have e2 := runB_iff.1 hm
        omega
      rw [h3 this, if_pos hr]
      exact ⟨by omega, by omega, fun h => by rw [h s (by simp)] at hr; cases hr⟩
    · rw [if_neg hr]
      exact ⟨by omega, by omega, fun h => by rw [h3 fun t ht => h t (by simp [ht])]; rfl⟩
def paySum (S : Ls) : Int := (S.map (·.2.2)).sum
theorem paid_le {P : List Pst} (hP : ∀ p ∈ P, 0 ≤ p.2) {S : Ls} (ha : Alone S) : (S.map (paidBy P)).sum ≤ total P := by
  induction P with
  | nil =>
    have : (S.map (paidBy [])).sum = 0 := by
      induction S with
      | nil => rfl
      | cons s S ih =>
        rw [Alone, List.pairwise_cons] at ha
        simp only [List.map_cons, List.sum_cons, ih ha.2]
        rfl
    rw [this]; exact Int.le_refl _
  | cons p P ih =>
    have h1 := ih fun q hq => hP q (by simp [hq])
    have h2 := (sum_one ha p.1 p.2 (hP p (by simp))).1
    have e : (S.map (paidBy (p :: P))).sum = (S.map fun s => if runB s p.1 then p.2 else 0).sum + (S.map (paidBy P)).sum := by
      clear h1 h2 ha ih
      induction S with
      | nil => rfl
      | cons s S ih =>
        simp only [List.map_cons, List.sum_cons, ih]
        simp only [paidBy, List.map_cons, List.sum_cons]
        omega
    rw [e]
    simp only [total, List.map_cons, List.sum_cons] at h1 ⊢
    omega
theorem sum_le {S : Ls} {f g : Sh → Int} (h : ∀ s ∈ S, f s ≤ g s) : (S.map f).sum ≤ (S.map g).sum := by
  induction S with
  | nil => exact Int.le_refl _
  | cons s S ih =>
    have h1 := ih fun t ht => h t (by simp [ht])
    have h2 := h s (by simp)
    simp only [List.map_cons, List.sum_cons]
    omega
/-- Whatever pays all pays at least what a set that is alone earns. -/
theorem weak {P : List Pst} (hP : ∀ p ∈ P, 0 ≤ p.2) {S : Ls} (ha : Alone S) (hc : ∀ s ∈ S, s.2.2 ≤ paidBy P s) : paySum S ≤ total P :=
  Int.le_trans (sum_le hc) (paid_le hP ha)

/-- A rest: the shift, and what is left of its pay. -/
abbrev Rs := Nm × Int
def overSum (R : List Rs) (s : Nm) : Int := (R.map fun b => if ovB (shOf b.1) (shOf s) then b.2 else 0).sum
def restF (R : List Rs) (s : Nm) : List Rs := if 0 < s.2.2.1 - overSum R s then R ++ [(s, s.2.2.1 - overSum R s)] else R
def rsts (L : Ns) : List Rs := L.foldl restF []
theorem rsts_snoc (L : Ns) (s : Nm) : rsts (L ++ [s]) = restF (rsts L) s := by simp [rsts]
def pstOf (b : Rs) : Pst := (b.1.2.1 - 1, b.2)
def okN (x : Nm) : Prop := 0 ≤ x.1 ∧ x.1 < x.2.1 ∧ x.2.1 ≤ 1000 ∧ 0 ≤ x.2.2.1 ∧ x.2.2.1 ≤ 99
/-- Each rest is what those before it leave; the last one first. -/
def Rst : List Rs → Prop
  | [] => True
  | c :: R => c.1.2.2.1 = c.2 + overSum R c.1 ∧ 0 < c.2 ∧ (∀ b ∈ R, b.1.2.1 ≤ c.1.2.1) ∧ okN c.1 ∧ Rst R
theorem overSum_rev (R : List Rs) (s : Nm) : overSum R.reverse s = overSum R s := by
  unfold overSum
  exact perm_sum (List.Perm.map _ (List.reverse_perm R))
theorem over_paid {R : List Rs} {s : Nm} (hR : ∀ b ∈ R, okN b.1 ∧ b.1.2.1 ≤ s.2.1) : overSum R s = paidBy (R.map pstOf) (shOf s) := by
  induction R with
  | nil => rfl
  | cons b R ih =>
    have h1 := ih fun c hc => hR c (by simp [hc])
    obtain ⟨h2, h3⟩ := hR b (by simp)
    simp only [overSum, paidBy, List.map_cons, List.sum_cons] at h1 ⊢
    rw [h1]
    have : ovB (shOf b.1) (shOf s) = runB (shOf s) (pstOf b).1 := by
      rw [Bool.eq_iff_iff, ovB_iff, runB_iff]
      unfold okN at h2
      simp only [shOf, pstOf]
      omega
    rw [this]
    rfl
structure RstsOf (L : Ns) (R : List Rs) : Prop where
  sub : (R.map (·.1)).Sublist L
  rst : Rst R.reverse
  pays : ∀ s ∈ L, s.2.2.1 ≤ paidBy (R.map pstOf) (shOf s)
theorem Rst.all : ∀ {R : List Rs}, Rst R → ∀ b ∈ R, 0 < b.2 ∧ okN b.1
  | [], _, b, hb => by cases hb
  | c :: R, h, b, hb => by
    obtain ⟨h1, h2, h3, h4, h5⟩ := h
    rcases List.mem_cons.1 hb with rfl | hb
    · exact ⟨h2, h4⟩
    · exact Rst.all h5 b hb
theorem rsts_of' : ∀ (n : Nat) (L : Ns), L.length = n → (L.Pairwise fun x y => kt x ≤ kt y) → (∀ s ∈ L, okN s) → RstsOf L (rsts L)
  | 0, L, hn, _, _ => by
    obtain rfl := List.eq_nil_of_length_eq_zero hn
    exact ⟨by simp [rsts], trivial, by simp⟩
  | n + 1, L, hn, hs, hok => by
    have hne : L ≠ [] := by intro e; subst e; simp at hn
    obtain ⟨L, s, rfl⟩ : ∃ ini c, L = ini ++ [c] := ⟨L.dropLast, L.getLast hne, (List.dropLast_concat_getLast hne).symm⟩
    rw [List.pairwise_append] at hs
    obtain ⟨h1, _, h3⟩ := hs
    have ih := rsts_of' n L (by simpa using hn) h1 fun x hx => hok x (by simp [hx])
    have hs0 := hok s (by simp)
    have hbs : ∀ b ∈ rsts L, okN b.1 ∧ b.1.2.1 ≤ s.2.1 := by
      intro b hb
      have hm : b.1 ∈ L := ih.sub.subset (List.mem_map.2 ⟨b, hb, rfl⟩)
      exact ⟨hok _ (by simp [hm]), h3 _ hm s (by simp)⟩
    have hov := over_paid hbs
    rw [rsts_snoc]
    unfold restF
    by_cases h : 0 < s.2.2.1 - overSum (rsts L) s
    · rw [if_pos h]
      refine ⟨?_, ?_, ?_⟩
      · rw [List.map_append]; exact ih.sub.append (List.Sublist.refl _)
      · rw [List.reverse_append]
        refine ⟨?_, h, fun b hb => (hbs b (by simpa using hb)).2, hs0, ih.rst⟩
        show s.2.2.1 = s.2.2.1 - overSum (rsts L) s + overSum (rsts L).reverse s
        rw [overSum_rev]; omega
      · intro x hx
        rw [List.map_append, paidBy_app]
        have hself : paidBy ([(s, s.2.2.1 - overSum (rsts L) s)].map pstOf) (shOf s) = s.2.2.1 - overSum (rsts L) s := by
          have : runB (shOf s) (s.2.1 - 1) = true := by rw [runB_iff]; unfold okN at hs0; simp only [shOf]; omega
          simp [paidBy, pstOf, this]
        have hnn : 0 ≤ paidBy ([(s, s.2.2.1 - overSum (rsts L) s)].map pstOf) (shOf x) := by
          refine paidBy_nonneg ?_ _
          intro p hp
          simp only [List.map_cons, List.map_nil, List.mem_singleton] at hp
          subst hp
          simp only [pstOf]; omega
        rcases List.mem_append.1 hx with hx | hx
        · have := ih.pays x hx; omega
        · simp at hx; subst hx; omega
    · rw [if_neg h]
      refine ⟨?_, ih.rst, ?_⟩
      · exact ih.sub.trans (List.sublist_append_left L [s])
      · intro x hx
        rcases List.mem_append.1 hx with hx | hx
        · exact ih.pays x hx
        · simp at hx; subst hx; omega
theorem rsts_of {L : Ns} (hs : L.Pairwise fun x y => kt x ≤ kt y) (hok : ∀ s ∈ L, okN s) : RstsOf L (rsts L) := rsts_of' _ L rfl hs hok

/-- The rests that are chosen, the last one first. -/
def cho : Int → List Rs → List Rs
  | _, [] => []
  | beg, x :: R => if x.1.2.1 ≤ beg then x :: cho x.1.1 R else cho beg R
theorem cho_sub : ∀ (beg : Int) (R : List Rs), (cho beg R).Sublist R
  | _, [] => List.Sublist.refl _
  | beg, x :: R => by
    unfold cho
    split
    · exact (cho_sub _ R).cons_cons x
    · exact (cho_sub _ R).cons x
theorem cho_le : ∀ (beg : Int) (R : List Rs), ∀ b ∈ cho beg R, Rst R → b.1.2.1 ≤ beg
  | _, [], b, hb, _ => by cases hb
  | beg, x :: R, b, hb, hR => by
    obtain ⟨_, _, _, h4, h5⟩ := hR
    unfold cho at hb
    split at hb
    · rename_i h
      rcases List.mem_cons.1 hb with rfl | hb
      · exact h
      · have := cho_le _ R b hb h5
        unfold okN at h4; omega
    · exact cho_le _ R b hb h5
theorem cho_alone : ∀ (beg : Int) (R : List Rs), Rst R → (cho beg R).Pairwise fun x y => y.1.2.1 ≤ x.1.1
  | _, [], _ => List.Pairwise.nil
  | beg, x :: R, hR => by
    obtain ⟨_, _, _, _, h5⟩ := hR
    unfold cho
    split
    · exact List.pairwise_cons.2 ⟨fun b hb => cho_le _ R b hb h5, cho_alone _ R h5⟩
    · exact cho_alone _ R h5
theorem cho_sum : ∀ (beg : Int) (R : List Rs), Rst R → ((cho beg R).map (·.1.2.2.1)).sum = (R.map fun b => if b.1.2.1 ≤ beg then b.2 else 0).sum
  | _, [], _ => rfl
  | beg, x :: R, hR => by
    obtain ⟨h1, h2, h3, h4, h5⟩ := hR
    unfold cho
    simp only [List.map_cons, List.sum_cons]
    by_cases h : x.1.2.1 ≤ beg
    · rw [if_pos h, if_pos h]
      simp only [List.map_cons, List.sum_cons]
      rw [cho_sum _ R h5, h1]
      have : overSum R x.1 + (R.map fun b => if b.1.2.1 ≤ x.1.1 then b.2 else 0).sum = (R.map fun b => if b.1.2.1 ≤ beg then b.2 else 0).sum := by
        have hall := Rst.all h5
        clear h1 h5
        induction R with
        | nil => rfl
        | cons b R ih =>
          have e := ih (fun c hc => h3 c (by simp [hc])) (fun c hc => hall c (by simp [hc]))
          have e1 := h3 b (by simp)
          have e2 := (hall b (by simp)).2
          simp only [overSum, List.map_cons, List.sum_cons] at e ⊢
          have e3 : ovB (shOf b.1) (shOf x.1) = decide (x.1.1 < b.1.2.1) := by
            rw [Bool.eq_iff_iff, ovB_iff]; unfold okN at e2 h4; simp only [shOf, decide_eq_true_eq]; omega
          rw [e3, if_pos (show b.1.2.1 ≤ beg by omega)]
          by_cases hc : x.1.1 < b.1.2.1
          · rw [if_pos (by simpa using hc), if_neg (by omega)]; omega
          · rw [if_neg (by simpa using hc), if_pos (by omega)]; omega
      omega
    · rw [if_neg h, if_neg h, cho_sum _ R h5]; omega
theorem sum_total {R : List Rs} (h : Rst R) : (R.map fun b => if b.1.2.1 ≤ 1000 then b.2 else 0).sum = total (R.map pstOf) := by
  have hall := Rst.all h
  clear h
  induction R with
  | nil => rfl
  | cons b R ih =>
    have e1 := (hall b (by simp)).2
    have e := ih fun c hc => hall c (by simp [hc])
    simp only [total, List.map_cons, List.sum_cons] at e ⊢
    rw [e, if_pos (by unfold okN at e1; omega)]
    rfl
theorem total_rev (P : List Pst) : total P.reverse = total P := perm_sum (List.Perm.map _ (List.reverse_perm P))
/-- What is chosen earns what the rests pay. -/
theorem strong {L : Ns} {R : List Rs} (h : RstsOf L R) : ((cho 1000 R.reverse).map (·.1.2.2.1)).sum = total (R.map pstOf) := by
  rw [cho_sum _ _ h.rst, sum_total h.rst, List.map_reverse, total_rev]
theorem cho_alone2 {L : Ns} {R : List Rs} (h : RstsOf L R) : Alone ((cho 1000 R.reverse).map fun b => shOf b.1) := by
  rw [Alone, List.pairwise_map]
  refine (cho_alone 1000 _ h.rst).imp fun {x y} hxy => ?_
  rw [Bool.eq_false_iff]
  intro hh
  have := ovB_iff.1 hh
  simp only [shOf] at this
  omega
/-- Where all pays are 1, all rests are. -/
theorem rst_one : ∀ {R : List Rs}, Rst R → (∀ b ∈ R, b.1.2.2.1 = 1) → ∀ b ∈ R, b.2 = 1
  | [], _, _, b, hb => by cases hb
  | c :: R, h, h1, b, hb => by
    obtain ⟨e1, e2, e3, e4, e5⟩ := h
    rcases List.mem_cons.1 hb with rfl | hb
    · have := h1 b (by simp)
      have hn : 0 ≤ overSum R b.1 := by
        have hall := Rst.all e5
        clear e1 e3 e5 h1 hb
        unfold overSum
        induction R with
        | nil => simp
        | cons d R ih =>
          have := ih fun c hc => hall c (by simp [hc])
          have := (hall d (by simp)).1
          simp only [List.map_cons, List.sum_cons]
          split <;> omega
      omega
    · exact rst_one e5 (fun c hc => h1 c (by simp [hc])) b hb
end Go.Proofs.Ytpkjgnllkaafkaa
