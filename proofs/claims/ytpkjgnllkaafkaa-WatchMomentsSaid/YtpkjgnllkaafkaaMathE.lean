import Derived.Test.YtpkjgnllkaafkaaMathD
/- Rosters: how many keepers there are, and that they are never fewer than run at a moment; no program. -/
namespace Go.Proofs.Ytpkjgnllkaafkaa

/-- How many different numbers. -/
def dst : List Int → Nat
  | [] => 0
  | x :: t => (if x ∈ t then 0 else 1) + dst t
theorem dst_perm {a b : List Int} (h : a.Perm b) : dst a = dst b := by
  induction h with
  | nil => rfl
  | cons x h ih => simp only [dst, ih, h.mem_iff]
  | swap x y l =>
    simp only [dst, List.mem_cons]
    by_cases e : x = y
    · subst e; rfl
    · have e' : ¬ y = x := fun h => e h.symm
      simp only [e, e', false_or]
      omega
  | trans _ _ ih1 ih2 => rw [ih1, ih2]
theorem dst_snoc (r : List Int) (x : Int) : dst (r ++ [x]) = dst r + if x ∈ r then 0 else 1 := by
  have h1 : (r ++ [x]).Perm (x :: r) := List.perm_append_comm
  rw [dst_perm h1]
  simp only [dst]
  omega
theorem dst_le (r : List Int) : dst r ≤ r.length := by
  induction r with
  | nil => exact Nat.le_refl _
  | cons x r ih => simp only [dst, List.length_cons]; split <;> omega
/-- Of equal numbers beside each other, one is kept. -/
def cmpL : List Int → List Int
  | [] => []
  | [x] => [x]
  | x :: y :: t => if x = y then cmpL (y :: t) else x :: cmpL (y :: t)
theorem cmpL_dst : ∀ (s : List Int), s.Pairwise (· ≤ ·) → (cmpL s).length = dst s
  | [], _ => rfl
  | [x], _ => by simp [cmpL, dst]
  | x :: y :: t, h => by
    rw [List.pairwise_cons] at h
    have ih := cmpL_dst (y :: t) h.2
    have hm : x ∈ y :: t ↔ x = y := by
      constructor
      · intro hx
        rcases List.mem_cons.1 hx with hx | hx
        · exact hx
        · have h1 := (List.pairwise_cons.1 h.2).1 x hx
          have h2 := h.1 y (by simp)
          omega
      · intro e; subst e; simp
    unfold cmpL dst
    by_cases e : x = y
    · rw [if_pos e, if_pos (hm.2 e), ih]; omega
    · rw [if_neg e, if_neg fun h => e (hm.1 h), List.length_cons, ih]; omega
theorem dst_erase {r : List Int} {x : Int} (h : x ∈ r) : dst (r.filter (· != x)) + 1 = dst r := by
  induction r with
  | nil => cases h
  | cons y r ih =>
    by_cases e : y = x
    · subst e
      rw [List.filter_cons_of_neg (by simp)]
      by_cases hy : y ∈ r
      · have := ih hy
        simp only [dst, if_pos hy]
        omega
      · have : r.filter (· != y) = r := List.filter_eq_self.2 fun z hz => by
          have : z ≠ y := fun e => hy (e ▸ hz)
          simpa using this
        rw [this]
        simp only [dst, if_neg hy]
        omega
    · rw [List.filter_cons_of_pos (by simpa using e)]
      have hx : x ∈ r := by
        rcases List.mem_cons.1 h with h | h
        · exact absurd h.symm e
        · exact h
      have := ih hx
      have hm : y ∈ r.filter (· != x) ↔ y ∈ r := by
        rw [List.mem_filter]
        exact ⟨fun h => h.1, fun h => ⟨h, by simpa using e⟩⟩
      simp only [dst, hm]
      omega
theorem nodup_dst : ∀ {J r : List Int}, J.Nodup → (∀ x ∈ J, x ∈ r) → J.length ≤ dst r
  | [], r, _, _ => by simp
  | x :: J, r, hn, hs => by
    rw [List.nodup_cons] at hn
    have h1 := dst_erase (hs x (by simp))
    have h2 := nodup_dst (J := J) (r := r.filter (· != x)) hn.2 fun y hy => by
      rw [List.mem_filter]
      refine ⟨hs y (by simp [hy]), ?_⟩
      have : y ≠ x := fun e => hn.1 (e ▸ hy)
      simpa using this
    rw [List.length_cons]
    omega
theorem dst_bound : ∀ (n : Nat) {r : List Int}, (∀ x ∈ r, 0 ≤ x ∧ x < n) → dst r ≤ n
  | 0, r, h => by
    cases r with
    | nil => exact Nat.le_refl _
    | cons x r => have := h x (by simp); omega
  | n + 1, r, h => by
    by_cases hx : (n : Int) ∈ r
    · have h1 := dst_erase hx
      have h2 := dst_bound n (r := r.filter (· != (n : Int))) fun y hy => by
        rw [List.mem_filter] at hy
        have := h y hy.1
        have h3 : y ≠ n := by simpa using hy.2
        omega
      omega
    · have := dst_bound n (r := r) fun y hy => by
        have := h y hy
        have h3 : y ≠ n := fun e => hx (e ▸ hy)
        omega
      omega
/-- Whether a roster gives no two shifts that overlap the same keeper. -/
def Right (l : Ls) (r : List Int) : Prop := ∀ i j, i < j → j < l.length → ovB (l.getD i sh0) (l.getD j sh0) = true → r.getD i 0 ≠ r.getD j 0
/-- The numbers of the shifts that run at a moment. -/
def runIx (l : Ls) (m : Int) : List Int := ((List.range l.length).filter fun i => runB (l.getD i sh0) m).map fun k : Nat => (k : Int)
theorem countP_range (p : Sh → Bool) : ∀ (l : Ls), ((List.range l.length).filter fun i => p (l.getD i sh0)).length = l.countP p
  | [] => rfl
  | s :: l => by
    rw [List.length_cons, List.range_succ_eq_map, List.filter_cons, List.filter_map]
    have ih := countP_range p l
    have e : ((fun i => p (List.getD (s :: l) i sh0)) ∘ Nat.succ) = fun i => p (l.getD i sh0) := by funext i; simp
    rw [e]
    have e0 : List.getD (s :: l) 0 sh0 = s := rfl
    rw [e0, List.countP_cons]
    split
    · rw [List.length_cons, List.length_map, ih]
    · rw [List.length_map, ih]; rfl
theorem runIx_len (l : Ls) (m : Int) : (runIx l m).length = cnt l m := by
  unfold runIx cnt
  rw [List.length_map]
  exact countP_range (fun s => runB s m) l
theorem right_peak {l : Ls} {r : List Int} (hl : r.length = l.length) (h : Right l r) (m : Int) : cnt l m ≤ dst r := by
  have e : cnt l m = (((List.range l.length).filter fun i => runB (l.getD i sh0) m).map fun i => r.getD i 0).length := by
    rw [List.length_map]; exact (countP_range (fun s => runB s m) l).symm
  rw [e]
  refine nodup_dst ?_ fun x hx => ?_
  · unfold List.Nodup
    rw [List.pairwise_map]
    have h1 : ((List.range l.length).filter fun i => runB (l.getD i sh0) m).Pairwise (· < ·) := List.pairwise_lt_range.filter _
    refine h1.imp_of_mem fun {a b} ha hb hab => ?_
    rw [List.mem_filter, List.mem_range] at ha hb
    refine h a b hab hb.1 (ovB_iff.2 ?_)
    have e1 := runB_iff.1 ha.2
    have e2 := runB_iff.1 hb.2
    omega
  · obtain ⟨i, hi, rfl⟩ := List.mem_map.1 hx
    rw [List.mem_filter, List.mem_range] at hi
    rw [List.getD_eq_getElem?_getD, List.getElem?_eq_getElem (by omega)]
    exact List.getElem_mem _
theorem rightB_iff {l : Ls} {r : List Int} : ((List.range l.length).all fun j => (List.range j).all fun i => !(ovB (l.getD i sh0) (l.getD j sh0) && (r.getD i 0 == r.getD j 0))) = true ↔ Right l r := by
  simp only [List.all_eq_true, List.mem_range, Bool.not_eq_true', Bool.and_eq_false_iff, beq_eq_false_iff_ne, Right]
  constructor
  · intro h i j hij hj ho
    rcases h j hj i hij with h | h
    · rw [ho] at h; cases h
    · exact h
  · intro h j hj i hij
    by_cases ho : ovB (l.getD i sh0) (l.getD j sh0) = true
    · exact .inr (h i j hij hj ho)
    · exact .inl (by simpa using ho)
end Go.Proofs.Ytpkjgnllkaafkaa
