import Derived.Test.YtpkjgnllkaafkaaMA
/- The roster, shift by shift, whatever their order: there is always a free keeper; no program. -/
namespace Go.Proofs.Ytpkjgnllkaafkaa

/-- The first free keeper. -/
def fre (u : List Int) (s : Nm) : Nat := u.findIdx fun t => decide (t ≤ s.1)
def rosF (a : List Int × List Int) (s : Nm) : List Int × List Int := (a.1.set (fre a.1 s) s.2.1, a.2.set s.2.2.2.toNat (fre a.1 s : Nat))
def rosS (n : Nat) (L : Ns) : List Int × List Int := L.foldl rosF (List.replicate 12 0, List.replicate n 0)
theorem rosS_snoc (n : Nat) (L : Ns) (s : Nm) : rosS n (L ++ [s]) = rosF (rosS n L) s := by simp [rosS]
/-- How many keepers have had a shift. -/
def busy (u : List Int) : Nat := u.countP fun t => decide (0 < t)
theorem busy_set (u : List Int) (k : Nat) (v : Int) : busy (u.set k v) ≤ busy u + 1 := by
  unfold busy
  induction u generalizing k with
  | nil => simp
  | cons x u ih =>
    cases k with
    | zero =>
      simp only [List.set_cons_zero, List.countP_cons]
      split <;> split <;> omega
    | succ k =>
      have := ih k
      simp only [List.set_cons_succ, List.countP_cons]
      omega
structure RosOk (n : Nat) (L : Ns) : Prop where
  ul : (rosS n L).1.length = 12
  rl : (rosS n L).2.length = n
  un : busy (rosS n L).1 ≤ L.length
theorem rosOk' (n : Nat) : ∀ (m : Nat) (L : Ns), L.length = m → RosOk n L
  | 0, L, hm => by
    obtain rfl := List.eq_nil_of_length_eq_zero hm
    exact ⟨by simp [rosS], by simp [rosS], by simp only [rosS, List.foldl_nil]; decide⟩
  | m + 1, L, hm => by
    have hne : L ≠ [] := by intro e; subst e; simp at hm
    obtain ⟨L, s, rfl⟩ : ∃ ini c, L = ini ++ [c] := ⟨L.dropLast, L.getLast hne, (List.dropLast_concat_getLast hne).symm⟩
    have ih := rosOk' n m L (by simpa using hm)
    have h1 := ih.ul
    have h2 := ih.rl
    have h3 := ih.un
    refine ⟨?_, ?_, ?_⟩
    · rw [rosS_snoc]; simp only [rosF, List.length_set]; exact h1
    · rw [rosS_snoc]; simp only [rosF, List.length_set]; exact h2
    · rw [rosS_snoc]
      have := busy_set (rosS n L).1 (fre (rosS n L).1 s) s.2.1
      simp only [rosF, List.length_append, List.length_cons, List.length_nil]
      omega
theorem rosOk (n : Nat) (L : Ns) : RosOk n L := rosOk' n _ L rfl
theorem fre_lt {u : List Int} {s : Nm} (hu : u.length = 12) (hb : busy u ≤ 11) (hs : 0 ≤ s.1) : fre u s < 12 := by
  unfold fre
  rw [← hu]
  refine List.findIdx_lt_length_of_exists ?_
  refine Classical.byContradiction fun hno => ?_
  have hall : ∀ x ∈ u, (fun t : Int => decide (0 < t)) x = true := by
    intro x hx
    refine decide_eq_true ?_
    refine Classical.byContradiction fun hx0 => hno ⟨x, hx, decide_eq_true (by omega)⟩
  have : busy u = u.length := List.countP_eq_length.2 hall
  omega
theorem fre_free {u : List Int} {s : Nm} (h : fre u s < u.length) : u.getD (fre u s) 0 ≤ s.1 := by
  have h1 : decide (u[fre u s] ≤ s.1) = true := List.findIdx_getElem (xs := u) (p := fun t => decide (t ≤ s.1)) (w := h)
  rw [List.getD_eq_getElem?_getD, List.getElem?_eq_getElem h]
  exact of_decide_eq_true h1
theorem fre_busy {u : List Int} {s : Nm} {j : Nat} (h : j < fre u s) (hl : j < u.length) : s.1 < u.getD j 0 := by
  rw [List.getD_eq_getElem?_getD, List.getElem?_eq_getElem hl]
  refine Int.not_le.1 fun hh => ?_
  have h1 := List.not_of_lt_findIdx (xs := u) (p := fun t => decide (t ≤ s.1)) h
  have h2 : u[j] ≤ s.1 := hh
  simp [h2] at h1
/-- For the shifts in the order of their beginnings it is right. -/
theorem ros_gr {l : Ls} (ok : ∀ s ∈ l, okS s = true) (hl : l.length ≤ 12) {L : Ns} (h : Ord kf l L) : ∀ (m : Nat) (pre rest : Ns), pre.length = m → L = pre ++ rest → Gr l pre (rosS l.length pre).1 (rosS l.length pre).2
  | 0, pre, rest, hm, _ => by
    obtain rfl := List.eq_nil_of_length_eq_zero hm
    exact gr_start l
  | m + 1, pre, rest, hm, he => by
    have hne : pre ≠ [] := by intro e; subst e; simp at hm
    obtain ⟨pre, s, rfl⟩ : ∃ ini c, pre = ini ++ [c] := ⟨pre.dropLast, pre.getLast hne, (List.dropLast_concat_getLast hne).symm⟩
    have ih := ros_gr ok hl h m pre ([s] ++ rest) (by simpa using hm) (by rw [he, List.append_assoc])
    have hin : ∀ x ∈ pre ++ [s], x ∈ num l := fun x hx => h.perm.mem_iff.1 (by rw [he]; exact List.mem_append_left _ hx)
    have hs := hin s (by simp)
    have hsort := h.sorted
    rw [he, List.append_assoc] at hsort
    have hp := List.pairwise_append.1 hsort
    have hnum : (L.map (·.2.2.2)).Nodup := by
      have h2 : (L.map (·.2.2.2)).Perm (moms l.length) := by
        rw [← num_num]; exact h.perm.map _
      rw [h2.nodup_iff]
      exact (moms_nodup _).imp fun h => by omega
    rw [he, List.append_assoc, List.map_append] at hnum
    have hn2 := List.pairwise_append.1 hnum
    have ro := rosOk l.length pre
    have hlen : pre.length + 1 ≤ 12 := by
      have h1 := h.len
      rw [he] at h1
      simp at h1
      omega
    have hfl := fre_lt (s := s) ro.ul (by have := ro.un; omega) (num_ok ok hs).1
    have hfl2 : fre (rosS l.length pre).1 s < (rosS l.length pre).1.length := by rw [ro.ul]; exact hfl
    rw [rosS_snoc]
    exact gr_step ih hl (fun x hx => hin x (by simp [hx])) hs (num_ok ok hs)
      (fun x hx => hn2.2.2 _ (List.mem_map.2 ⟨x, hx, rfl⟩) _ (by simp))
      (fun x hx => by have := hp.2.2 x hx s (by simp); unfold kf at this; exact this)
      (fun j hj => fre_busy hj (by omega)) (fre_free hfl2)
theorem ros_right {l : Ls} (he : errV l = 0) {L : Ns} (h : Ord kf l L) : (rosS l.length L).2.length = l.length ∧ Right l (rosS l.length L).2 ∧ dst (rosS l.length L).2 = (scan (cnt l) (moms 1001)).2 ∧ ∀ x ∈ (rosS l.length L).2, 0 ≤ x ∧ x < 12 := by
  obtain ⟨h1, ok⟩ := errV_ok.1 he
  have g := ros_gr ok h1 h _ L [] rfl (by simp)
  obtain ⟨a, b⟩ := gr_done ok h g
  exact ⟨g.rl, a, b, g.low⟩
end Go.Proofs.Ytpkjgnllkaafkaa
