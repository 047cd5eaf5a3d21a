import Derived.Test.YtpkjgnllkaafkaaMathE
/- The roster that is returned: each shift, in the order of the beginnings, goes to the first keeper that is free; no program. -/
namespace Go.Proofs.Ytpkjgnllkaafkaa

/-- The keeper of a shift. -/
def kp (r : List Int) (x : Nm) : Int := r.getD x.2.2.2.toNat 0
structure Gr (l : Ls) (pre : Ns) (u r : List Int) : Prop where
  ul : u.length = 12
  rl : r.length = l.length
  un : ∀ k, 0 ≤ u.getD k 0
  low : ∀ x ∈ r, 0 ≤ x ∧ x < 12
  ends : ∀ x ∈ pre, 0 ≤ kp r x ∧ x.2.1 ≤ u.getD (kp r x).toNat 0
  wit : ∀ k, 0 < u.getD k 0 → ∃ x ∈ pre, kp r x = k ∧ x.2.1 = u.getD k 0
  apart : ∀ x ∈ pre, ∀ y ∈ pre, x.2.2.2 ≠ y.2.2.2 → kp r x = kp r y → ovB (shOf x) (shOf y) = false
  few : ∀ x ∈ pre, ∃ m, kp r x + 1 ≤ cnt l m ∧ ∃ s ∈ l, s.1 = m
theorem gr_start (l : Ls) : Gr l [] (List.replicate 12 0) (List.replicate l.length 0) := by
  have hz : ∀ k, (List.replicate 12 (0 : Int)).getD k 0 = 0 := by
    intro k
    rw [List.getD_eq_getElem?_getD, List.getElem?_replicate]
    split <;> rfl
  refine ⟨by simp, by simp, fun k => by rw [hz]; exact Int.le_refl _, fun x hx => ?_, by simp, fun k hk => ?_, by simp, by simp⟩
  · have := List.eq_of_mem_replicate hx
    omega
  · rw [hz] at hk; omega
/-- Those who are busy run now: so there is a free one. -/
theorem gr_busy {l : Ls} {pre : Ns} {u r : List Int} {s : Nm} (g : Gr l pre u r) (hsub : ∀ x ∈ pre, x ∈ num l) (hs : s ∈ num l) (hok : okN s) (hnew : ∀ x ∈ pre, x.2.2.2 ≠ s.2.2.2) (hord : ∀ x ∈ pre, x.1 ≤ s.1) {k : Nat}
    (hb : ∀ j, j < k → s.1 < u.getD j 0) : k + 1 ≤ cnt l s.1 := by
  have hw : ∀ j, ∃ x : Nm, j < k → x ∈ pre ∧ kp r x = j ∧ x.2.1 = u.getD j 0 := by
    intro j
    by_cases hj : j < k
    · have := hb j hj
      unfold okN at hok
      obtain ⟨x, h1, h2, h3⟩ := g.wit j (by omega)
      exact ⟨x, fun _ => ⟨h1, h2, h3⟩⟩
    · exact ⟨nm0, fun h => absurd h hj⟩
  obtain ⟨f, hf⟩ := Classical.axiomOfChoice hw
  have hlen : (s.2.2.2 :: (List.range k).map fun j => (f j).2.2.2).length ≤ dst (runIx l s.1) := by
    refine nodup_dst ?_ ?_
    · rw [List.nodup_cons]
      constructor
      · intro hm
        obtain ⟨j, hj, e⟩ := List.mem_map.1 hm
        rw [List.mem_range] at hj
        exact hnew _ (hf j hj).1 e
      · unfold List.Nodup
        rw [List.pairwise_map]
        refine (List.pairwise_lt_range (n := k)).imp_of_mem fun {a b} ha hb' hab => ?_
        rw [List.mem_range] at ha hb'
        obtain ⟨_, e1, _⟩ := hf a ha
        obtain ⟨_, e2, _⟩ := hf b hb'
        intro e
        unfold kp at e1 e2
        rw [e, e2] at e1
        omega
    · have hin : ∀ x ∈ num l, runB (shOf x) s.1 = true → x.2.2.2 ∈ runIx l s.1 := by
        intro x hx hr
        obtain ⟨h1, h2, h3⟩ := mem_num hx
        refine List.mem_map.2 ⟨x.2.2.2.toNat, List.mem_filter.2 ⟨List.mem_range.2 (by omega), ?_⟩, by omega⟩
        have e : l.getD x.2.2.2.toNat sh0 = shOf x := h3.symm
        rw [e]; exact hr
      intro x hx
      rcases List.mem_cons.1 hx with rfl | hx
      · refine hin s hs (runB_iff.2 ?_)
        unfold okN at hok
        simp only [shOf]
        omega
      · obtain ⟨j, hj, rfl⟩ := List.mem_map.1 hx
        rw [List.mem_range] at hj
        obtain ⟨h1, h2, h3⟩ := hf j hj
        refine hin _ (hsub _ h1) (runB_iff.2 ?_)
        have h4 := hord _ h1
        have h5 := hb j hj
        simp only [shOf]
        omega
  have h2 := dst_le (runIx l s.1)
  rw [runIx_len] at h2
  simp only [List.length_cons, List.length_map, List.length_range] at hlen
  omega
theorem getD_set (l : List Int) (i j : Nat) (v : Int) : (l.set i v).getD j 0 = if i = j ∧ j < l.length then v else l.getD j 0 := by
  simp only [List.getD_eq_getElem?_getD, List.getElem?_set]
  by_cases h : i = j
  · subst h
    by_cases h2 : i < l.length
    · simp [h2]
    · rw [if_pos rfl, if_neg h2, if_neg (by omega), List.getElem?_eq_none (by omega)]
  · rw [if_neg h, if_neg (by omega)]
theorem gr_step {l : Ls} {pre : Ns} {u r : List Int} {s : Nm} (g : Gr l pre u r) (hl : l.length ≤ 12) (hsub : ∀ x ∈ pre, x ∈ num l) (hs : s ∈ num l) (hok : okN s) (hnew : ∀ x ∈ pre, x.2.2.2 ≠ s.2.2.2) (hord : ∀ x ∈ pre, x.1 ≤ s.1) {k : Nat}
    (hb : ∀ j, j < k → s.1 < u.getD j 0) (hfree : u.getD k 0 ≤ s.1) : Gr l (pre ++ [s]) (u.set k s.2.1) (r.set s.2.2.2.toNat k) := by
  have hk := gr_busy g hsub hs hok hnew hord hb
  have hc := cnt_le l s.1
  obtain ⟨n1, n2, n3⟩ := mem_num hs
  have e1 : ∀ x ∈ pre, kp (r.set s.2.2.2.toNat k) x = kp r x := by
    intro x hx
    have := mem_num (hsub x hx)
    have h := hnew x hx
    unfold kp
    rw [getD_set, if_neg (by omega)]
  have e2 : kp (r.set s.2.2.2.toNat k) s = k := by
    unfold kp
    rw [getD_set, if_pos ⟨rfl, by rw [g.rl]; omega⟩]
  have e3 : ∀ j, (u.set k s.2.1).getD j 0 = if k = j then s.2.1 else u.getD j 0 := by
    intro j
    rw [getD_set]
    by_cases h : k = j
    · rw [if_pos h, if_pos ⟨h, by rw [g.ul]; omega⟩]
    · rw [if_neg h, if_neg (by omega)]
  have hok' := hok
  unfold okN at hok'
  have hup : ∀ j, u.getD j 0 ≤ (u.set k s.2.1).getD j 0 := by
    intro j
    rw [e3]
    split
    · rename_i h; subst h; omega
    · exact Int.le_refl _
  refine ⟨by rw [List.length_set]; exact g.ul, by rw [List.length_set]; exact g.rl, fun j => ?_, fun x hx => ?_, fun x hx => ?_, fun j hj => ?_, fun x hx y hy hxy he => ?_, fun x hx => ?_⟩
  · have := g.un j; have := hup j; omega
  · rcases List.mem_or_eq_of_mem_set hx with hx | rfl
    · exact g.low x hx
    · omega
  · rcases List.mem_append.1 hx with hx | hx
    · rw [e1 x hx]
      have h1 := g.ends x hx
      have h2 := hup (kp r x).toNat
      omega
    · simp at hx; subst hx
      rw [e2]
      refine ⟨by omega, ?_⟩
      rw [e3, if_pos (by omega)]
      exact Int.le_refl _
  · rw [e3] at hj ⊢
    by_cases h : k = j
    · rw [if_pos h]
      exact ⟨s, by simp, by rw [e2, h], rfl⟩
    · rw [if_neg h] at hj ⊢
      obtain ⟨x, h1, h2, h3⟩ := g.wit j hj
      exact ⟨x, by simp [h1], by rw [e1 x h1]; exact h2, h3⟩
  · have hlate : ∀ x ∈ pre, kp r x = k → ovB (shOf x) (shOf s) = false := by
      intro x hx he
      have := g.ends x hx
      rw [he] at this
      rw [Bool.eq_false_iff]
      intro hh
      have := ovB_iff.1 hh
      simp only [shOf] at this
      rw [Int.toNat_natCast] at *
      omega
    rcases List.mem_append.1 hx with kx | kx <;> rcases List.mem_append.1 hy with ky | ky
    · rw [e1 x kx, e1 y ky] at he
      exact g.apart x kx y ky hxy he
    · obtain rfl : y = s := by simpa using ky
      rw [e1 x kx, e2] at he
      exact hlate x kx he
    · obtain rfl : x = s := by simpa using kx
      rw [e1 y ky, e2] at he
      rw [ovB_comm]
      exact hlate y ky he.symm
    · obtain rfl : y = s := by simpa using ky
      obtain rfl : x = y := by simpa using kx
      exact absurd rfl hxy
  · rcases List.mem_append.1 hx with hx | hx
    · rw [e1 x hx]; exact g.few x hx
    · simp at hx; subst hx
      rw [e2]
      refine ⟨x.1, by omega, shAt l x.2.2.2, ?_, ?_⟩
      · unfold shAt
        rw [List.getD_eq_getElem?_getD, List.getElem?_eq_getElem (by omega)]
        exact List.getElem_mem _
      · rw [← n3]; rfl
/-- The whole roster is right, and needs no more keepers than run at the peak. -/
theorem gr_done {l : Ls} {L : Ns} {u r : List Int} (ok : ∀ s ∈ l, okS s = true) (h : Ord kf l L) (g : Gr l L u r) : Right l r ∧ dst r = (scan (cnt l) (moms 1001)).2 := by
  have hR : Right l r := by
    intro i j hij hj ho he
    have hi : gt (num l) i ∈ L := h.perm.mem_iff.2 (by
      unfold gt
      rw [List.getD_eq_getElem?_getD, List.getElem?_eq_getElem (by rw [num_len]; omega)]
      exact List.getElem_mem _)
    have hj' : gt (num l) j ∈ L := h.perm.mem_iff.2 (by
      unfold gt
      rw [List.getD_eq_getElem?_getD, List.getElem?_eq_getElem (by rw [num_len]; omega)]
      exact List.getElem_mem _)
    rw [gt_num (by omega)] at hi
    rw [gt_num hj] at hj'
    have h1 := g.apart _ hi _ hj' (by simp; omega) (by simpa [kp] using he)
    have h2 : ovB (l.getD i sh0) (l.getD j sh0) = false := h1
    rw [ho] at h2
    cases h2
  refine ⟨hR, ?_⟩
  have hpk := scan_pk (cnt l) (moms 1001) (moms_sorted _)
  refine Nat.le_antisymm ?_ ?_
  · refine dst_bound _ fun x hx => ⟨(g.low x hx).1, ?_⟩
    obtain ⟨i, hi, rfl⟩ := List.getElem_of_mem hx
    have hm : gt (num l) i ∈ L := h.perm.mem_iff.2 (by
      unfold gt
      rw [List.getD_eq_getElem?_getD, List.getElem?_eq_getElem (by rw [num_len]; have := g.rl; omega)]
      exact List.getElem_mem _)
    rw [gt_num (by have := g.rl; omega)] at hm
    obtain ⟨m, h1, s, hs, rfl⟩ := g.few _ hm
    have e : kp r ((l.getD i sh0).1, (l.getD i sh0).2.1, (l.getD i sh0).2.2, (i : Int)) = r[i] := by
      simp [kp, List.getD_eq_getElem?_getD, hi]
    rw [e] at h1
    have h2 := okS_iff.1 (ok s hs)
    have h3 := hpk.top s.1 (mem_moms.2 (by omega))
    omega
  · rcases hpk.at_ with ⟨h0, _⟩ | ⟨_, _, h1, _⟩
    · omega
    · rw [← h1]; exact right_peak g.rl hR _
end Go.Proofs.Ytpkjgnllkaafkaa
