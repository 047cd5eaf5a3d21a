/- Mathematics: the search visits every row with these delays. -/
import Derived.Test.YtllfkhcpdgdmnaaWkMissing
namespace Go.Proofs.Ytllfkhcpdgdmnaa

/-- What is left of a tally, as numbers. -/
theorem st1_some {t : List Int} {p x : Int} (h : t.getD (p - x).toNat 0 ≠ 0) : st1 p t x = some (t.set (p - x).toNat (t.getD (p - x).toNat 0 - 1)) := by
  unfold st1
  rw [if_neg h]
theorem set_at {t : List Int} {i k : Nat} {v : Int} (hi : i < t.length) : (t.set i v).getD k 0 = if i = k then v else t.getD k 0 := by
  rw [List.getD_eq_getElem?_getD, List.getElem?_set]
  by_cases e : i = k
  · subst e
    simp [hi]
  · simp [e, List.getD_eq_getElem?_getD]
/-- With enough of each distance left, the place may come; and what is left then. -/
theorem wo_enough (p : Int) : ∀ (b t : List Int), t.length = 61 → (∀ x ∈ b, 0 ≤ p - x ∧ p - x ≤ 60) → (∀ d : Nat, d < 61 → ((b.map fun x => p - x).count (d : Int) : Int) ≤ t.getD d 0) →
    ∃ t', wo b p t = some t' ∧ t'.length = 61 ∧ ∀ d : Nat, d < 61 → t'.getD d 0 = t.getD d 0 - ((b.map fun x => p - x).count (d : Int) : Int)
  | [], t, hl, _, _ => ⟨t, rfl, hl, fun d _ => by simp⟩
  | x :: b, t, hl, hx, h => by
    have hx0 := hx x (by simp)
    obtain ⟨dx, hdx⟩ : ∃ dx : Nat, (dx : Int) = p - x := ⟨(p - x).toNat, by omega⟩
    have hdl : dx < 61 := by omega
    have e : (p - x).toNat = dx := by omega
    have hc : ∀ d : Nat, ((x :: b).map fun x => p - x).count (d : Int) = (b.map fun x => p - x).count (d : Int) + if dx = d then 1 else 0 := by
      intro d
      rw [List.map_cons, List.count_cons, ← hdx]
      by_cases e2 : dx = d
      · simp [e2]
      · simp [e2]
        omega
    have h0 := h dx hdl
    rw [hc, if_pos rfl] at h0
    have hne : t.getD (p - x).toNat 0 ≠ 0 := by rw [e]; omega
    obtain ⟨t', h1, h2, h3⟩ := wo_enough p b (t.set dx (t.getD dx 0 - 1)) (by rw [List.length_set]; exact hl) (fun y hy => hx y (by simp [hy])) (fun d hd => by
      have := h d hd
      rw [hc] at this
      rw [set_at (by rw [hl]; exact hdl)]
      split
      · rename_i e2; subst e2; rw [if_pos rfl] at this; omega
      · rename_i e2; rw [if_neg e2] at this; omega)
    refine ⟨t', ?_, h2, fun d hd => ?_⟩
    · unfold wo
      rw [List.foldlM_cons, st1_some hne, e]
      exact h1
    · rw [h3 d hd, hc, set_at (by rw [hl]; exact hdl)]
      by_cases e2 : dx = d
      · subst e2
        rw [if_pos rfl, if_pos rfl]
        omega
      · rw [if_neg e2, if_neg e2]
        omega
theorem dif_app_le (d : Int) : ∀ (r b : List Int), (dif b).count d ≤ (dif (b ++ r)).count d
  | [], b => by simp
  | x :: r, b => by
    have h := dif_app_le d r (b ++ [x])
    rw [dif_snoc, List.count_append] at h
    rw [show b ++ x :: r = b ++ [x] ++ r by simp]
    omega
/-- The search visits every row that begins so and whose further delays are there. -/
theorem vis_all : ∀ (k : Nat) (b r t : List Int), r.length = k → b ≠ [] → t.length = 61 → (b ++ r).Pairwise (· < ·) → (∀ x ∈ b ++ r, 0 ≤ x ∧ x ≤ 60) →
    (∀ d : Nat, d < 61 → ((dif (b ++ r)).count (d : Int) : Int) ≤ t.getD d 0 + (dif b).count (d : Int)) → b ++ r ∈ vis k b t
  | 0, b, r, t, hr, _, _, _, _, _ => by
    obtain rfl := List.eq_nil_of_length_eq_zero hr
    simp [vis]
  | k + 1, b, r, t, hr, hb, hl, hp, hx, hd => by
    obtain ⟨p, r, rfl⟩ : ∃ p r', r = p :: r' := by
      cases r with
      | nil => simp at hr
      | cons p r => exact ⟨p, r, rfl⟩
    have e : b ++ p :: r = (b ++ [p]) ++ r := by simp
    have hpp := List.pairwise_append.1 hp
    have hbp : ∀ x ∈ b, x < p := fun x hx => hpp.2.2 x hx p (by simp)
    have hp0 := hx p (by simp)
    obtain ⟨q, hq⟩ : ∃ q : Nat, (q : Int) = p := ⟨p.toNat, by omega⟩
    have hcnt : ∀ d : Int, (dif (b ++ [p])).count d = (dif b).count d + (b.map fun x => p - x).count d := fun d => by rw [dif_snoc, List.count_append]
    obtain ⟨t', h1, h2, h3⟩ := wo_enough p b t hl (fun x hx' => by
      have h4 := hbp x hx'
      have h5 := hx x (by simp [hx'])
      omega) (fun d hd' => by
      have h4 := hd d hd'
      have h5 := dif_app_le (d : Int) r (b ++ [p])
      rw [← e, hcnt] at h5
      omega)
    have ih := vis_all k (b ++ [p]) r t' (by simpa using hr) (by simp) h2 (by rw [← e]; exact hp) (by rw [← e]; exact hx) (fun d hd' => by
      have h4 := hd d hd'
      have h5 := h3 d hd'
      have h6 := hcnt (d : Int)
      rw [← e]
      omega)
    rw [e]
    unfold vis visN
    refine List.mem_flatMap.2 ⟨q, List.mem_filter.2 ⟨List.mem_range.2 (by omega), ?_⟩, ?_⟩
    · have hlast : lastB b ∈ b := by
        unfold lastB gi
        have hbl : 0 < b.length := List.length_pos_iff.2 hb
        rw [List.getD_eq_getElem?_getD, List.getElem?_eq_getElem (by omega)]
        exact List.getElem_mem _
      have := hbp _ hlast
      simp
      omega
    · unfold visP
      rw [hq, h1]
      exact ih
theorem tal_count : ∀ (ds : List Int), (∀ x ∈ ds, 0 ≤ x ∧ x ≤ 60) → ∀ (t : List Int), t.length = 61 → (ds.foldl inc1 t).length = 61 ∧ ∀ d : Nat, d < 61 → (ds.foldl inc1 t).getD d 0 = t.getD d 0 + (ds.count (d : Int) : Int)
  | [], _, t, hl => ⟨hl, fun d _ => by simp⟩
  | x :: ds, hx, t, hl => by
    have hx0 := hx x (by simp)
    obtain ⟨q, hq⟩ : ∃ q : Nat, (q : Int) = x := ⟨x.toNat, by omega⟩
    have hql : x.toNat < t.length := by omega
    obtain ⟨h1, h2⟩ := tal_count ds (fun y hy => hx y (by simp [hy])) (inc1 t x) (by unfold inc1; rw [List.length_set]; exact hl)
    refine ⟨h1, fun d hd => ?_⟩
    rw [List.foldl_cons, h2 d hd]
    unfold inc1
    rw [set_at hql, List.count_cons]
    by_cases e : x.toNat = d
    · have e2 : x = (d : Int) := by omega
      rw [if_pos e, e, e2]
      simp
      omega
    · have e2 : ¬ x = (d : Int) := by omega
      rw [if_neg e]
      simp [e2]
theorem tal_at {ds : List Int} (h : ∀ x ∈ ds, 0 ≤ x ∧ x ≤ 60) {d : Nat} (hd : d < 61) : (tal ds).getD d 0 = (ds.count (d : Int) : Int) := by
  have := (tal_count ds h none61 rfl).2 d hd
  unfold tal
  rw [this]
  have e : none61.getD d 0 = 0 := by
    unfold none61
    rw [List.getD_eq_getElem?_getD, List.getElem?_replicate]
    split <;> rfl
  omega
theorem dif_length : ∀ (n : Nat) (l : List Int), l.length = n → (dif l).length * 2 = n * (n - 1)
  | 0, l, h => by
    obtain rfl := List.eq_nil_of_length_eq_zero h
    rfl
  | n + 1, l, h => by
    have hne : l ≠ [] := by intro e; subst e; simp at h
    obtain ⟨l, x, rfl⟩ : ∃ ini c, l = ini ++ [c] := ⟨l.dropLast, l.getLast hne, (List.dropLast_concat_getLast hne).symm⟩
    have hl : l.length = n := by simpa using h
    have ih := dif_length n l hl
    rw [dif_snoc, List.length_append, List.length_map, hl, Nat.add_mul, ih, Nat.add_sub_cancel, Nat.mul_comm n 2]
    cases n with
    | zero => rfl
    | succ n => rw [Nat.add_sub_cancel, Nat.mul_comm (n + 1 + 1) (n + 1), show n + 1 + 1 = n + 2 from rfl, Nat.mul_add (n + 1) n 2, Nat.mul_comm 2 (n + 1)]
/-- Valid cliffs from 0 on are visited by their own delays. -/
theorem vis_own {L : List Int} (h : errC L = 0) (h0 : gi L 0 = 0) : L ∈ vis (L.length - 1) [0] (tal (sortZ (dif L))) := by
  obtain ⟨h1, h2, h3, h4⟩ := errC_ok.1 h
  obtain ⟨x, r, rfl⟩ : ∃ x r, L = x :: r := by
    cases L with
    | nil => simp at h1
    | cons x r => exact ⟨x, r, rfl⟩
  have hx : x = 0 := by simpa [gi] using h0
  subst hx
  have hr : ∀ d ∈ sortZ (dif ((0 : Int) :: r)), 0 ≤ d ∧ d ≤ 60 := fun d hd => by
    have := dif_range h d ((sortZ_perm _).mem_iff.1 hd)
    omega
  have hm := vis_all r.length [0] r (tal (sortZ (dif ((0 : Int) :: r)))) rfl (by simp) (tal_ok (fun k hk => by
    rw [List.getD_eq_getElem?_getD, List.getElem?_eq_getElem hk]
    exact hr _ (List.getElem_mem hk)) (by
    rw [sortZ_len]
    have := dif_len h2
    omega)).len (okTo_sorted h3) (fun y hy => by
    obtain ⟨k, hk, e⟩ := List.getElem_of_mem hy
    have hk' : k < ((0 : Int) :: r).length := hk
    have g1 := okTo_le h3 (i := 0) (j := k) (by omega) hk'
    have g2 := okTo_le h3 (i := k) (j := ((0 : Int) :: r).length - 1) (by omega) (by omega)
    have e1 : gi ((0 : Int) :: r) k = y := by
      unfold gi
      rw [List.getD_eq_getElem?_getD, List.getElem?_eq_getElem hk']
      exact e
    rw [e1] at g1 g2
    rw [h0] at g1
    unfold ext at h4
    unfold gi at g2 h0
    omega) (fun d hd => by
    rw [tal_at hr hd, (sortZ_perm (dif ((0 : Int) :: r))).count_eq]
    have : dif [(0 : Int)] = [] := rfl
    rw [this]
    simp)
  simpa using hm
theorem cwV_own {L : List Int} (h : errC L = 0) : cwV (sortZ (dif L)).length = L.length := by
  obtain ⟨h1, h2, h3, h4⟩ := errC_ok.1 h
  refine cwV_at L.length h1 h2 ?_
  rw [sortZ_len]
  have := dif_length L.length L rfl
  omega
theorem errD_own {L : List Int} (h : errC L = 0) : errD (sortZ (dif L)) = 0 := by
  obtain ⟨h1, h2, h3, h4⟩ := errC_ok.1 h
  have hl := dif_length L.length L rfl
  have hb : L.length * (L.length - 1) ≤ 6 * 5 := Nat.mul_le_mul h2 (by omega)
  refine errD_fine (by rw [sortZ_len]; omega) (by rw [cwV_own h]; omega) fun i hi => dokB_iff.2 ?_
  have hm : (sortZ (dif L)).getD i 0 ∈ dif L := by
    rw [List.getD_eq_getElem?_getD, List.getElem?_eq_getElem hi]
    exact (sortZ_perm _).mem_iff.1 (List.getElem_mem hi)
  have hr := dif_range h _ hm
  refine ⟨hr.1, by omega, ?_⟩
  by_cases e : i = 0
  · exact .inl e
  · exact .inr (srt_le (sortZ_sorted _) (by omega) hi)
/-- The normal form is normal, and valid, and begins at 0. -/
theorem nor_norB {L : List Int} (h : 1 ≤ L.length) : norB (norF L) = true := by
  unfold norF
  cases e : norB (sh0 L) with
  | true => simpa using e
  | false =>
    unfold norB at e ⊢
    simp only [Bool.false_eq_true, if_false]
    rw [mir_mir (by rw [sh0_len]; exact h)]
    exact bef_total e
theorem nor_zero {L : List Int} (h : 1 ≤ L.length) : gi (norF L) 0 = 0 := by
  have e0 : gi (sh0 L) 0 = 0 := by rw [sh0_gi (by omega)]; omega
  unfold norF
  split
  · exact e0
  · rw [mir_gi (by rw [sh0_len]; omega)]
    unfold mirE
    rw [e0]
    simp
theorem errC_sh0 {L : List Int} (h : errC L = 0) : errC (sh0 L) = 0 := by
  obtain ⟨h1, h2, h3, h4⟩ := errC_ok.1 h
  have hext : gi L (L.length - 1) - gi L 0 ≤ 60 := h4
  refine errC_fine (by rw [sh0_len]; exact h1) (by rw [sh0_len]; exact h2) ?_ ?_
  · intro i hi
    rw [sh0_len] at hi
    have c0 := okTo_le h3 (i := 0) (j := i) (by omega) hi
    have c1 := okTo_le h3 (i := i) (j := L.length - 1) (by omega) (by omega)
    have g1 := sh0_gi (L := L) hi
    refine okB_iff.2 ⟨?_, ?_, ?_⟩
    · change -60 ≤ gi (sh0 L) i; omega
    · change gi (sh0 L) i ≤ 60; omega
    · by_cases e : i = 0
      · exact .inl e
      · right
        have g2 := sh0_gi (L := L) (k := i - 1) (by omega)
        have := okTo_lt h3 (i := i - 1) (j := i) (by omega) hi
        change gi (sh0 L) (i - 1) < gi (sh0 L) i
        omega
  · have g1 := sh0_gi (L := L) (k := 0) (by omega)
    have g2 := sh0_gi (L := L) (k := L.length - 1) (by omega)
    unfold ext
    rw [sh0_len]
    change gi (sh0 L) (L.length - 1) - gi (sh0 L) 0 ≤ 60
    omega
theorem errC_nor {L : List Int} (h : errC L = 0) : errC (norF L) = 0 := by
  unfold norF
  split
  · exact errC_sh0 h
  · exact errC_mir (errC_sh0 h)
/-- The normal form is among all with these delays. -/
theorem nor_among {L : List Int} (h : errC L = 0) : norF L ∈ allV (delV L) := by
  have hl := (errC_ok.1 h).1
  rw [delV_ok h]
  unfold allV
  rw [if_pos (errD_own h), cwV_own h]
  refine List.mem_filter.2 ⟨?_, nor_norB hl⟩
  have := vis_own (errC_nor h) (nor_zero hl)
  rw [norF_len, nor_dif (errC_sorted h)] at this
  exact this
end Go.Proofs.Ytllfkhcpdgdmnaa
