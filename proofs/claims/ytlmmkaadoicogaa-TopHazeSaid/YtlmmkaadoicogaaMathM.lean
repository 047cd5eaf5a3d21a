/- Pooled, raised, opposite and turned readings; no program. -/
import Derived.Test.YtlmmkaadoicogaaWalkQ
namespace Go.Proofs.Ytlmmkaadoicogaa

theorem getD_set (l : Rd) (i k : Nat) (x : Int × Int) (hi : i < l.length) : (l.set i x).getD k (0, 0) = if k = i then x else l.getD k (0, 0) := by
  by_cases h : k = i
  · subst h; simp [List.getD_eq_getElem?_getD, hi]
  · rw [if_neg h]; simp [List.getD_eq_getElem?_getD, Ne.symm h]
theorem okH_all {xs : Rd} (h : ∀ i, i < xs.length → 0 ≤ vI xs i ∧ vI xs i ≤ 100 ∧ 1 ≤ wI xs i ∧ wI xs i ≤ 9) : okH xs = true := by
  refine List.all_eq_true.2 fun x hx => ?_
  obtain ⟨k, hk, rfl⟩ := List.getElem_of_mem hx
  have := h k hk
  simp [vI, wI, List.getD_eq_getElem?_getD, hk] at this
  simp [okR]
  omega
/-- Rows that prove themselves for the same values and weights are the same. -/
theorem rr_of {xs : Rd} (o : okH xs = true) {v w r : Nat → Rat} (k : KKT xs.length v w r) (hv : ∀ i, i < xs.length → v i = vq xs i) (hw : ∀ i, i < xs.length → w i = wq xs i) : ∀ i, i < xs.length → rr xs i = r i := by
  intro i hi
  have k2 := k.congr (v' := vq xs) (w' := wq xs) (r' := r) hv hw (fun _ _ => rfl)
  rw [k2.mm (wq_pos o) hi]
  exact rr_mm xs hi
theorem bestR_ext {xs ys : Rd} (hl : xs.length = ys.length) (h : ∀ i, i < xs.length → rr xs i = rr ys i) : bestR xs = bestR ys := by
  refine List.ext_getElem (by rw [bestR_len, bestR_len, hl]) fun i h1 h2 => ?_
  rw [bestR_len] at h1
  have := h i h1
  unfold rr at this
  simpa [List.getD_eq_getElem?_getD, bestR_len, h1, hl ▸ h1] using this

/-- Two readings with the value m. -/
def poolL (xs : Rd) (i : Nat) (m : Int) : Rd := (xs.set i (m, (xs.getD i (0, 0)).2)).set (i + 1) (m, ((xs.set i (m, (xs.getD i (0, 0)).2)).getD (i + 1) (0, 0)).2)
theorem poolL_len (xs : Rd) (i : Nat) (m : Int) : (poolL xs i m).length = xs.length := by simp [poolL]
theorem poolL_get {xs : Rd} {i : Nat} (hi : i + 1 < xs.length) (m : Int) (k : Nat) : (poolL xs i m).getD k (0, 0) = if k = i ∨ k = i + 1 then (m, wI xs k) else xs.getD k (0, 0) := by
  unfold poolL
  rw [getD_set _ _ _ _ (by rw [List.length_set]; omega), getD_set _ _ _ _ (by omega), getD_set _ _ _ _ (by omega)]
  by_cases h1 : k = i + 1
  · subst h1
    simp [wI]
  · by_cases h2 : k = i
    · subst h2; simp [wI]
    · simp [h1, h2]
theorem mq_two {xs : Rd} (o : okH xs = true) {i : Nat} (hi : i + 1 < xs.length) (hd : de (mq xs i (i + 1)) = 1) :
    nu (mq xs i (i + 1)) * (wI xs i + wI xs (i + 1)) = wI xs i * vI xs i + wI xs (i + 1) * vI xs (i + 1) := by
  have h1 := rt_self (mq xs i (i + 1))
  have h2 := mn_rt xs i (i + 1)
  have hn : nS xs (i + 1 + 1) - nS xs i = wI xs i * vI xs i + wI xs (i + 1) * vI xs (i + 1) := by rw [nS_succ, nS_succ]; omega
  have hdd : dS xs (i + 1 + 1) - dS xs i = wI xs i + wI xs (i + 1) := by rw [dS_succ, dS_succ]; omega
  rw [hn, hdd] at h2
  obtain ⟨a1, a2, a3, a4⟩ := okH_get o (show i < xs.length by omega)
  obtain ⟨b1, b2, b3, b4⟩ := okH_get o hi
  have h3 : rt (mq xs i (i + 1)).num (mq xs i (i + 1)).den = rt (wI xs i * vI xs i + wI xs (i + 1) * vI xs (i + 1)) (wI xs i + wI xs (i + 1)) := h1.trans h2
  unfold de at hd
  rw [hd, rt_inj (by omega) (by omega)] at h3
  unfold nu
  rw [h3]
  omega
theorem mq_two_bd {xs : Rd} (o : okH xs = true) {i : Nat} (hi : i + 1 < xs.length) (hd : de (mq xs i (i + 1)) = 1) : 0 ≤ nu (mq xs i (i + 1)) ∧ nu (mq xs i (i + 1)) ≤ 100 := by
  have h := mq_two o hi hd
  obtain ⟨a1, a2, a3, a4⟩ := okH_get o (show i < xs.length by omega)
  obtain ⟨b1, b2, b3, b4⟩ := okH_get o hi
  generalize nu (mq xs i (i + 1)) = m at *
  have e1 : 0 ≤ wI xs i * vI xs i := Int.mul_nonneg (by omega) (by omega)
  have e2 : 0 ≤ wI xs (i + 1) * vI xs (i + 1) := Int.mul_nonneg (by omega) (by omega)
  have e3 : wI xs i * vI xs i ≤ wI xs i * 100 := Int.mul_le_mul_of_nonneg_left a2 (by omega)
  have e4 : wI xs (i + 1) * vI xs (i + 1) ≤ wI xs (i + 1) * 100 := Int.mul_le_mul_of_nonneg_left b2 (by omega)
  have hp : 0 < wI xs i + wI xs (i + 1) := by omega
  constructor
  · rcases (by omega : m < 0 ∨ 0 ≤ m) with c | c
    · have := Int.mul_neg_of_neg_of_pos c hp
      omega
    · exact c
  · rcases (by omega : 100 < m ∨ m ≤ 100) with c | c
    · have := Int.mul_le_mul_of_nonneg_right (c := wI xs i + wI xs (i + 1)) (show 101 ≤ m by omega) (by omega)
      omega
    · exact c
theorem poolL_ok {xs : Rd} (o : okH xs = true) {i : Nat} (hi : i + 1 < xs.length) {m : Int} (h0 : 0 ≤ m) (h1 : m ≤ 100) : okH (poolL xs i m) = true := by
  refine okH_all fun k hk => ?_
  rw [poolL_len] at hk
  have g := okH_get o hk
  unfold vI wI at g ⊢
  rw [poolL_get hi]
  split
  · simp only [wI]; omega
  · exact g
theorem poolL_best {xs : Rd} (o : okH xs = true) {i : Nat} (hi : i + 1 < xs.length) (hv : vI xs i < vI xs (i + 1)) (hd : de (mq xs i (i + 1)) = 1) : bestR (poolL xs i (nu (mq xs i (i + 1)))) = bestR xs := by
  have hm := mq_two o hi hd
  obtain ⟨m0, m1⟩ := mq_two_bd o hi hd
  generalize nu (mq xs i (i + 1)) = m at *
  have o2 := poolL_ok o hi m0 m1
  have kk := (best_kkt o).pool (wq_pos o) hi (by unfold vq; exact Rat.intCast_lt_intCast.2 hv) (m : Rat) (by
    unfold wq vq
    rw [← Rat.intCast_add, ← Rat.intCast_mul, ← Rat.intCast_mul, ← Rat.intCast_mul, ← Rat.intCast_add, hm])
  have hl := poolL_len xs i m
  rw [← hl] at kk
  refine bestR_ext hl fun k hk => ?_
  have := rr_of o2 kk (fun j hj => by
    unfold vq vI
    rw [poolL_get hi]
    split <;> rfl) (fun j hj => by
    unfold wq wI
    rw [poolL_get hi]
    split <;> rfl) k hk
  exact this
def errP (xs : Rd) (k : Int) : Int :=
  if errH xs = 0 then (if 0 ≤ k ∧ k + 2 ≤ xs.length then (if vI xs (k.toNat + 1) ≤ vI xs k.toNat then 6 else if de (mq xs k.toNat (k.toNat + 1)) = 1 then 0 else 1) else 4) else errH xs
theorem errP_bad {xs : Rd} {k : Int} (h : errH xs ≠ 0) : errP xs k = errH xs := by unfold errP; rw [if_neg h]
theorem errP_zero {xs : Rd} {k : Int} (h : errP xs k = 0) : errH xs = 0 ∧ 0 ≤ k ∧ k + 2 ≤ xs.length ∧ vI xs k.toNat < vI xs (k.toNat + 1) ∧ de (mq xs k.toNat (k.toNat + 1)) = 1 := by
  unfold errP at h
  split at h
  · rename_i h0
    split at h
    · rename_i h1
      split at h
      · omega
      · split at h
        · rename_i h2 h3; exact ⟨h0, h1.1, h1.2, by omega, h3⟩
        · omega
    · omega
  · contradiction

end Go.Proofs.Ytlmmkaadoicogaa
