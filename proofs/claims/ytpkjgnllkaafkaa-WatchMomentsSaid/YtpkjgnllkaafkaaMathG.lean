import Derived.Test.YtpkjgnllkaafkaaMathF
/- The rests as they are made: bounds, and sums over the first of them; no program. -/
namespace Go.Proofs.Ytpkjgnllkaafkaa

def restNm (b : Rs) : Nm := (b.1.1, b.1.2.1, b.2, b.1.2.2.2)
theorem overSum_app (R S : List Rs) (s : Nm) : overSum (R ++ S) s = overSum R s + overSum S s := by simp [overSum]
theorem overSum_bd {R : List Rs} (h : ∀ b ∈ R, 0 < b.2 ∧ b.2 ≤ 99) (s : Nm) : 0 ≤ overSum R s ∧ overSum R s ≤ 99 * R.length := by
  induction R with
  | nil => simp [overSum]
  | cons b R ih =>
    have h1 := ih fun c hc => h c (by simp [hc])
    have h2 := h b (by simp)
    simp only [overSum, List.map_cons, List.sum_cons, List.length_cons] at h1 ⊢
    split <;> omega
theorem rsts_bd' : ∀ (n : Nat) (L : Ns), L.length = n → (∀ s ∈ L, okN s) → (∀ b ∈ rsts L, 0 < b.2 ∧ b.2 ≤ 99 ∧ b.1 ∈ L) ∧ (rsts L).length ≤ n
  | 0, L, hn, _ => by
    obtain rfl := List.eq_nil_of_length_eq_zero hn
    simp [rsts]
  | n + 1, L, hn, hok => by
    have hne : L ≠ [] := by intro e; subst e; simp at hn
    obtain ⟨L, s, rfl⟩ : ∃ ini c, L = ini ++ [c] := ⟨L.dropLast, L.getLast hne, (List.dropLast_concat_getLast hne).symm⟩
    obtain ⟨ih, il⟩ := rsts_bd' n L (by simpa using hn) fun x hx => hok x (by simp [hx])
    have hs := hok s (by simp)
    have ho := overSum_bd (R := rsts L) (fun b hb => ⟨(ih b hb).1, (ih b hb).2.1⟩) s
    rw [rsts_snoc]
    unfold restF
    split
    · rename_i h
      refine ⟨fun b hb => ?_, by simp; omega⟩
      rcases List.mem_append.1 hb with hb | hb
      · have := ih b hb
        exact ⟨this.1, this.2.1, by simp [this.2.2]⟩
      · simp at hb
        subst hb
        unfold okN at hs
        exact ⟨h, by simp only; omega, by simp⟩
    · refine ⟨fun b hb => ?_, by omega⟩
      have := ih b hb
      exact ⟨this.1, this.2.1, by simp [this.2.2]⟩
theorem rsts_bd {L : Ns} (hok : ∀ s ∈ L, okN s) : (∀ b ∈ rsts L, 0 < b.2 ∧ b.2 ≤ 99 ∧ b.1 ∈ L) ∧ (rsts L).length ≤ L.length := rsts_bd' _ L rfl hok
/-- What the first k rests take off. -/
def ovTo (R : List Rs) (s : Nm) (k : Nat) : Int := overSum (R.take k) s
theorem ovTo_zero (R : List Rs) (s : Nm) : ovTo R s 0 = 0 := by simp [ovTo, overSum]
theorem ovTo_all (R : List Rs) (s : Nm) {k : Nat} (h : R.length ≤ k) : ovTo R s k = overSum R s := by rw [ovTo, List.take_of_length_le h]
theorem ovTo_succ {R : List Rs} {s : Nm} {k : Nat} (h : k < R.length) {b : Nm} (hb : gt (R.map restNm) k = b) : ovTo R s (k + 1) = ovTo R s k + if ovB (b.1, b.2.1, b.2.2.1) (shOf s) then b.2.2.1 else 0 := by
  subst hb
  unfold ovTo
  rw [List.take_succ_eq_append_getElem h, overSum_app]
  have e : gt (R.map restNm) k = restNm R[k] := by simp [gt, List.getD_eq_getElem?_getD, h]
  rw [e]
  have e2 : ovB (shOf R[k].1) (shOf s) = ovB ((restNm R[k]).1, (restNm R[k]).2.1, (restNm R[k]).2.2.1) (shOf s) := rfl
  simp only [overSum, List.map_cons, List.map_nil, List.sum_cons, List.sum_nil, e2, Int.add_zero]
  rfl
theorem ovTo_yes {R : List Rs} {s : Nm} {k : Nat} (h : k < R.length) (y1 y2 y3 y4 : Int) (hb : gt (R.map restNm) k = (y1, y2, y3, y4)) (ho : ovB (y1, y2, y3) (s.1, s.2.1, s.2.2.1) = true) : ovTo R s (k + 1) = ovTo R s k + y3 := by
  rw [ovTo_succ h hb]
  have : ovB (y1, y2, y3) (shOf s) = true := ho
  simp only [this, if_pos]
theorem ovTo_no {R : List Rs} {s : Nm} {k : Nat} (h : k < R.length) (y1 y2 y3 y4 : Int) (hb : gt (R.map restNm) k = (y1, y2, y3, y4)) (ho : ovB (y1, y2, y3) (s.1, s.2.1, s.2.2.1) = false) : ovTo R s (k + 1) = ovTo R s k := by
  rw [ovTo_succ h hb]
  have : ovB (y1, y2, y3) (shOf s) = false := ho
  simp [this]
theorem ovTo_bd {R : List Rs} (h : ∀ b ∈ R, 0 < b.2 ∧ b.2 ≤ 99) (s : Nm) (k : Nat) (hl : R.length ≤ 12) : 0 ≤ ovTo R s k ∧ ovTo R s k ≤ 1188 := by
  have := overSum_bd (R := R.take k) (fun b hb => h b (List.mem_of_mem_take hb)) s
  have h2 := List.length_take_le' k R
  unfold ovTo
  omega
theorem rests_yes {L : Ns} {s : Nm} {v : Int} (hv : s.2.2.1 - overSum (rsts L) s = v) (h : 0 < v) : (rsts (L ++ [s])).map restNm = (rsts L).map restNm ++ [(s.1, s.2.1, v, s.2.2.2)] := by
  subst hv
  rw [rsts_snoc, restF, if_pos h, List.map_append]
  rfl
theorem rests_no {L : Ns} {s : Nm} {v : Int} (hv : s.2.2.1 - overSum (rsts L) s = v) (h : ¬ 0 < v) : (rsts (L ++ [s])).map restNm = (rsts L).map restNm := by
  subst hv
  rw [rsts_snoc, restF, if_neg h]
end Go.Proofs.Ytpkjgnllkaafkaa
