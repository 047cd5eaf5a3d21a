/- Plain mathematics: tones from blasts. -/
import Derived.Test.YtbehnhhgoeiofaaMathBl
import Derived.Test.YtbehnhhgoeiofaaMathS
namespace Go.Proofs.Ytbehnhhgoeiofaa

def okLens (l : List Int) : Bool := l.all fun x => decide (1 ≤ x) && decide (x ≤ 24)
def LensTo (l : List Int) (k : Nat) : Prop := ∀ j, j < k → 1 ≤ l.getD j 0 ∧ l.getD j 0 ≤ 24
theorem lensTo_zero (l : List Int) : LensTo l 0 := fun _ h => absurd h (Nat.not_lt_zero _)
theorem lensTo_succ {l : List Int} {k : Nat} (h : LensTo l k) (h1 : 1 ≤ l.getD k 0) (h2 : l.getD k 0 ≤ 24) : LensTo l (k + 1) := by
  intro j hj
  by_cases hjk : j = k
  · subst hjk; exact ⟨h1, h2⟩
  · exact h j (by omega)
theorem okLens_true {l : List Int} (h : LensTo l l.length) : okLens l = true := by
  unfold okLens
  rw [List.all_eq_true]
  intro x hx
  obtain ⟨k, hk, rfl⟩ := List.getElem_of_mem hx
  have := h k hk
  rw [List.getD_eq_getElem?_getD, List.getElem?_eq_getElem hk] at this
  simpa using this
theorem okLens_false {l : List Int} {k : Nat} (hk : k < l.length) (h : l.getD k 0 < 1 ∨ 24 < l.getD k 0) : okLens l = false := by
  cases ho : okLens l with
  | false => rfl
  | true =>
    unfold okLens at ho
    rw [List.all_eq_true] at ho
    have := ho _ (mem_getD hk)
    simp only [Bool.and_eq_true, decide_eq_true_eq] at this
    omega
theorem lens_of_ok {l : List Int} (h : okLens l = true) : LensTo l l.length := by
  intro j hj
  unfold okLens at h
  rw [List.all_eq_true] at h
  have := h _ (mem_getD hj)
  simpa only [Bool.and_eq_true, decide_eq_true_eq] using this
theorem sum_lens {l : List Int} : ∀ k, LensTo l k → (k : Int) ≤ sumTo l k ∧ sumTo l k ≤ 24 * (k : Int) := by
  intro k
  induction k with
  | zero => intro _; simp [sumTo]
  | succ k ih =>
    intro h
    have := ih (fun j hj => h j (by omega))
    have := h k (by omega)
    rw [sumTo_succ]; omega
def evenB (l : List Int) : Bool := decide (2 ≤ l.length) && decide (l.length % 2 = 0)
def errF (l : List Int) : Int := if evenB l then (if okLens l then (if 24 < sumTo l l.length then 3 else 0) else 1) else 1
theorem errF_odd {l : List Int} (h : evenB l = false) : errF l = 1 := by unfold errF; rw [h]; rfl
theorem errF_bad {l : List Int} (h : evenB l = true) (h2 : okLens l = false) : errF l = 1 := by unfold errF; rw [if_pos h, h2]; rfl
theorem errF_big {l : List Int} (h : evenB l = true) (h2 : okLens l = true) (h3 : 24 < sumTo l l.length) : errF l = 3 := by unfold errF; rw [if_pos h, if_pos h2, if_pos h3]
theorem errF_zero {l : List Int} (h : evenB l = true) (h2 : okLens l = true) (h3 : ¬ 24 < sumTo l l.length) : errF l = 0 := by unfold errF; rw [if_pos h, if_pos h2, if_neg h3]
theorem errF_ok {l : List Int} (h : errF l = 0) : evenB l = true ∧ okLens l = true ∧ sumTo l l.length ≤ 24 := by
  unfold errF at h
  split at h
  · split at h
    · split at h
      · omega
      · rename_i a b c; exact ⟨a, b, by omega⟩
    · omega
  · omega
def expTo (l : List Int) (k : Nat) : List Int := expand 1 (l.take k)
theorem expTo_zero (l : List Int) : expTo l 0 = [] := rfl
theorem expTo_all (l : List Int) : expTo l l.length = expand 1 l := by unfold expTo; rw [List.take_length]
theorem parV_eq (k : Nat) : parV 1 k = 1 - (k : Int) % 2 := by
  unfold parV; split <;> omega
theorem expTo_succ {l : List Int} {k : Nat} (h : k < l.length) : expTo l (k + 1) = expTo l k ++ List.replicate (l.getD k 0).toNat (1 - (k : Int) % 2) := by
  unfold expTo
  rw [List.take_succ_eq_append_getElem h, expand_snoc, parV_eq]
  simp [List.getD_eq_getElem?_getD, h, Nat.min_eq_left (Nat.le_of_lt h)]
theorem expTo_length {l : List Int} : ∀ k, k ≤ l.length → LensTo l k → ((expTo l k).length : Int) = sumTo l k := by
  intro k
  induction k with
  | zero => intro _ _; simp [expTo_zero, sumTo]
  | succ k ih =>
    intro hk h
    have := h k (by omega)
    rw [expTo_succ (by omega), List.length_append, List.length_replicate, sumTo_succ]
    have := ih (by omega) (fun j hj => h j (by omega))
    omega
theorem piece_one (v : Int) (m : Nat) : pieceL [v] 0 m = List.replicate m v := by
  apply list_ext_getD
  · rw [pieceL_length, List.length_replicate]
  · intro j hj
    rw [pieceL_length] at hj
    rw [pieceL_getD hj]
    have : sec [v] (0 + (j : Int)) = v := by unfold sec; simp [Int.emod_one]
    rw [this]
    simp [List.getD_eq_getElem?_getD, hj]

/-! A tone's blasts, and back. -/
theorem lensTo_of_mem {l : List Int} (h1 : ∀ x ∈ l, 1 ≤ x ∧ x ≤ 24) : LensTo l l.length := fun _ hj => h1 _ (mem_getD hj)
theorem expand_bits (l : List Int) : ∀ s, s = 0 ∨ s = 1 → bitsB (expand s l) = true := by
  induction l with
  | nil => intro s _; rfl
  | cons a l ih =>
    intro s hs
    have := ih (1 - s) (by omega)
    unfold bitsB at *
    show ((List.replicate a.toNat s ++ expand (1 - s) l).all _) = true
    rw [List.all_append, this, Bool.and_true, List.all_eq_true]
    intro x hx
    rw [(List.mem_replicate.1 hx).2]
    simpa using hs
/-- A valid tone that begins with sound and ends with silence: its blasts are right, and make it. -/
theorem bl_make {xs : List Int} (he : errOf xs = 0) (hr : ruleB xs = true) : errF (blL xs) = 0 ∧ expand 1 (blL xs) = xs := by
  obtain ⟨l1, l2, l3⟩ := errOf_zero he
  have h0 : xs.getD 0 0 = 1 := by
    unfold ruleB at hr; simp at hr; simpa [List.getD_eq_getElem?_getD] using hr.1
  have hn : xs.getD (xs.length - 1) 0 = 0 := by
    unfold ruleB at hr; simp at hr; simpa [List.getD_eq_getElem?_getD] using hr.2
  obtain ⟨l, m, e1, e2, e3, e4, e5, e6, e7⟩ := blTo_spec l3 h0 xs.length l1 (Nat.le_refl _)
  have hb : blL xs = l ++ [m] := e1
  have hexp : expand 1 (blL xs) = xs := by rw [hb, e4, List.take_length]
  have hpos : AllPos (l ++ [m]) := by
    intro x hx
    rcases List.mem_append.1 hx with g | g
    · exact e3 x g
    · simp at g; omega
  have hev : evenB (blL xs) = true := by
    rw [hn] at e5
    unfold parV at e5
    have : l.length % 2 = 1 := by
      by_cases hp : l.length % 2 = 0
      · rw [if_pos hp] at e5; omega
      · omega
    unfold evenB
    rw [hb, List.length_append, List.length_singleton]
    simp; omega
  -- each blast is at most the whole
  have hle : ∀ (q : List Int) (s : Int), AllPos q → ∀ x ∈ q, x ≤ ((expand s q).length : Int) := by
    intro q
    induction q with
    | nil => intro s _ x hx; simp at hx
    | cons a q ih =>
      intro s hq x hx
      have ha := hq a (by simp)
      have hlen : (expand s (a :: q)).length = a.toNat + (expand (1 - s) q).length := by simp [expand]
      rcases List.mem_cons.1 hx with g | g
      · rw [hlen]; omega
      · have := ih (1 - s) (fun y hy => hq y (by simp [hy])) x g
        rw [hlen]; omega
  have hlens : LensTo (blL xs) (blL xs).length := by
    refine lensTo_of_mem fun x hx => ?_
    have h2 : expand 1 (l ++ [m]) = xs := by rw [← hb]; exact hexp
    rw [hb] at hx
    have := hle _ 1 hpos x hx
    rw [h2] at this
    exact ⟨hpos x hx, by omega⟩
  have hsum : sumTo (blL xs) (blL xs).length ≤ 24 := by
    rw [← expTo_length _ (Nat.le_refl _) hlens, expTo_all, hexp]; omega
  exact ⟨errF_zero hev (okLens_true hlens) (by omega), hexp⟩
/-- Right blasts make a valid tone that begins with sound and ends with silence; its blasts are these. -/
theorem make_bl {l : List Int} (he : errF l = 0) : errBl (expand 1 l) = 0 ∧ blL (expand 1 l) = l ∧ ((expand 1 l).length : Int) ≤ 24 := by
  obtain ⟨hev, hok, hs⟩ := errF_ok he
  have hlens := lens_of_ok hok
  have hlen := expTo_length l.length (Nat.le_refl _) hlens
  rw [expTo_all] at hlen
  unfold evenB at hev
  simp at hev
  have hsl := sum_lens l.length hlens
  have hbits := expand_bits l 1 (.inr rfl)
  have herr : errOf (expand 1 l) = 0 := err_of (by omega) (by omega) hbits
  have hpos : AllPos l := by
    intro x hx
    obtain ⟨k, hk, rfl⟩ := List.getElem_of_mem hx
    have := hlens k hk
    rw [List.getD_eq_getElem?_getD, List.getElem?_eq_getElem hk] at this
    exact this.1
  have hrule : ruleB (expand 1 l) = true := by
    have hne : l ≠ [] := by intro e; subst e; simp at hev
    have hlast : l = l.dropLast ++ [l.getLast hne] := (List.dropLast_concat_getLast hne).symm
    have hp1 : 1 ≤ l.getLast hne := hpos _ (List.getLast_mem hne)
    have g1 : (expand 1 l).getD 0 0 = 1 := by
      cases l with
      | nil => exact absurd rfl hne
      | cons a q =>
        have ha := hpos a (by simp)
        show (List.replicate a.toNat 1 ++ expand (1 - 1) q).getD 0 0 = 1
        rw [List.getD_eq_getElem?_getD, List.getElem?_append_left (by simp; omega), List.getElem?_replicate, if_pos (by omega)]
        rfl
    have g2 : (expand 1 l).getD ((expand 1 l).length - 1) 0 = 0 := by
      rw [hlast, expand_snoc]
      have hpar : parV 1 l.dropLast.length = 0 := by
        rw [parV_eq, List.length_dropLast]; omega
      rw [hpar, List.length_append, List.length_replicate, List.getD_eq_getElem?_getD, List.getElem?_append_right (by omega), List.getElem?_replicate, if_pos (by omega)]
      rfl
    unfold ruleB
    rw [g1, g2]; rfl
  refine ⟨errBl_yes herr hrule, ?_, by omega⟩
  obtain ⟨m1, m2⟩ := bl_make herr hrule
  have hp2 : AllPos (blL (expand 1 l)) := by
    have := lens_of_ok (errF_ok m1).2.1
    intro x hx
    obtain ⟨k, hk, rfl⟩ := List.getElem_of_mem hx
    have := this k hk
    rw [List.getD_eq_getElem?_getD, List.getElem?_eq_getElem hk] at this
    exact this.1
  exact expand_inj _ 1 l (.inr rfl) hp2 hpos m2

end Go.Proofs.Ytbehnhhgoeiofaa
