/- Mathematics: weights with one more. -/
import Derived.Test.YtlhlcchimammlaaMX
import Derived.Test.YtlhlcchimammlaaMF
namespace Go.Proofs.Ytlhlcchimammlaa

/-- How many weights are less. -/
def posW (xs : List Int) (x : Int) : Nat := xs.countP (· < x)
def withL (xs : List Int) (x : Int) : List Int := xs.take (posW xs x) ++ x :: xs.drop (posW xs x)
theorem posW_le (xs : List Int) (x : Int) : posW xs x ≤ xs.length := List.countP_le_length
theorem asc_pos : ∀ {xs : List Int} {x : Int}, xs.Pairwise (· < ·) → ∀ i, i < xs.length → (xs.getD i 0 < x ↔ i < posW xs x)
  | [], _, _, i, hi => absurd hi (Nat.not_lt_zero _)
  | a :: l, x, h, i, hi => by
    rw [List.pairwise_cons] at h
    by_cases ha : a < x
    · have e : posW (a :: l) x = posW l x + 1 := by unfold posW; rw [List.countP_cons_of_pos (by simpa using ha)]
      rw [e]
      cases i with
      | zero => simp [ha]
      | succ i =>
        have := asc_pos (x := x) h.2 i (by simpa using hi)
        simpa using this
    · have e : posW (a :: l) x = 0 := by
        unfold posW
        rw [List.countP_eq_zero]
        intro y hy
        rcases List.mem_cons.1 hy with rfl | hy
        · simpa using ha
        · have := h.1 y hy
          simp; omega
      rw [e]
      have : (a :: l).getD i 0 ∈ a :: l := by
        rw [List.getD_eq_getElem?_getD, List.getElem?_eq_getElem hi]
        exact List.getElem_mem _
      constructor
      · intro hlt
        rcases List.mem_cons.1 this with e1 | hy
        · omega
        · have := h.1 _ hy; omega
      · intro h; omega
theorem mem_withL {xs : List Int} {x y : Int} : y ∈ withL xs x ↔ y = x ∨ y ∈ xs := by
  unfold withL
  rw [List.mem_append, List.mem_cons]
  constructor
  · rintro (h | h | h)
    · exact .inr (List.mem_of_mem_take h)
    · exact .inl h
    · exact .inr (List.mem_of_mem_drop h)
  · rintro (h | h)
    · exact .inr (.inl h)
    · rw [← List.take_append_drop (posW xs x) xs, List.mem_append] at h
      rcases h with h | h
      · exact .inl h
      · exact .inr (.inr h)
theorem withL_len (xs : List Int) (x : Int) : (withL xs x).length = xs.length + 1 := by
  have := posW_le xs x
  unfold withL
  simp; omega
/-- The error, and the weights. -/
def withE (xs : List Int) (x : Int) : Int := if errW xs = 0 then (if x ∈ xs then 5 else errW (withL xs x)) else errW xs
def withV (xs : List Int) (x : Int) : List Int := if withE xs x = 0 then withL xs x else []
theorem withE_no {xs : List Int} {x : Int} (h : errW xs ≠ 0) : withE xs x = errW xs := if_neg h
theorem withE_in {xs : List Int} {x : Int} (h : errW xs = 0) (hx : x ∈ xs) : withE xs x = 5 := by unfold withE; rw [if_pos h, if_pos hx]
theorem withE_new {xs : List Int} {x : Int} (h : errW xs = 0) (hx : x ∉ xs) : withE xs x = errW (withL xs x) := by unfold withE; rw [if_pos h, if_neg hx]
theorem withV_ok {xs : List Int} {x : Int} (h : withE xs x = 0) : withV xs x = withL xs x := if_pos h
theorem withV_no {xs : List Int} {x : Int} (h : withE xs x ≠ 0) : withV xs x = [] := if_neg h
theorem withE_ok {xs : List Int} {x : Int} (h : withE xs x = 0) : VW xs ∧ x ∉ xs ∧ VW (withL xs x) := by
  unfold withE at h
  split at h
  · rename_i h1
    split at h
    · omega
    · rename_i h2; exact ⟨errW_vw.1 h1, h2, errW_vw.1 h⟩
  · contradiction
theorem with_new {xs : List Int} {x : Int} (h : withE xs x = 0) : 1 ≤ x ∧ x ≤ 30 := (withE_ok h).2.2.wt x (mem_withL.2 (.inl rfl))
theorem with_errA {xs : List Int} {x : Int} (h : withE xs x = 0) (m : Int) : errA (withL xs x) m = errA xs m := by
  obtain ⟨h1, _, h3⟩ := withE_ok h
  unfold errA
  rw [if_pos (errW_vw.2 h1), if_pos (errW_vw.2 h3)]
theorem with_more {xs : List Int} {x : Int} (h : withE xs x = 0) {n : Nat} (hm : mu xs n = true) : mu (withL xs x) n = true := by
  obtain ⟨h1, _, h3⟩ := withE_ok h
  obtain ⟨c, hc⟩ := (mu_iff h1.wt).1 hm
  exact (mu_iff h3.wt).2 ⟨c, hc.mono fun y hy => mem_withL.2 (.inr hy)⟩
theorem with_same {xs : List Int} {x : Int} (h : withE xs x = 0) (hx : mu xs x.toNat = true) (n : Nat) : mu (withL xs x) n = mu xs n := by
  obtain ⟨h1, _, h3⟩ := withE_ok h
  rw [Bool.eq_iff_iff]
  constructor
  · intro hm
    obtain ⟨c, hc⟩ := (mu_iff h3.wt).1 hm
    refine (mu_iff h1.wt).2 (hc.trans fun y hy => ?_)
    rcases mem_withL.1 hy with rfl | hy
    · exact (mu_iff h1.wt).1 hx
    · exact ⟨1, Mk.one hy⟩
  · exact with_more h
theorem with_sam {xs : List Int} {x : Int} (h : withE xs x = 0) : samV xs (withL xs x) = mu xs x.toNat := by
  obtain ⟨h1, _, h3⟩ := withE_ok h
  rw [Bool.eq_iff_iff, sam_iff h1 h3]
  constructor
  · intro hs
    rw [hs]
    exact (mu_iff h3.wt).2 ⟨1, Mk.one (mem_withL.2 (.inl rfl))⟩
  · intro hx n
    exact (with_same h hx n).symm
/-- The weights so far, in the document's loop. -/
theorem take_get {xs : List Int} {k : Nat} (h : k < xs.length) : xs.take (k + 1) = xs.take k ++ [xs.getD k 0] := by
  rw [List.take_succ_eq_append_getElem h, List.getD_eq_getElem?_getD, List.getElem?_eq_getElem h]
  rfl
end Go.Proofs.Ytlhlcchimammlaa
