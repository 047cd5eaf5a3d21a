/- A queue that keeps doubles and skips what was seen finds what breadth first finds; sets of ends as numbers; plain mathematics, no program. -/
import Derived.Test.YtkjnhdkbojcojaaMO
import Derived.Test.YtkjnhdkbojcojaaMS
namespace Go.Proofs.Ytkjnhdkbojcojaa

section
variable {α : Type} [DecidableEq α] (f : α → Int → α)
/-- The first ones of a queue. -/
def ddP (L : Pl α) : Pl α := L.foldl (fun acc e => addP acc e.1 e.2) []
/-- The queue when r of its words were gone through. -/
def quN (x0 : α) : Nat → Pl α
  | 0 => [(x0, [])]
  | r + 1 => match (quN x0 r)[r]? with
    | some e => if hasP ((quN x0 r).take r) e.1 then quN x0 r else quN x0 r ++ [(f e.1 0, e.2 ++ [0]), (f e.1 1, e.2 ++ [1])]
    | none => quN x0 r
variable {f}
theorem dd_snoc (L : Pl α) (e : α × List Int) : ddP (L ++ [e]) = addP (ddP L) e.1 e.2 := by simp [ddP, List.foldl_append]
theorem dd_two (L : Pl α) (e e' : α × List Int) : ddP (L ++ [e, e']) = addP (addP (ddP L) e.1 e.2) e'.1 e'.2 := by
  rw [show L ++ [e, e'] = (L ++ [e]) ++ [e'] by simp, dd_snoc, dd_snoc]
theorem dd_pre (L : Pl α) : ∀ (M : Pl α), ∃ N, ddP (L ++ M) = ddP L ++ N
  | [] => ⟨[], by simp⟩
  | e :: M => by
    obtain ⟨N, h⟩ := dd_pre (L ++ [e]) M
    obtain ⟨N', h', _⟩ := addP_pre (ddP L) e.1 e.2
    refine ⟨N' ++ N, ?_⟩
    rw [show L ++ e :: M = (L ++ [e]) ++ M by simp, h, dd_snoc, h', List.append_assoc]
theorem has_addP (L : Pl α) (x y : α) (w : List Int) : hasP (addP L x w) y = (hasP L y || decide (x = y)) := by
  unfold addP
  by_cases h : hasP L x = true
  · rw [if_pos h]
    by_cases e : x = y
    · subst e; simp [h]
    · simp [e]
  · rw [if_neg h]; simp [hasP, List.any_append]
theorem dd_has : ∀ (L : Pl α) (y : α), hasP (ddP L) y = hasP L y := by
  intro L
  induction hn : L.length generalizing L with
  | zero => intro y; rw [List.length_eq_zero_iff.1 hn]; rfl
  | succ n ih =>
    intro y
    have hne : L ≠ [] := by intro e; rw [e] at hn; cases hn
    have h2 := List.dropLast_concat_getLast hne
    rw [← h2, dd_snoc, has_addP, ih L.dropLast (by rw [List.length_dropLast, hn]; rfl) y]
    simp [hasP, List.any_append]
theorem quN_some {x0 : α} {r : Nat} {e : α × List Int} (h : (quN f x0 r)[r]? = some e) : quN f x0 (r + 1) = if hasP ((quN f x0 r).take r) e.1 then quN f x0 r else quN f x0 r ++ [(f e.1 0, e.2 ++ [0]), (f e.1 1, e.2 ++ [1])] := by
  show (match (quN f x0 r)[r]? with | some e => _ | none => _) = _
  rw [h]
theorem quN_none {x0 : α} {r : Nat} (h : (quN f x0 r)[r]? = none) : quN f x0 (r + 1) = quN f x0 r := by
  show (match (quN f x0 r)[r]? with | some e => _ | none => _) = _
  rw [h]
/-- How many different ones were gone through. -/
def seN (f : α → Int → α) (x0 : α) (r : Nat) : Nat := (ddP ((quN f x0 r).take r)).length
structure QInv (f : α → Int → α) (x0 : α) (r : Nat) : Prop where
  dd : ddP (quN f x0 r) = plN f x0 (seN f x0 r)
  len : (quN f x0 r).length = 1 + 2 * seN f x0 r
omit [DecidableEq α] in
theorem take_get {L : Pl α} {r : Nat} {e : α × List Int} (h : L[r]? = some e) : L.take (r + 1) = L.take r ++ [e] := by
  rw [List.take_add_one, h]; rfl
theorem q_skip {x0 : α} {r : Nat} {e : α × List Int} (h : (quN f x0 r)[r]? = some e) (hs : hasP ((quN f x0 r).take r) e.1 = true) : quN f x0 (r + 1) = quN f x0 r ∧ seN f x0 (r + 1) = seN f x0 r := by
  have h1 : quN f x0 (r + 1) = quN f x0 r := by rw [quN_some h, if_pos hs]
  refine ⟨h1, ?_⟩
  unfold seN
  rw [h1, take_get h, dd_snoc, addP, if_pos (by rw [dd_has]; exact hs)]
theorem q_new {x0 : α} {r : Nat} {e : α × List Int} (h : (quN f x0 r)[r]? = some e) (hs : hasP ((quN f x0 r).take r) e.1 = false) : quN f x0 (r + 1) = quN f x0 r ++ [(f e.1 0, e.2 ++ [0]), (f e.1 1, e.2 ++ [1])] ∧ seN f x0 (r + 1) = seN f x0 r + 1 ∧ (ddP (quN f x0 r))[seN f x0 r]? = some e := by
  have h1 : quN f x0 (r + 1) = quN f x0 r ++ [(f e.1 0, e.2 ++ [0]), (f e.1 1, e.2 ++ [1])] := by rw [quN_some h, if_neg (by rw [hs]; decide)]
  have hr : r < (quN f x0 r).length := (List.getElem?_eq_some_iff.1 h).1
  have h2 : ddP ((quN f x0 r).take (r + 1)) = ddP ((quN f x0 r).take r) ++ [e] := by
    rw [take_get h, dd_snoc, addP, if_neg (by rw [dd_has, hs]; decide)]
  refine ⟨h1, ?_, ?_⟩
  · unfold seN
    rw [h1, List.take_append_of_le_length (by omega), h2, List.length_append]; rfl
  · obtain ⟨N, hN⟩ := dd_pre ((quN f x0 r).take (r + 1)) ((quN f x0 r).drop (r + 1))
    rw [List.take_append_drop, h2] at hN
    rw [hN]
    unfold seN
    simp
theorem q_inv (x0 : α) : ∀ r, QInv f x0 r
  | 0 => ⟨rfl, rfl⟩
  | r + 1 => by
    have ih := q_inv x0 r
    cases h : (quN f x0 r)[r]? with
    | none =>
      have h1 := quN_none h
      have hr : (quN f x0 r).length ≤ r := List.getElem?_eq_none_iff.1 h
      have h2 : seN f x0 (r + 1) = seN f x0 r := by
        unfold seN
        rw [h1, List.take_of_length_le (by omega), List.take_of_length_le hr]
      exact ⟨by rw [h1, h2]; exact ih.dd, by rw [h1, h2]; exact ih.len⟩
    | some e =>
      cases hs : hasP ((quN f x0 r).take r) e.1 with
      | true =>
        obtain ⟨h1, h2⟩ := q_skip h hs
        exact ⟨by rw [h1, h2]; exact ih.dd, by rw [h1, h2]; exact ih.len⟩
      | false =>
        obtain ⟨h1, h2, h3⟩ := q_new h hs
        refine ⟨?_, by rw [h1, h2, List.length_append, ih.len]; simp; omega⟩
        rw [h1, h2, dd_two, ih.dd]
        rw [ih.dd] at h3
        rw [plN_some h3]
        rfl
/-- Nothing that is wanted was gone through, and this one is wanted: it is the first one of all. -/
theorem q_first {x0 : α} {r R : Nat} {e : α × List Int} {p : α → Bool} (h : (quN f x0 r)[r]? = some e) (hp : p e.1 = true) (hn : ∀ y ∈ (quN f x0 r).take r, p y.1 = false) (hR : seN f x0 r ≤ R) : firstW (plN f x0 R) p = some e.2 := by
  have hs : hasP ((quN f x0 r).take r) e.1 = false := by
    cases hh : hasP ((quN f x0 r).take r) e.1 with
    | false => rfl
    | true =>
      rw [hasP_iff] at hh
      obtain ⟨y, hy, e1⟩ := List.mem_map.1 hh
      have := hn y hy
      rw [e1, hp] at this; cases this
  obtain ⟨_, _, h3⟩ := q_new h hs
  obtain ⟨N, hN⟩ := dd_pre ((quN f x0 r).take r) ((quN f x0 r).drop r)
  rw [List.take_append_drop] at hN
  have hun : ∀ y ∈ ddP ((quN f x0 r).take r), p y.1 = false := fun y hy => by
    have h5 : hasP (ddP ((quN f x0 r).take r)) y.1 = true := by rw [hasP_iff]; exact List.mem_map.2 ⟨y, hy, rfl⟩
    rw [dd_has, hasP_iff] at h5
    obtain ⟨z, hz, e1⟩ := List.mem_map.1 h5
    rw [← e1]; exact hn z hz
  obtain ⟨M, hM⟩ := plN_pre (f := f) x0 (seN f x0 r) (R - seN f x0 r)
  rw [show seN f x0 r + (R - seN f x0 r) = R by omega, ← (q_inv x0 r).dd, hN] at hM
  have e0 : seN f x0 r = (ddP ((quN f x0 r).take r)).length := rfl
  rw [hN, e0, List.getElem?_append_right (Nat.le_refl _), Nat.sub_self] at h3
  unfold firstW
  rw [hM, List.append_assoc, List.find?_append, List.find?_eq_none.2 (fun y hy => by rw [hun y hy]; decide), Option.none_or]
  cases N with
  | nil => cases h3
  | cons z N =>
    have hz : z = e := by simpa using h3
    subst hz
    rw [List.cons_append, List.find?_cons, hp]
    rfl
theorem q_none {x0 : α} {r R : Nat} {p : α → Bool} (h : (quN f x0 r).length ≤ r) (hn : ∀ y ∈ (quN f x0 r).take r, p y.1 = false) (hR : seN f x0 r ≤ R) : firstW (plN f x0 R) p = none := by
  have ht : (quN f x0 r).take r = quN f x0 r := List.take_of_length_le h
  have hd := (q_inv (f := f) x0 r).dd
  have hl : (plN f x0 (seN f x0 r)).length ≤ seN f x0 r := by
    rw [← hd]; unfold seN; rw [ht]; exact Nat.le_refl _
  unfold firstW
  rw [plN_end hl hR, ← hd, List.find?_eq_none.2 fun y hy => ?_]
  · rfl
  · have h5 : hasP (ddP (quN f x0 r)) y.1 = true := by rw [hasP_iff]; exact List.mem_map.2 ⟨y, hy, rfl⟩
    rw [dd_has, hasP_iff] at h5
    obtain ⟨z, hz, e1⟩ := List.mem_map.1 h5
    rw [← e1, hn z (by rw [ht]; exact hz)]; decide
/-- All that is in the queue leads there. -/
theorem q_leads (x0 : α) : ∀ r, ∀ e ∈ quN f x0 r, e.1 = e.2.foldl f x0 ∧ Inp e.2
  | 0, e, he => by simp [quN] at he; subst he; exact ⟨rfl, fun x hx => by cases hx⟩
  | r + 1, e, he => by
    have ih := q_leads x0 r
    cases h : (quN f x0 r)[r]? with
    | none => rw [quN_none h] at he; exact ih e he
    | some e0 =>
      rw [quN_some h] at he
      split at he
      · exact ih e he
      · rcases List.mem_append.1 he with h1 | h1
        · exact ih e h1
        · have h0 := ih e0 (List.mem_of_getElem? h)
          simp at h1
          rcases h1 with rfl | rfl
          · refine ⟨by simp [List.foldl_append, h0.1], fun x hx => ?_⟩
            rcases List.mem_append.1 hx with h2 | h2
            · exact h0.2 x h2
            · simp at h2; exact .inl h2
          · refine ⟨by simp [List.foldl_append, h0.1], fun x hx => ?_⟩
            rcases List.mem_append.1 hx with h2 | h2
            · exact h0.2 x h2
            · simp at h2; exact .inr h2
end

/-- The ends of a word from the first k states, as a number. -/
def orTo (b : Bx) (w : List Int) : Nat → Nat
  | 0 => 0
  | k + 1 => orTo b w k ||| (1 <<< endV b k w)
theorem orTo_bit (b : Bx) (w : List Int) (t : Nat) : ∀ k, bt (orTo b w k) t = true ↔ ∃ j, j < k ∧ endV b j w = t
  | 0 => by simp [orTo, bt]
  | k + 1 => by
    unfold orTo
    rw [or_bit, Bool.or_eq_true, orTo_bit b w t k, beq_iff_eq]
    constructor
    · rintro (⟨j, h1, h2⟩ | h)
      · exact ⟨j, by omega, h2⟩
      · exact ⟨k, by omega, h⟩
    · rintro ⟨j, h1, h2⟩
      by_cases e : j = k
      · subst e; exact .inr h2
      · exact .inl ⟨j, by omega, h2⟩
theorem aftTo_bit (b : Bx) (x : Int) (m t : Nat) : ∀ k, bt (aftTo b x m k) t = true ↔ ∃ j, j < k ∧ bt m j = true ∧ aft b j x = t
  | 0 => by simp [aftTo, bt]
  | k + 1 => by
    unfold aftTo
    by_cases hk : bt m k = true
    · rw [if_pos hk, or_bit, Bool.or_eq_true, aftTo_bit b x m t k, beq_iff_eq]
      constructor
      · rintro (⟨j, h1, h2⟩ | h)
        · exact ⟨j, by omega, h2⟩
        · exact ⟨k, by omega, hk, h⟩
      · rintro ⟨j, h1, h2, h3⟩
        by_cases e : j = k
        · subst e; exact .inr h3
        · exact .inl ⟨j, by omega, h2, h3⟩
    · rw [if_neg hk, aftTo_bit b x m t k]
      constructor
      · rintro ⟨j, h1, h2⟩; exact ⟨j, by omega, h2⟩
      · rintro ⟨j, h1, h2, h3⟩
        by_cases e : j = k
        · subst e; exact absurd h2 hk
        · exact ⟨j, by omega, h2, h3⟩
theorem allS_bit (t : Nat) : ∀ k, bt (allS k) t = true ↔ t < k
  | 0 => by simp [allS, bt]
  | k + 1 => by
    unfold allS
    rw [or_bit, Bool.or_eq_true, allS_bit t k, beq_iff_eq]
    omega
theorem orTo_lt {b : Bx} (hb : Okx b) (w : List Int) : ∀ k, k ≤ b.2.length → orTo b w k < 64
  | 0, _ => by simp [orTo]
  | k + 1, h => by
    unfold orTo
    have h1 := orTo_lt hb w k (by omega)
    have h2 := hb.end_lt w (s := k) (by omega)
    exact or_lt (n := 6) h1 (by have := hb.n6; omega)
/-- The set that a word leads to is that of its ends. -/
theorem fold_or {b : Bx} (hb : Okx b) : ∀ (n : Nat) (w : List Int), w.length = n → w.foldl (aftS b) (allS b.2.length) = orTo b w b.2.length ∧ w.foldl (aftS b) (allS b.2.length) < 2 ^ b.2.length
  | 0, w, h => by
    obtain rfl := List.length_eq_zero_iff.1 h
    have h6 := hb.n6
    have hl : allS b.2.length < 2 ^ b.2.length := allS_lt (Nat.le_refl _)
    refine ⟨bits_eq (lt64 hl h6) (orTo_lt hb [] _ (Nat.le_refl _)) fun k hk => ?_, hl⟩
    rw [Bool.eq_iff_iff]
    show bt (allS b.2.length) k = true ↔ _
    rw [allS_bit, orTo_bit]
    constructor
    · intro h; exact ⟨k, h, rfl⟩
    · rintro ⟨j, h1, h2⟩
      have : j = k := h2
      omega
  | n + 1, w, h => by
    have hne : w ≠ [] := by intro e; rw [e] at h; cases h
    have hw := List.dropLast_concat_getLast hne
    generalize w.dropLast = v at hw
    generalize w.getLast hne = x at hw
    subst hw
    obtain ⟨h1, h2⟩ := fold_or hb n v (by simpa using h)
    have h6 := hb.n6
    rw [List.foldl_append]
    show aftS b (v.foldl (aftS b) (allS b.2.length)) x = _ ∧ aftS b (v.foldl (aftS b) (allS b.2.length)) x < _
    have hl := aftTo_lt hb x h2 6
    refine ⟨bits_eq (lt64 hl h6) (orTo_lt hb _ _ (Nat.le_refl _)) fun k hk => ?_, hl⟩
    rw [Bool.eq_iff_iff, orTo_bit, h1]
    show bt (aftTo b x (orTo b v b.2.length) 6) k = true ↔ _
    rw [aftTo_bit]
    constructor
    · rintro ⟨j, _, h4, h5⟩
      rw [orTo_bit] at h4
      obtain ⟨i, h6, h7⟩ := h4
      exact ⟨i, h6, by rw [end_app, h7]; exact h5⟩
    · rintro ⟨i, h4, h5⟩
      rw [end_app] at h5
      have := hb.end_lt v h4
      exact ⟨endV b i v, by omega, (orTo_bit b v _ _).2 ⟨i, h4, rfl⟩, h5⟩
theorem oneS_and : ∀ m, m < 64 → (m = 0 ∨ oneS m = ((m &&& (m - 1)) == 0)) := by decide +kernel
end Go.Proofs.Ytkjnhdkbojcojaa
