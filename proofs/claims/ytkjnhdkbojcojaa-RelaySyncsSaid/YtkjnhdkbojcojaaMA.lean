/- Boxes as lists: which are right, what they answer, how many words lead where; plain mathematics, no program. -/
import Derived.Test.YtkjnhdkbojcojaaGen
namespace Go.Proofs.Ytkjnhdkbojcojaa

/-- A box: what follows on 0 and on 1, and the signals. -/
abbrev Bx := List (Int × Int) × List Int
def inB (n : Nat) (x : Int) : Bool := decide (0 ≤ x) && decide (x < n)
def sigB (x : Int) : Bool := decide (0 ≤ x) && decide (x ≤ 3)
structure Okx (b : Bx) : Prop where
  n1 : 1 ≤ b.2.length
  n6 : b.2.length ≤ 6
  len : b.1.length = b.2.length
  nx : ∀ i, i < b.2.length → inB b.2.length (b.1.getD i (0, 0)).1 = true ∧ inB b.2.length (b.1.getD i (0, 0)).2 = true
  ou : ∀ i, i < b.2.length → sigB (b.2.getD i 0) = true
instance (b : Bx) : Decidable (Okx b) :=
  if h : 1 ≤ b.2.length ∧ b.2.length ≤ 6 ∧ b.1.length = b.2.length ∧ (∀ i, i < b.2.length → inB b.2.length (b.1.getD i (0, 0)).1 = true ∧ inB b.2.length (b.1.getD i (0, 0)).2 = true) ∧ (∀ i, i < b.2.length → sigB (b.2.getD i 0) = true)
  then .isTrue ⟨h.1, h.2.1, h.2.2.1, h.2.2.2.1, h.2.2.2.2⟩
  else .isFalse fun k => h ⟨k.n1, k.n6, k.len, k.nx, k.ou⟩
def errX (b : Bx) : Int := if Okx b then 0 else 1
theorem errX_ok {b : Bx} (h : Okx b) : errX b = 0 := if_pos h
theorem errX_bad {b : Bx} (h : ¬ Okx b) : errX b = 1 := if_neg h
theorem okx_of {b : Bx} (h : errX b = 0) : Okx b := by
  by_cases k : Okx b
  · exact k
  · rw [errX_bad k] at h; omega
theorem inB_iff {n : Nat} {x : Int} : inB n x = true ↔ 0 ≤ x ∧ x < n := by simp [inB]
theorem sigB_iff {x : Int} : sigB x = true ↔ 0 ≤ x ∧ x ≤ 3 := by simp [sigB]
/-- The first k states are right. -/
def OkTo (b : Bx) (k : Nat) : Prop := ∀ i, i < k → (inB b.2.length (b.1.getD i (0, 0)).1 = true ∧ inB b.2.length (b.1.getD i (0, 0)).2 = true) ∧ sigB (b.2.getD i 0) = true
theorem okTo_zero (b : Bx) : OkTo b 0 := fun i h => by omega
theorem okTo_succ {b : Bx} {k : Nat} (h : OkTo b k) (h1 : inB b.2.length (b.1.getD k (0, 0)).1 = true) (h2 : inB b.2.length (b.1.getD k (0, 0)).2 = true) (h3 : sigB (b.2.getD k 0) = true) : OkTo b (k + 1) := fun i hi => by
  by_cases e : i = k
  · subst e; exact ⟨⟨h1, h2⟩, h3⟩
  · exact h i (by omega)
theorem okTo_done {b : Bx} (h : OkTo b b.2.length) (h1 : 1 ≤ b.2.length) (h6 : b.2.length ≤ 6) (hl : b.1.length = b.2.length) : errX b = 0 := errX_ok ⟨h1, h6, hl, fun i hi => (h i hi).1, fun i hi => (h i hi).2⟩
theorem errX_len {b : Bx} (h : ¬ (1 ≤ b.2.length ∧ b.2.length ≤ 6)) : errX b = 1 := errX_bad fun k => h ⟨k.n1, k.n6⟩
theorem errX_two {b : Bx} (h : b.1.length ≠ b.2.length) : errX b = 1 := errX_bad fun k => h k.len
theorem errX_nx1 {b : Bx} {i : Nat} (hi : i < b.2.length) (h : inB b.2.length (b.1.getD i (0, 0)).1 = false) : errX b = 1 := errX_bad fun k => by
  have := (k.nx i hi).1; rw [h] at this; cases this
theorem errX_nx2 {b : Bx} {i : Nat} (hi : i < b.2.length) (h : inB b.2.length (b.1.getD i (0, 0)).2 = false) : errX b = 1 := errX_bad fun k => by
  have := (k.nx i hi).2; rw [h] at this; cases this
theorem errX_ou {b : Bx} {i : Nat} (hi : i < b.2.length) (h : sigB (b.2.getD i 0) = false) : errX b = 1 := errX_bad fun k => by
  have := k.ou i hi; rw [h] at this; cases this

/-- The state that follows. -/
def aft (b : Bx) (s : Nat) (x : Int) : Nat := if x = 0 then (b.1.getD s (0, 0)).1.toNat else (b.1.getD s (0, 0)).2.toNat
/-- The signal of a state. -/
def sgl (b : Bx) (s : Nat) : Int := b.2.getD s 0
def pathV (b : Bx) (s : Nat) : List Int → List Nat
  | [] => [s]
  | x :: l => s :: pathV b (aft b s x) l
def endV (b : Bx) (s : Nat) (l : List Int) : Nat := l.foldl (aft b) s
def runV (b : Bx) (l : List Int) : List Int := (pathV b 0 l).map (sgl b)
section
variable {b : Bx}
theorem Okx.aft_lt (h : Okx b) {s : Nat} (hs : s < b.2.length) (x : Int) : aft b s x < b.2.length := by
  have h1 := h.nx s hs
  rw [inB_iff, inB_iff] at h1
  unfold aft
  split <;> omega
theorem Okx.aft0 (h : Okx b) {s : Nat} (hs : s < b.2.length) : (b.1.getD s (0, 0)).1 = ((aft b s 0 : Nat) : Int) := by
  have h1 := h.nx s hs
  rw [inB_iff, inB_iff] at h1
  simp only [aft, if_pos]
  omega
theorem Okx.aft1 (h : Okx b) {s : Nat} (hs : s < b.2.length) : (b.1.getD s (0, 0)).2 = ((aft b s 1 : Nat) : Int) := by
  have h1 := h.nx s hs
  rw [inB_iff, inB_iff] at h1
  simp only [aft, show ¬ (1 : Int) = 0 by decide, if_false]
  omega
theorem Okx.sgl_in (h : Okx b) {s : Nat} (hs : s < b.2.length) : 0 ≤ sgl b s ∧ sgl b s ≤ 3 := sigB_iff.1 (h.ou s hs)
theorem Okx.end_lt (h : Okx b) : ∀ (l : List Int) {s : Nat}, s < b.2.length → endV b s l < b.2.length
  | [], _, hs => hs
  | x :: l, _, hs => Okx.end_lt h l (h.aft_lt hs x)
theorem end_app (b : Bx) (s : Nat) (l m : List Int) : endV b s (l ++ m) = endV b (endV b s l) m := List.foldl_append
theorem path_len (b : Bx) : ∀ (l : List Int) (s : Nat), (pathV b s l).length = l.length + 1
  | [], _ => rfl
  | x :: l, s => by simp [pathV, path_len b l]
theorem path_snoc (b : Bx) (x : Int) : ∀ (l : List Int) (s : Nat), pathV b s (l ++ [x]) = pathV b s l ++ [aft b (endV b s l) x]
  | [], _ => rfl
  | y :: l, s => by
    show s :: pathV b (aft b s y) (l ++ [x]) = _
    rw [path_snoc b x l]
    rfl
theorem path_get (b : Bx) : ∀ (l : List Int) (s k : Nat), k ≤ l.length → (pathV b s l).getD k 0 = endV b s (l.take k)
  | [], s, k, h => by
    obtain rfl : k = 0 := by simpa using h
    rfl
  | x :: l, s, 0, _ => rfl
  | x :: l, s, k + 1, h => by
    have := path_get b l (aft b s x) k (by simpa using h)
    simpa [pathV, endV] using this
theorem run_len (b : Bx) (l : List Int) : (runV b l).length = l.length + 1 := by rw [runV, List.length_map, path_len]
theorem run_get (b : Bx) (l : List Int) {k : Nat} (h : k ≤ l.length) : (runV b l).getD k 0 = sgl b (endV b 0 (l.take k)) := by
  rw [← path_get b l 0 k h]
  unfold runV
  have h1 := path_len b l 0
  rw [List.getD_eq_getElem?_getD, List.getD_eq_getElem?_getD, List.getElem?_map, List.getElem?_eq_getElem (by omega)]
  rfl
end

/-- Is a word right? -/
def inpB (x : Int) : Bool := inB 2 x
def wdB (l : List Int) : Bool := l.all inpB
def errW (b : Bx) (l : List Int) : Int := if errX b ≠ 0 then errX b else if 40 < l.length then 3 else if wdB l then 0 else 1
theorem errW_bad {b : Bx} (h : ¬ errX b = 0) (l : List Int) : errW b l = errX b := if_pos h
theorem errW_long {b : Bx} (h : errX b = 0) {l : List Int} (hl : 40 < l.length) : errW b l = 3 := by rw [errW, if_neg (by simp [h]), if_pos hl]
def InpTo (l : List Int) (k : Nat) : Prop := ∀ i, i < k → inpB (l.getD i 0) = true
theorem inpTo_zero (l : List Int) : InpTo l 0 := fun i h => by omega
theorem inpTo_succ {l : List Int} {k : Nat} (h : InpTo l k) (h1 : inpB (l.getD k 0) = true) : InpTo l (k + 1) := fun i hi => by
  by_cases e : i = k
  · subst e; exact h1
  · exact h i (by omega)
theorem wdB_of {l : List Int} (h : InpTo l l.length) : wdB l = true := by
  rw [wdB, List.all_eq_true]
  intro x hx
  obtain ⟨i, hi, rfl⟩ := List.mem_iff_getElem.1 hx
  have := h i hi
  rwa [List.getD_eq_getElem?_getD, List.getElem?_eq_getElem hi] at this
theorem inpTo_of {l : List Int} (h : wdB l = true) : InpTo l l.length := fun i hi => by
  rw [wdB, List.all_eq_true] at h
  rw [List.getD_eq_getElem?_getD, List.getElem?_eq_getElem hi]
  exact h _ (List.getElem_mem _)
theorem errW_fine {b : Bx} (h : errX b = 0) {l : List Int} (hl : ¬ 40 < l.length) (hw : InpTo l l.length) : errW b l = 0 := by
  rw [errW, if_neg (by simp [h]), if_neg hl, if_pos (wdB_of hw)]
theorem errW_arg {b : Bx} (h : errX b = 0) {l : List Int} (hl : ¬ 40 < l.length) {k : Nat} (hk : k < l.length) (hw : inpB (l.getD k 0) = false) : errW b l = 1 := by
  rw [errW, if_neg (by simp [h]), if_neg hl, if_neg]
  intro h2
  have := inpTo_of h2 k hk
  rw [hw] at this
  cases this
theorem errW_ok {b : Bx} {l : List Int} (h : errW b l = 0) : Okx b ∧ l.length ≤ 40 ∧ ∀ i, i < l.length → inpB (l.getD i 0) = true := by
  unfold errW at h
  by_cases h1 : errX b = 0
  · rw [if_neg (by simp [h1])] at h
    by_cases h2 : 40 < l.length
    · rw [if_pos h2] at h; omega
    · rw [if_neg h2] at h
      by_cases h3 : wdB l = true
      · exact ⟨okx_of h1, by omega, inpTo_of h3⟩
      · rw [if_neg h3] at h; omega
  · rw [if_pos h1] at h; exact absurd h h1
theorem inp_two {x : Int} (h : inpB x = true) : x = 0 ∨ x = 1 := by
  rw [inpB, inB_iff] at h; omega
end Go.Proofs.Ytkjnhdkbojcojaa
