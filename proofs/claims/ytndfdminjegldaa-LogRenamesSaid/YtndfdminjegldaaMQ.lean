/- Mathematics: other signs for a log's. -/
import Derived.Test.YtndfdminjegldaaMP
namespace Go.Proofs.Ytndfdminjegldaa

theorem cover : ∀ (l m : List Int), l.Nodup → (∀ x ∈ l, x ∈ m) → m.length ≤ l.length → (∀ x ∈ m, x ∈ l) ∧ m.Nodup
  | [], m, _, _, h => by
    have : m = [] := List.eq_nil_of_length_eq_zero (by simpa using h)
    subst this
    simp
  | a :: l, m, hn, hs, hl => by
    rw [List.nodup_cons] at hn
    have ha : a ∈ m := hs a (by simp)
    have hlen : (m.erase a).length ≤ l.length := by
      rw [List.length_erase_of_mem ha]
      simp at hl; omega
    obtain ⟨h1, h2⟩ := cover l (m.erase a) hn.2 (fun x hx => (List.mem_erase_of_ne (fun e => hn.1 (by rw [← e]; exact hx))).2 (hs x (by simp [hx]))) hlen
    constructor
    · intro x hx
      by_cases e : x = a
      · subst e; simp
      · exact List.mem_cons_of_mem _ (h1 x ((List.mem_erase_of_ne e).2 hx))
    · rw [(List.perm_cons_erase ha).nodup_iff, List.nodup_cons]
      exact ⟨fun h => hn.1 (h1 a h), h2⟩
def ConTo (tt : List Int) (t : Nat) : Prop := ∀ s : Nat, s < t → tt.contains (s : Int) = true
theorem conTo_succ {tt : List Int} {t : Nat} (h : ConTo tt t) (h1 : tt.contains (t : Int) = true) : ConTo tt (t + 1) := fun s hs => by
  by_cases e : s = t
  · subst e; exact h1
  · exact h s (by omega)
theorem con_all {tt : List Int} (hl : tt.length = 6) (h : ConTo tt 6) : (∀ x ∈ tt, 0 ≤ x ∧ x ≤ 5) ∧ tt.Nodup := by
  obtain ⟨h1, h2⟩ := cover [0, 1, 2, 3, 4, 5] tt (by decide) (fun x hx => by
    simp only [List.mem_cons, List.not_mem_nil, or_false] at hx
    rcases hx with rfl | rfl | rfl | rfl | rfl | rfl
    · simpa using h 0 (by decide)
    · simpa using h 1 (by decide)
    · simpa using h 2 (by decide)
    · simpa using h 3 (by decide)
    · simpa using h 4 (by decide)
    · simpa using h 5 (by decide)) (by simp [hl])
  refine ⟨fun x hx => ?_, h2⟩
  have := h1 x hx
  simp only [List.mem_cons, List.not_mem_nil, or_false] at this
  omega
def renF (tt : List Int) (x : Int) : Int := tt.getD x.toNat 0
def renL (l tt : List Int) : List Int := l.map (renF tt)
def renE (l tt : List Int) : Int := if errL l = 0 then (if tt.length = 6 then (if (List.range 6).all (fun s => tt.contains (s : Int)) = true then 0 else 1) else 1) else errL l
def renV (l tt : List Int) : List Int := if renE l tt = 0 then renL l tt else []
variable {l m tt : List Int}
theorem renE_no (h : errL l ≠ 0) : renE l tt = errL l := if_neg h
theorem renE_len (h : errL l = 0) (h1 : tt.length ≠ 6) : renE l tt = 1 := by unfold renE; rw [if_pos h, if_neg h1]
theorem renE_arg (h : errL l = 0) (h1 : tt.length = 6) {s : Nat} (hs : s < 6) (h2 : tt.contains (s : Int) = false) : renE l tt = 1 := by
  unfold renE
  rw [if_pos h, if_pos h1, if_neg]
  intro ha
  rw [List.all_eq_true] at ha
  rw [ha s (List.mem_range.2 hs)] at h2
  cases h2
theorem renE_fine (h : errL l = 0) (h1 : tt.length = 6) (h2 : ConTo tt 6) : renE l tt = 0 := by
  unfold renE
  rw [if_pos h, if_pos h1, if_pos]
  rw [List.all_eq_true]
  intro s hs
  exact h2 s (List.mem_range.1 hs)
theorem renE_ok (h : renE l tt = 0) : errL l = 0 ∧ tt.length = 6 ∧ ConTo tt 6 := by
  unfold renE at h
  split at h
  · rename_i h1
    split at h
    · rename_i h2
      split at h
      · rename_i h3
        rw [List.all_eq_true] at h3
        exact ⟨h1, h2, fun s hs => h3 s (List.mem_range.2 hs)⟩
      · omega
    · omega
  · contradiction
theorem renV_ok (h : renE l tt = 0) : renV l tt = renL l tt := if_pos h
theorem renV_no (h : renE l tt ≠ 0) : renV l tt = [] := if_neg h
theorem renL_len (l tt : List Int) : (renL l tt).length = l.length := by simp [renL]
theorem renF_bd (h : renE l tt = 0) {x : Int} (hx : 0 ≤ x ∧ x ≤ 5) : 0 ≤ renF tt x ∧ renF tt x ≤ 5 := by
  obtain ⟨_, h2, h3⟩ := renE_ok h
  have hi : x.toNat < tt.length := by omega
  exact (con_all h2 h3).1 _ (getD_mem hi)
theorem ren_err (h : renE l tt = 0) : errL (renV l tt) = 0 := by
  obtain ⟨h1, h2, h3⟩ := renE_ok h
  have h4 := errL_ok.1 h1
  rw [renV_ok h, errL_ok, renL_len]
  refine ⟨h4.1, fun y hy => ?_⟩
  unfold renL at hy
  obtain ⟨x, hx, rfl⟩ := List.mem_map.1 hy
  exact renF_bd h (h4.2 x hx)
theorem renF_inj (h : renE l tt = 0) {x y : Int} (hx : 0 ≤ x ∧ x ≤ 5) (hy : 0 ≤ y ∧ y ≤ 5) (e : renF tt x = renF tt y) : x = y := by
  obtain ⟨_, h2, h3⟩ := renE_ok h
  have hn := (con_all h2 h3).2
  have hi : x.toNat < tt.length := by omega
  have hj : y.toNat < tt.length := by omega
  unfold renF at e
  rw [List.getD_eq_getElem?_getD, List.getD_eq_getElem?_getD, List.getElem?_eq_getElem hi, List.getElem?_eq_getElem hj] at e
  simp only [Option.getD_some] at e
  have hp := List.pairwise_iff_getElem.1 hn
  rcases Nat.lt_trichotomy x.toNat y.toNat with h' | h' | h'
  · exact absurd e (hp _ _ hi hj h')
  · omega
  · exact absurd e.symm (hp _ _ hj hi h')
theorem Al.unmap {c : Cst} (f : Int → Int) {L M : List Int} {e : Int} (h : Al c L M e) : ∀ l m : List Int, L = l.map f → M = m.map f → (∀ x ∈ l, ∀ y ∈ m, f x = f y → x = y) → Al c l m e := by
  induction h with
  | nil =>
    intro l m hl hm _
    obtain rfl : l = [] := by simpa using hl.symm
    obtain rfl : m = [] := by simpa using hm.symm
    exact .nil
  | out x _ ih =>
    intro l m hl hm hf
    cases l with
    | nil => simp at hl
    | cons a l =>
      simp at hl
      exact (ih l m hl.2 hm (fun x hx y hy => hf x (by simp [hx]) y hy)).out a
  | inn y _ ih =>
    intro l m hl hm hf
    cases m with
    | nil => simp at hm
    | cons b m =>
      simp at hm
      exact (ih l m hl hm.2 (fun x hx y hy => hf x hx y (by simp [hy]))).inn b
  | pair x y _ ih =>
    intro l m hl hm hf
    cases l with
    | nil => simp at hl
    | cons a l =>
      cases m with
      | nil => simp at hm
      | cons b m =>
        simp at hl hm
        refine ((ih l m hl.2 hm.2 (fun x hx y hy => hf x (by simp [hx]) y (by simp [hy]))).pair a b).cast ?_
        obtain ⟨rfl, _⟩ := hl
        obtain ⟨rfl, _⟩ := hm
        have : chg c (f a) (f b) = chg c a b := by
          unfold chg
          by_cases e : a = b
          · rw [if_pos e, if_pos (by rw [e])]
          · rw [if_neg e, if_neg (fun h => e (hf a (by simp) b (by simp) h))]
        rw [this]
theorem ren_dist (c : Cst) (h : renE l tt = 0) (h' : renE m tt = 0) : dist (renV l tt) (renV m tt) c = dist l m c := by
  rw [renV_ok h, renV_ok h']
  have hl := errL_ok.1 (renE_ok h).1
  have hm := errL_ok.1 (renE_ok h').1
  have hf : ∀ x ∈ l, ∀ y ∈ m, renF tt x = renF tt y → x = y := fun x hx y hy e => renF_inj h (hl.2 x hx) (hm.2 y hy) e
  exact dist_of ((dist_al l m c).map _ hf) fun e he => dist_le (he.unmap _ l m rfl rfl hf)
theorem fnd_one (x : Int) (l : List Int) : ∀ t, t ≤ l.length → fnd [x] l t = if x ∈ l.take t then 1 else 0
  | 0, _ => by simp [fnd]
  | t + 1, h => by
    rw [fnd_succ, fnd_one x l t (by omega), take_get (xs := l) (k := t) (by omega)]
    by_cases h1 : x ∈ l.take t
    · rw [if_pos h1, if_neg (by simp), if_pos (by simp [h1])]
    · rw [if_neg h1]
      by_cases h2 : x = l.getD t 0
      · rw [if_pos (by simpa using h2), if_pos (by rw [List.mem_append]; right; simpa using h2)]
      · rw [if_neg (by simpa using h2), if_neg (by rw [List.mem_append]; rintro (h3 | h3); (· exact h1 h3); (· exact h2 (by simpa using h3)))]
theorem part_one (x : Int) (l : List Int) : partB [x] l = l.contains x := by
  unfold partB
  rw [fnd_one x l _ (Nat.le_refl _), List.take_length, Bool.eq_iff_iff, decide_eq_true_eq]
  by_cases h : x ∈ l <;> simp [h]
end Go.Proofs.Ytndfdminjegldaa
