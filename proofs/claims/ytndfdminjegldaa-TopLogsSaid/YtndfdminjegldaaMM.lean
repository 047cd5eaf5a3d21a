/- Mathematics of logs: signs put in, windows, and what two logs have in common. -/
import Derived.Test.YtndfdminjegldaaML
namespace Go.Proofs.Ytndfdminjegldaa

section
variable {c : Cst} {l m : List Int} {d : Int}
theorem Al.splitM (h : Al c l m d) : ∀ (m1 m2 : List Int), m = m1 ++ m2 → ∃ l1 l2 d1 d2, l = l1 ++ l2 ∧ d = d1 + d2 ∧ Al c l1 m1 d1 ∧ Al c l2 m2 d2 := by
  induction h with
  | nil =>
    intro m1 m2 e
    obtain ⟨rfl, rfl⟩ := List.append_eq_nil_iff.1 e.symm
    exact ⟨[], [], 0, 0, rfl, by omega, .nil, .nil⟩
  | out x _ ih =>
    intro m1 m2 e
    obtain ⟨l1, l2, d1, d2, rfl, e2, h1, h2⟩ := ih m1 m2 e
    exact ⟨x :: l1, l2, _, d2, rfl, by omega, h1.out x, h2⟩
  | @inn l m d y h ih =>
    intro m1 m2 e
    cases m1 with
    | nil =>
      rw [List.nil_append] at e
      subst e
      exact ⟨[], l, 0, _, rfl, by omega, .nil, h.inn y⟩
    | cons z m1 =>
      rw [List.cons_append] at e
      injection e with e1 e2
      subst e1
      obtain ⟨l1, l2, d1, d2, rfl, e2, h1, h2⟩ := ih m1 m2 e2
      exact ⟨l1, l2, _, d2, rfl, by omega, h1.inn y, h2⟩
  | @pair l m d x y h ih =>
    intro m1 m2 e
    cases m1 with
    | nil =>
      rw [List.nil_append] at e
      subst e
      exact ⟨[], x :: l, 0, _, rfl, by omega, .nil, h.pair x y⟩
    | cons z m1 =>
      rw [List.cons_append] at e
      injection e with e1 e2
      subst e1
      obtain ⟨l1, l2, d1, d2, rfl, e2, h1, h2⟩ := ih m1 m2 e2
      exact ⟨x :: l1, l2, _, d2, rfl, by omega, h1.pair x y, h2⟩
theorem Al.drop1 (hc : c.ok) {y : Int} (h : Al c l (y :: m) d) : ∃ e, e ≤ d + c.o ∧ Al c l m e := by
  generalize hk : y :: m = k at h
  induction h with
  | nil => cases hk
  | out x _ ih =>
    obtain ⟨e, h1, h2⟩ := ih hk
    exact ⟨_, by omega, h2.out x⟩
  | inn z h _ =>
    cases hk
    exact ⟨_, by unfold Cst.ok at hc; omega, h⟩
  | pair x z h _ =>
    cases hk
    exact ⟨_, by have := chg_bd hc x y; omega, h.out x⟩
theorem dist_ins (hc : c.ok) (l m1 m2 : List Int) (y : Int) : dist l (m1 ++ y :: m2) c ≤ dist l (m1 ++ m2) c + c.i ∧ dist l (m1 ++ m2) c ≤ dist l (m1 ++ y :: m2) c + c.o := by
  constructor
  · obtain ⟨l1, l2, d1, d2, rfl, e, h1, h2⟩ := (dist_al l (m1 ++ m2) c).splitM m1 m2 rfl
    rw [e]
    exact dist_le ((h1.app (h2.inn y)).cast (by omega))
  · obtain ⟨l1, l2, d1, d2, rfl, e, h1, h2⟩ := (dist_al l (m1 ++ y :: m2) c).splitM m1 (y :: m2) rfl
    obtain ⟨d3, h3, h4⟩ := h2.drop1 hc
    have := dist_le (h1.app h4)
    omega
/-- From a window to the whole. -/
theorem dist_window (l m : List Int) (c : Cst) {a b : Nat} (hab : a ≤ b) (hb : b ≤ m.length) : dist l m c ≤ dist l ((m.drop a).take (b - a)) c + c.i * ((m.length - b + a : Nat) : Int) := by
  have e : m = m.take a ++ ((m.drop a).take (b - a) ++ m.drop b) := by
    have e1 : m.drop b = (m.drop a).drop (b - a) := by rw [List.drop_drop]; congr 1; omega
    rw [e1, List.take_append_drop, List.take_append_drop]
  have h := ((Al.inns c (m.take a)).app ((dist_al l ((m.drop a).take (b - a)) c).app (Al.inns c (m.drop b))))
  rw [← e] at h
  simp only [List.nil_append, List.append_nil] at h
  refine dist_le (h.cast ?_)
  rw [List.length_take, List.length_drop, Nat.min_eq_left (by omega)]
  rw [show ((m.length - b + a : Nat) : Int) = ((a : Nat) : Int) + ((m.length - b : Nat) : Int) by omega, Int.mul_add]
  omega
end

/-! What two logs have in common. -/
def C112 : Cst := ⟨1, 1, 2⟩
theorem C112_ok : C112.ok := ⟨by decide, by decide, by decide⟩
theorem al_common {l m : List Int} {d : Int} (h : Al C112 l m d) : ∃ p : List Int, p.Sublist l ∧ p.Sublist m ∧ (l.length : Int) + m.length ≤ d + 2 * p.length := by
  induction h with
  | nil => exact ⟨[], by simp, by simp, by simp⟩
  | out x _ ih =>
    obtain ⟨p, h1, h2, h3⟩ := ih
    exact ⟨p, h1.cons x, h2, by simp [C112] at *; omega⟩
  | inn y _ ih =>
    obtain ⟨p, h1, h2, h3⟩ := ih
    exact ⟨p, h1, h2.cons y, by simp [C112] at *; omega⟩
  | pair x y _ ih =>
    obtain ⟨p, h1, h2, h3⟩ := ih
    by_cases e : x = y
    · subst e
      exact ⟨x :: p, h1.cons_cons x, h2.cons_cons x, by rw [chg_self]; simp at *; omega⟩
    · exact ⟨p, h1.cons x, h2.cons y, by simp [chg, e, C112] at *; omega⟩
theorem al_sub {c : Cst} {l p : List Int} (h : p.Sublist l) : Al c l p (c.o * ((l.length : Int) - p.length)) := by
  induction h with
  | slnil => exact Al.nil.cast (by simp)
  | @cons p l x _ ih => exact (ih.out x).cast (by rw [List.length_cons, Int.natCast_add, show ((l.length : Int) + ((1 : Nat) : Int) - p.length) = ((l.length : Int) - p.length) + 1 from by omega, Int.mul_add]; simp)
  | @cons_cons p l x _ ih => exact (ih.pair x x).cast (by rw [chg_self, List.length_cons, List.length_cons]; simp only [Int.natCast_add]; rw [show ((l.length : Int) + ((1 : Nat) : Int) - ((p.length : Int) + ((1 : Nat) : Int))) = (l.length : Int) - p.length from by omega]; omega)
theorem al_part {c : Cst} (hc : c.ok) {l m p : List Int} (h1 : p.Sublist l) (h2 : p.Sublist m) : dist l m c ≤ c.o * ((l.length : Int) - p.length) + c.i * ((m.length : Int) - p.length) := by
  have k1 := al_sub (c := c) h1
  have k2 := (al_sub (c := c.swap) h2).swap
  obtain ⟨f, h3, h4⟩ := k1.trans hc (k2 : Al c p m _)
  have := dist_le h4
  simp only [Cst.swap] at h3
  omega
/-- The greatest length of a list that is part of both. -/
def cmn (l m : List Int) : Nat := (((l.length : Int) + m.length - dist l m C112) / 2).toNat
theorem cmn_spec (l m : List Int) : (∃ p : List Int, p.Sublist l ∧ p.Sublist m ∧ p.length = cmn l m) ∧ (∀ p : List Int, p.Sublist l → p.Sublist m → p.length ≤ cmn l m) ∧ dist l m C112 = (l.length : Int) + m.length - 2 * (cmn l m : Int) := by
  obtain ⟨p, h1, h2, h3⟩ := al_common (dist_al l m C112)
  have h4 := al_part C112_ok h1 h2
  have h5 := h1.length_le
  have h6 : C112.o = 1 := rfl
  have h7 : C112.i = 1 := rfl
  rw [h6, h7] at h4
  have hk : cmn l m = p.length := by unfold cmn; omega
  refine ⟨⟨p, h1, h2, hk.symm⟩, fun q q1 q2 => ?_, by rw [hk]; omega⟩
  have := al_part C112_ok q1 q2
  rw [h6, h7] at this
  omega
/-- What is left behind the first place of a sign. -/
def aft (s : Int) : List Int → Option (List Int)
  | [] => none
  | x :: l => if x = s then some l else aft s l
theorem aft_len {s : Int} : ∀ {l r : List Int}, aft s l = some r → r.length < l.length
  | [], r, h => by simp [aft] at h
  | x :: l, r, h => by
    unfold aft at h
    split at h
    · cases h; simp
    · have := aft_len h; simp; omega
theorem aft_sub {s : Int} : ∀ {l r : List Int}, aft s l = some r → (s :: r).Sublist l
  | [], r, h => by simp [aft] at h
  | x :: l, r, h => by
    unfold aft at h
    split at h
    · rename_i e; subst e; cases h; exact List.Sublist.refl _
    · exact (aft_sub h).cons x
theorem aft_of {s : Int} {p : List Int} : ∀ {l : List Int}, (s :: p).Sublist l → ∃ r, aft s l = some r ∧ p.Sublist r
  | [], h => by cases h
  | x :: l, h => by
    unfold aft
    by_cases e : x = s
    · subst e
      rw [if_pos rfl]
      refine ⟨l, rfl, ?_⟩
      cases h with
      | cons _ h => exact (List.sublist_cons_self _ _).trans h
      | cons_cons _ h => exact h
    · rw [if_neg e]
      cases h with
      | cons _ h => exact aft_of h
      | cons_cons _ h => exact absurd rfl e
/-- Signs are from 0 to 5. -/
def Sg (l : List Int) : Prop := ∀ x ∈ l, 0 ≤ x ∧ x ≤ 5
theorem Sg.sub {l r : List Int} (h : Sg l) (hs : r.Sublist l) : Sg r := fun x hx => h x (hs.mem hx)
theorem Sg.aft {l r : List Int} {s : Int} (h : Sg l) (hs : aft s l = some r) : Sg r := fun x hx => h x ((aft_sub hs).mem (by simp [hx]))
/-- The longest list that begins with s, if any. -/
def via (P : List Int → List Int → List Int) (l m : List Int) (s : Int) : Option (List Int) :=
  match aft s l, aft s m with
  | some a, some b => some (s :: P a b)
  | _, _ => none
def bet (best : List Int) (x : Option (List Int)) : List Int := match x with
  | some y => if best.length < y.length then y else best
  | none => best
/-- The first longest list that is part of both. -/
def partF : Nat → List Int → List Int → List Int
  | 0, _, _ => []
  | f + 1, l, m => (List.range 6).foldl (fun (best : List Int) (s : Nat) => bet best (via (partF f) l m (s : Int))) []
theorem bet_fold (g : Nat → Option (List Int)) : ∀ (ss : List Nat) (b : List Int), (∀ s ∈ ss, ∀ y, g s = some y → y.length ≤ (ss.foldl (fun b s => bet b (g s)) b).length) ∧ b.length ≤ (ss.foldl (fun b s => bet b (g s)) b).length ∧ (ss.foldl (fun b s => bet b (g s)) b = b ∨ ∃ s ∈ ss, g s = some (ss.foldl (fun b s => bet b (g s)) b))
  | [], b => by simp
  | s :: ss, b => by
    obtain ⟨h1, h2, h3⟩ := bet_fold g ss (bet b (g s))
    simp only [List.foldl_cons]
    have hb : b.length ≤ (bet b (g s)).length := by unfold bet; split <;> (try split) <;> omega
    refine ⟨fun t ht y hy => ?_, by omega, ?_⟩
    · rcases List.mem_cons.1 ht with rfl | ht
      · have : y.length ≤ (bet b (g t)).length := by rw [hy]; unfold bet; dsimp only; split <;> omega
        omega
      · exact h1 t ht y hy
    · rcases h3 with h3 | ⟨t, ht, h3⟩
      · rw [h3]
        cases hg : g s with
        | none => left; rfl
        | some y =>
          unfold bet
          dsimp only
          split
          · right; exact ⟨s, by simp, hg⟩
          · left; rfl
      · right; exact ⟨t, by simp [ht], h3⟩
theorem part_spec : ∀ (f : Nat) (l m : List Int), l.length ≤ f → Sg l → (partF f l m).Sublist l ∧ (partF f l m).Sublist m ∧ (partF f l m).length = cmn l m
  | 0, l, m, hl, _ => by
    obtain rfl : l = [] := List.eq_nil_of_length_eq_zero (by omega)
    obtain ⟨⟨p, h1, _, h3⟩, _, _⟩ := cmn_spec [] m
    have := h1.length_le
    simp at this
    simp [partF, ← h3, this]
  | f + 1, l, m, hl, hs => by
    obtain ⟨b1, b2, b3⟩ := bet_fold (fun s : Nat => via (partF f) l m (s : Int)) (List.range 6) []
    have hvia : ∀ (s : Nat) (y : List Int), via (partF f) l m (s : Int) = some y → y.Sublist l ∧ y.Sublist m := by
      intro s y hy
      unfold via at hy
      split at hy
      · rename_i a b ha hb
        cases hy
        obtain ⟨h1, h2, h3⟩ := part_spec f a b (by have := aft_len ha; omega) (hs.aft ha)
        exact ⟨(h1.cons_cons _).trans (aft_sub ha), (h2.cons_cons _).trans (aft_sub hb)⟩
      · cases hy
    have hsub : (partF (f + 1) l m).Sublist l ∧ (partF (f + 1) l m).Sublist m := by
      rcases b3 with h | ⟨s, _, h⟩
      · have e : partF (f + 1) l m = [] := h
        rw [e]
        exact ⟨List.nil_sublist _, List.nil_sublist _⟩
      · exact hvia s _ h
    refine ⟨hsub.1, hsub.2, Nat.le_antisymm ((cmn_spec l m).2.1 _ hsub.1 hsub.2) ?_⟩
    obtain ⟨⟨p, h1, h2, h3⟩, _, _⟩ := cmn_spec l m
    rw [← h3]
    cases p with
    | nil => simp
    | cons s p =>
      obtain ⟨a, ha, pa⟩ := aft_of h1
      obtain ⟨b, hb, pb⟩ := aft_of h2
      have hs0 := hs s (h1.mem (by simp))
      obtain ⟨k, rfl⟩ : ∃ k : Nat, s = (k : Int) := ⟨s.toNat, by omega⟩
      obtain ⟨_, _, h6⟩ := part_spec f a b (by have := aft_len ha; omega) (hs.aft ha)
      have h7 := (cmn_spec a b).2.1 p pa pb
      have h8 := b1 k (List.mem_range.2 (by omega)) ((k : Int) :: partF f a b) (by simp only [via, ha, hb])
      have e : (List.range 6).foldl (fun (b : List Int) (s : Nat) => bet b (via (partF f) l m (s : Int))) [] = partF (f + 1) l m := rfl
      rw [e] at h8
      simp at h8 ⊢
      omega
/-- The next sign: the least behind which enough of both logs is left. -/
def nxtS (l m : List Int) (k : Nat) (s : Nat) : Bool := match aft (s : Int) l, aft (s : Int) m with
  | some a, some b => cmn a b == k
  | _, _ => false
theorem bet_first (g : Nat → Option (List Int)) (L : Nat) : ∀ (ss : List Nat) (b : List Int), b.length < L → (∀ s ∈ ss, ∀ y, g s = some y → y.length ≤ L) → ∀ t, ss.find? (fun s => (g s).any fun y => y.length == L) = some t → g t = some (ss.foldl (fun b s => bet b (g s)) b)
  | [], _, _, _, t, h => by simp at h
  | s :: ss, b, hb, hle, t, h => by
    rw [List.find?_cons] at h
    simp only [List.foldl_cons]
    cases hg : g s with
    | none =>
      rw [hg] at h
      simp only [Option.any_none] at h
      exact bet_first g L ss b hb (fun u hu => hle u (by simp [hu])) t h
    | some y =>
      rw [hg] at h
      simp only [Option.any_some] at h
      by_cases e : y.length = L
      · rw [show (y.length == L) = true by simp [e]] at h
        cases h
        rw [hg]
        have h1 : bet b (some y) = y := by unfold bet; dsimp only; rw [if_pos (by omega)]
        rw [h1]
        congr 1
        have key : ∀ ss : List Nat, (∀ u ∈ ss, ∀ z, g u = some z → z.length ≤ L) → ss.foldl (fun b s => bet b (g s)) y = y := by
          intro ss
          induction ss with
          | nil => intro _; rfl
          | cons u ss ih =>
            intro h
            simp only [List.foldl_cons]
            have : bet y (g u) = y := by
              cases hu : g u with
              | none => rfl
              | some z =>
                have := h u (by simp) z hu
                unfold bet
                dsimp only
                rw [if_neg (by omega)]
            rw [this]
            exact ih fun v hv => h v (by simp [hv])
        exact (key ss fun u hu => hle u (by simp [hu])).symm
      · rw [show (y.length == L) = false by simp [e]] at h
        have h2 := hle s (by simp) y hg
        refine bet_first g L ss _ ?_ (fun u hu => hle u (by simp [hu])) t h
        unfold bet
        dsimp only
        split <;> omega
theorem part_next {f : Nat} {l m : List Int} (hl : l.length ≤ f + 1) (hs : Sg l) {k : Nat} (hk : cmn l m = k + 1) : ∃ (s : Nat) (a b : List Int), s < 6 ∧ (∀ t, t < s → nxtS l m k t = false) ∧ nxtS l m k s = true ∧ aft (s : Int) l = some a ∧ aft (s : Int) m = some b ∧ cmn a b = k ∧ partF (f + 1) l m = (s : Int) :: partF f a b := by
  have hq : ∀ s : Nat, (via (partF f) l m (s : Int)).any (fun y => y.length == k + 1) = nxtS l m k s := by
    intro s
    unfold via nxtS
    cases ha : aft (s : Int) l with
    | none => rfl
    | some a =>
      cases hb : aft (s : Int) m with
      | none => rfl
      | some b =>
        obtain ⟨_, _, h3⟩ := part_spec f a b (by have := aft_len ha; omega) (hs.aft ha)
        simp [h3]
  have hle : ∀ s ∈ List.range 6, ∀ y, via (partF f) l m (s : Int) = some y → y.length ≤ k + 1 := by
    intro s _ y hy
    unfold via at hy
    split at hy
    · rename_i a b ha hb
      cases hy
      obtain ⟨h1, h2, _⟩ := part_spec f a b (by have := aft_len ha; omega) (hs.aft ha)
      have := (cmn_spec l m).2.1 _ ((h1.cons_cons (s : Int)).trans (aft_sub ha)) ((h2.cons_cons (s : Int)).trans (aft_sub hb))
      omega
    · cases hy
  have hlen := (part_spec (f + 1) l m hl hs).2.2
  obtain ⟨_, _, b3⟩ := bet_fold (fun s : Nat => via (partF f) l m (s : Int)) (List.range 6) []
  have hex : ∃ s, (List.range 6).find? (fun s : Nat => (via (partF f) l m (s : Int)).any fun y => y.length == k + 1) = some s := by
    rcases b3 with h | ⟨s, hs', h⟩
    · have e : partF (f + 1) l m = [] := h
      rw [e] at hlen
      simp at hlen
      omega
    · cases hf : (List.range 6).find? (fun s : Nat => (via (partF f) l m (s : Int)).any fun y => y.length == k + 1) with
      | some t => exact ⟨t, rfl⟩
      | none =>
        exfalso
        have h' : via (partF f) l m (s : Int) = some (partF (f + 1) l m) := h
        have := (List.find?_eq_none.1 hf) s hs'
        rw [h'] at this
        simp [hlen, hk] at this
  obtain ⟨s, hf⟩ := hex
  have h1 := bet_first (fun s : Nat => via (partF f) l m (s : Int)) (k + 1) (List.range 6) [] (by simp) hle s hf
  have h1 : via (partF f) l m (s : Int) = some (partF (f + 1) l m) := h1
  rw [List.find?_range_eq_some] at hf
  obtain ⟨f1, f2, f3⟩ := hf
  rw [hq] at f1
  have f1' := f1
  unfold nxtS at f1
  unfold via at h1
  cases ha : aft (s : Int) l with
  | none => rw [ha] at f1; simp at f1
  | some a =>
    cases hb : aft (s : Int) m with
    | none => rw [ha, hb] at f1; simp at f1
    | some b =>
      rw [ha, hb] at f1 h1
      injection h1 with h1
      refine ⟨s, a, b, List.mem_range.1 f2, fun t ht => ?_, f1', by first | rfl | exact ha, by first | rfl | exact hb, by simpa using f1, h1.symm⟩
      have := f3 t ht
      rw [hq] at this
      simpa using this
end Go.Proofs.Ytndfdminjegldaa
