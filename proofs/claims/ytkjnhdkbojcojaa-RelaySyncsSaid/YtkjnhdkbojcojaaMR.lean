/- Boxes whose states have other numbers; plain mathematics, no program. -/
import Derived.Test.YtkjnhdkbojcojaaMA
namespace Go.Proofs.Ytkjnhdkbojcojaa

theorem getD_eq {α : Type} {l m : List α} {d : α} (h : l.length = m.length) (k : ∀ i, i < l.length → l.getD i d = m.getD i d) : l = m := by
  apply List.ext_getElem h
  intro i h1 h2
  have := k i h1
  rwa [List.getD_eq_getElem?_getD, List.getD_eq_getElem?_getD, List.getElem?_eq_getElem h1, List.getElem?_eq_getElem h2] at this
theorem getD_set {α : Type} (l : List α) (p i : Nat) (x d : α) (hp : p < l.length) : (l.set p x).getD i d = if i = p then x else l.getD i d := by
  rw [List.getD_eq_getElem?_getD, List.getD_eq_getElem?_getD, List.getElem?_set]
  by_cases e : p = i
  · subst e; simp [hp]
  · have e2 : ¬ i = p := fun h => e h.symm
    simp [e, e2]
/-- The first k of c numbers from a on. -/
def numTo (a : Int) (c k : Nat) : List Int := (List.range c).map fun (i : Nat) => if i < k then a + i else 0
theorem numTo_len (a : Int) (c k : Nat) : (numTo a c k).length = c := by simp [numTo]
theorem numTo_zero (a : Int) (c : Nat) : numTo a c 0 = List.replicate c 0 := by
  apply List.ext_getElem (by simp [numTo])
  intro i h1 h2
  simp [numTo]
theorem numTo_set {a : Int} {c k : Nat} (h : k < c) : (numTo a c k).set k (a + k) = numTo a c (k + 1) := by
  apply List.ext_getElem (by simp [numTo])
  intro i h1 h2
  rw [List.getElem_set]
  by_cases e : k = i
  · subst e; simp [numTo]
  · rw [if_neg e]
    have e2 : (i < k + 1) ↔ (i < k) := by omega
    simp [numTo, e2]
def numV (a : Int) (c : Nat) : List Int := numTo a c c
theorem numV_len (a : Int) (c : Nat) : (numV a c).length = c := numTo_len a c c
theorem numV_get {a : Int} {c k : Nat} (h : k < c) : (numV a c).getD k 0 = a + k := by
  rw [List.getD_eq_getElem?_getD]
  simp [numV, numTo, h]
/-- The states 0 to k - 1 with their new numbers. -/
def rnTo (b : Bx) (ts : List Int) (cnt : Nat) : Nat → Bx
  | 0 => (List.replicate cnt (0, 0), List.replicate cnt 0)
  | k + 1 => ((rnTo b ts cnt k).1.set (ts.getD k 0).toNat (ts.getD (aft b k 0) 0, ts.getD (aft b k 1) 0), (rnTo b ts cnt k).2.set (ts.getD k 0).toNat (b.2.getD k 0))
theorem rn_len (b : Bx) (ts : List Int) (cnt : Nat) : ∀ k, (rnTo b ts cnt k).1.length = cnt ∧ (rnTo b ts cnt k).2.length = cnt
  | 0 => ⟨List.length_replicate, List.length_replicate⟩
  | k + 1 => ⟨by rw [rnTo, List.length_set]; exact (rn_len b ts cnt k).1, by rw [rnTo, List.length_set]; exact (rn_len b ts cnt k).2⟩
/-- The first n numbers of a row are different numbers below cnt. -/
structure Inj (ts : List Int) (n cnt : Nat) : Prop where
  in_ : ∀ k, k < n → 0 ≤ ts.getD k 0 ∧ ts.getD k 0 < cnt
  one : ∀ i k, i < n → k < n → ts.getD i 0 = ts.getD k 0 → i = k
theorem rn_get {b : Bx} {ts : List Int} {n cnt : Nat} (h : Inj ts n cnt) : ∀ k, k ≤ n → ∀ i, i < k → (rnTo b ts cnt k).1.getD (ts.getD i 0).toNat (0, 0) = (ts.getD (aft b i 0) 0, ts.getD (aft b i 1) 0) ∧ (rnTo b ts cnt k).2.getD (ts.getD i 0).toNat 0 = b.2.getD i 0
  | 0, _, i, hi => absurd hi (Nat.not_lt_zero _)
  | k + 1, hk, i, hi => by
    have hl := rn_len b ts cnt k
    have hk1 := h.in_ k (by omega)
    have hi1 := h.in_ i (by omega)
    rw [rnTo]
    simp only
    rw [getD_set _ _ _ _ _ (by omega), getD_set _ _ _ _ _ (by omega)]
    by_cases e : i = k
    · subst e
      simp
    · have hne : ¬ (ts.getD i 0).toNat = (ts.getD k 0).toNat := fun e2 => e (h.one i k (by omega) (by omega) (by omega))
      rw [if_neg hne, if_neg hne]
      exact rn_get h k (by omega) i (by omega)
theorem rn_none {b : Bx} {ts : List Int} {n cnt j : Nat} (h : ∀ k, k < n → 0 ≤ ts.getD k 0 ∧ ts.getD k 0 < cnt) (hj : ∀ k, k < n → (ts.getD k 0).toNat ≠ j) : ∀ k, k ≤ n → (rnTo b ts cnt k).1.getD j (0, 0) = (0, 0) ∧ (rnTo b ts cnt k).2.getD j 0 = 0
  | 0, _ => by
    rw [rnTo]
    simp only [List.getD_eq_getElem?_getD]
    rcases Nat.lt_or_ge j cnt with hl | hl
    · simp [hl]
    · simp [Nat.not_lt.2 hl]
  | k + 1, hk => by
    have hl := rn_len b ts cnt k
    have hk1 := h k (by omega)
    have hne : ¬ j = (ts.getD k 0).toNat := fun e => hj k (by omega) e.symm
    rw [rnTo]
    simp only
    rw [getD_set _ _ _ _ _ (by omega), getD_set _ _ _ _ _ (by omega), if_neg hne, if_neg hne]
    exact rn_none h hj k (by omega)
theorem rn_ok {b : Bx} (hb : Okx b) {ts : List Int} {cnt : Nat} (h : ∀ k, k < b.2.length → 0 ≤ ts.getD k 0 ∧ ts.getD k 0 < cnt) (h1 : 1 ≤ cnt) (h6 : cnt ≤ 6) : Okx (rnTo b ts cnt b.2.length) := by
  have key : ∀ k, k ≤ b.2.length → ∀ i, i < cnt → (inB cnt ((rnTo b ts cnt k).1.getD i (0, 0)).1 = true ∧ inB cnt ((rnTo b ts cnt k).1.getD i (0, 0)).2 = true) ∧ sigB ((rnTo b ts cnt k).2.getD i 0) = true := by
    intro k
    induction k with
    | zero =>
      intro _ i hi
      rw [rnTo]
      simp only [List.getD_eq_getElem?_getD]
      simp [hi, inB, sigB]
      omega
    | succ k ih =>
      intro hk i hi
      have hl := rn_len b ts cnt k
      have hk1 := h k (by omega)
      rw [rnTo]
      simp only
      rw [getD_set _ _ _ _ _ (by omega), getD_set _ _ _ _ _ (by omega)]
      by_cases e : i = (ts.getD k 0).toNat
      · rw [if_pos e, if_pos e]
        exact ⟨⟨inB_iff.2 (h _ (hb.aft_lt (by omega) 0)), inB_iff.2 (h _ (hb.aft_lt (by omega) 1))⟩, hb.ou k (by omega)⟩
      · rw [if_neg e, if_neg e]
        exact ih (by omega) i hi
  have hl := rn_len b ts cnt b.2.length
  refine ⟨by omega, by omega, by omega, fun i hi => ?_, fun i hi => ?_⟩
  · rw [hl.2] at hi ⊢
    exact (key _ (Nat.le_refl _) i hi).1
  · rw [hl.2] at hi
    exact (key _ (Nat.le_refl _) i hi).2
/-- The new number of a state. -/
def tn (ts : List Int) (s : Nat) : Nat := (ts.getD s 0).toNat
theorem rn_aft {b : Bx} {ts : List Int} {cnt : Nat} (h : Inj ts b.2.length cnt) {s : Nat} (hs : s < b.2.length) (x : Int) : aft (rnTo b ts cnt b.2.length) (tn ts s) x = tn ts (aft b s x) := by
  have h1 := (rn_get (b := b) h _ (Nat.le_refl _) s hs).1
  unfold aft tn at *
  rw [h1]
  by_cases e : x = 0 <;> simp [e]
theorem rn_sgl {b : Bx} {ts : List Int} {cnt : Nat} (h : Inj ts b.2.length cnt) {s : Nat} (hs : s < b.2.length) : sgl (rnTo b ts cnt b.2.length) (tn ts s) = sgl b s :=
  (rn_get (b := b) h _ (Nat.le_refl _) s hs).2
theorem rn_path {b : Bx} (hb : Okx b) {ts : List Int} {cnt : Nat} (h : Inj ts b.2.length cnt) : ∀ (l : List Int) (s : Nat), s < b.2.length → pathV (rnTo b ts cnt b.2.length) (tn ts s) l = (pathV b s l).map (tn ts)
  | [], s, _ => rfl
  | x :: l, s, hs => by
    show tn ts s :: pathV _ (aft _ (tn ts s) x) l = tn ts s :: (pathV b (aft b s x) l).map (tn ts)
    rw [rn_aft h hs, rn_path hb h l _ (hb.aft_lt hs x)]
theorem path_in {b : Bx} (hb : Okx b) : ∀ (l : List Int) (s : Nat), s < b.2.length → ∀ x ∈ pathV b s l, x < b.2.length
  | [], s, hs, x, hx => by
    rw [show pathV b s [] = [s] from rfl, List.mem_singleton] at hx
    omega
  | y :: l, s, hs, x, hx => by
    rcases List.mem_cons.1 hx with rfl | hx
    · exact hs
    · exact path_in hb l _ (hb.aft_lt hs y) x hx
theorem rn_run {b : Bx} (hb : Okx b) {ts : List Int} {cnt : Nat} (h : Inj ts b.2.length cnt) (l : List Int) {s : Nat} (hs : s < b.2.length) : (pathV (rnTo b ts cnt b.2.length) (tn ts s) l).map (sgl (rnTo b ts cnt b.2.length)) = (pathV b s l).map (sgl b) := by
  rw [rn_path hb h l s hs, List.map_map]
  exact List.map_congr_left fun x hx => rn_sgl h (path_in hb l s hs x hx)

/-- The numbers 0 and i exchanged. -/
def swpL (n : Nat) (i : Nat) : List Int := ((numV 0 n).set 0 i).set i 0
def swpN (i k : Nat) : Nat := if k = i then 0 else if k = 0 then i else k
theorem swpL_len (n i : Nat) : (swpL n i).length = n := by simp [swpL, numV_len]
theorem swp_get {n i k : Nat} (hi : i < n) (hk : k < n) : (swpL n i).getD k 0 = (swpN i k : Nat) := by
  unfold swpL swpN
  rw [getD_set _ _ _ _ _ (by simp [numV_len]; omega), getD_set _ _ _ _ _ (by simp [numV_len]; omega), numV_get hk]
  split
  · rfl
  · split
    · rfl
    · omega
theorem swpN_lt {n i k : Nat} (hi : i < n) (hk : k < n) : swpN i k < n := by
  unfold swpN; split <;> (try split) <;> omega
theorem swpN_swpN (i k : Nat) : swpN i (swpN i k) = k := by
  unfold swpN; split <;> (try split) <;> (try split) <;> (try split) <;> omega
theorem swp_inj {n i : Nat} (hi : i < n) : Inj (swpL n i) n n where
  in_ k hk := by rw [swp_get hi hk]; have := swpN_lt hi hk; omega
  one a k ha hk e := by
    rw [swp_get hi ha, swp_get hi hk] at e
    have e2 : swpN i a = swpN i k := by omega
    rw [← swpN_swpN i a, e2, swpN_swpN]
theorem swp_tn {n i k : Nat} (hi : i < n) (hk : k < n) : tn (swpL n i) k = swpN i k := by
  unfold tn; rw [swp_get hi hk]; omega
/-- The box that begins in the state i. -/
def fromB (b : Bx) (i : Nat) : Bx := rnTo b (swpL b.2.length i) b.2.length b.2.length
theorem from_len (b : Bx) (i : Nat) : (fromB b i).1.length = b.2.length ∧ (fromB b i).2.length = b.2.length := rn_len _ _ _ _
theorem from_ok {b : Bx} (hb : Okx b) {i : Nat} (hi : i < b.2.length) : Okx (fromB b i) := rn_ok hb (swp_inj hi).in_ hb.n1 hb.n6
theorem from_get {b : Bx} {i : Nat} (hi : i < b.2.length) {k : Nat} (hk : k < b.2.length) : (fromB b i).1.getD (swpN i k) (0, 0) = ((swpL b.2.length i).getD (aft b k 0) 0, (swpL b.2.length i).getD (aft b k 1) 0) ∧ (fromB b i).2.getD (swpN i k) 0 = b.2.getD k 0 := by
  have := rn_get (b := b) (swp_inj hi) _ (Nat.le_refl _) k hk
  rw [show ((swpL b.2.length i).getD k 0).toNat = swpN i k from swp_tn hi hk] at this
  exact this
theorem from_from {b : Bx} (hb : Okx b) {i : Nat} (hi : i < b.2.length) : fromB (fromB b i) i = b := by
  have ok := from_ok hb hi
  have hl := from_len b i
  have hi2 : i < (fromB b i).2.length := by omega
  have key : ∀ j, j < b.2.length → (fromB (fromB b i) i).1.getD j (0, 0) = b.1.getD j (0, 0) ∧ (fromB (fromB b i) i).2.getD j 0 = b.2.getD j 0 := by
    intro j hj
    have hk := swpN_lt hi hj
    have h1 := from_get hi2 (k := swpN i j) (by omega)
    rw [swpN_swpN] at h1
    have h2 := from_get hi hj
    have ha : ∀ x, aft (fromB b i) (swpN i j) x = swpN i (aft b j x) := fun x => by
      have := rn_aft (swp_inj hi) hj x
      rw [swp_tn hi hj, swp_tn hi (hb.aft_lt hj x)] at this
      exact this
    rw [hl.2, ha, ha, swp_get hi (swpN_lt hi (hb.aft_lt hj 0)), swp_get hi (swpN_lt hi (hb.aft_lt hj 1)), swpN_swpN, swpN_swpN, ← hb.aft0 hj, ← hb.aft1 hj] at h1
    exact ⟨h1.1, h1.2.trans h2.2⟩
  have hl2 := from_len (fromB b i) i
  refine Prod.ext (getD_eq (d := (0, 0)) (by rw [hl2.1, hl.2, hb.len]) fun j hj => (key j (by omega)).1) (getD_eq (d := 0) (by rw [hl2.2, hl.2]) fun j hj => (key j (by omega)).2)
/-- What a word leads to when begun elsewhere. -/
theorem from_end {b : Bx} (hb : Okx b) {i : Nat} (hi : i < b.2.length) : ∀ (l : List Int) {s : Nat}, s < b.2.length → endV (fromB b i) (swpN i s) l = swpN i (endV b s l)
  | [], _, _ => rfl
  | x :: l, s, hs => by
    show endV (fromB b i) (aft (fromB b i) (swpN i s) x) l = swpN i (endV b (aft b s x) l)
    have := rn_aft (swp_inj hi) hs x
    rw [swp_tn hi hs, swp_tn hi (hb.aft_lt hs x)] at this
    rw [show aft (fromB b i) (swpN i s) x = swpN i (aft b s x) from this]
    exact from_end hb hi l (hb.aft_lt hs x)

/-- The box that answers later. -/
def lateB (b : Bx) : Bx := ((1, 1) :: b.1.map (fun p => (p.1 + 1, p.2 + 1)), 0 :: b.2)
theorem late_inj {n : Nat} : Inj (numV 1 n) n (n + 1) where
  in_ k hk := by rw [numV_get hk]; omega
  one a k ha hk e := by rw [numV_get ha, numV_get hk] at e; omega
theorem late_rn {b : Bx} (hb : Okx b) : ((rnTo b (numV 1 b.2.length) (b.2.length + 1) b.2.length).1.set 0 (1, 1), (rnTo b (numV 1 b.2.length) (b.2.length + 1) b.2.length).2) = lateB b := by
  have hl := rn_len b (numV 1 b.2.length) (b.2.length + 1) b.2.length
  have hlen := hb.len
  have h0 := rn_none (b := b) (j := 0) (n := b.2.length) (fun k hk => late_inj.in_ k hk) (fun k hk => by rw [numV_get hk]; omega) _ (Nat.le_refl _)
  have hg : ∀ k, k < b.2.length → _ := rn_get (b := b) late_inj _ (Nat.le_refl _)
  refine Prod.ext (getD_eq (d := (0, 0)) (by simp [hl.1, lateB, hlen]) fun j hj => ?_) (getD_eq (d := 0) (by simp [hl.2, lateB]) fun j hj => ?_)
  · show ((rnTo b (numV 1 b.2.length) (b.2.length + 1) b.2.length).1.set 0 (1, 1)).getD j (0, 0) = _
    rw [getD_set _ _ _ _ _ (by omega)]
    cases j with
    | zero => rfl
    | succ j =>
      have hj2 : j < b.2.length := by simp [hl.1] at hj; omega
      have := (hg j hj2).1
      rw [numV_get hj2, show ((1 : Int) + j).toNat = j + 1 by omega, numV_get (hb.aft_lt hj2 0), numV_get (hb.aft_lt hj2 1), ← hb.aft0 hj2, ← hb.aft1 hj2] at this
      rw [if_neg (by omega), this]
      show _ = (b.1.map (fun p => (p.1 + 1, p.2 + 1))).getD j (0, 0)
      have hj3 : j < b.1.length := by omega
      rw [List.getD_eq_getElem?_getD, List.getD_eq_getElem?_getD, List.getElem?_map, List.getElem?_eq_getElem hj3]
      simp [Int.add_comm]
  · cases j with
    | zero => exact h0.2
    | succ j =>
      have hj2 : j < b.2.length := by simp [hl.2] at hj; omega
      have := (hg j hj2).2
      rw [numV_get hj2, show ((1 : Int) + j).toNat = j + 1 by omega] at this
      exact this
theorem late_get {b : Bx} {j : Nat} (hj : j < b.1.length) : (lateB b).1.getD (j + 1) (0, 0) = ((b.1.getD j (0, 0)).1 + 1, (b.1.getD j (0, 0)).2 + 1) := by
  show (b.1.map (fun p => (p.1 + 1, p.2 + 1))).getD j (0, 0) = _
  rw [List.getD_eq_getElem?_getD, List.getD_eq_getElem?_getD, List.getElem?_map, List.getElem?_eq_getElem hj]
  rfl
theorem late_ok {b : Bx} (hb : Okx b) (h : b.2.length ≠ 6) : Okx (lateB b) := by
  have h6 := hb.n6
  have h1 := hb.n1
  refine ⟨by simp [lateB], by simp [lateB]; omega, by simp [lateB, hb.len], fun i hi => ?_, fun i hi => ?_⟩
  · have hl : (lateB b).2.length = b.2.length + 1 := by simp [lateB]
    rw [hl] at hi ⊢
    cases i with
    | zero =>
      show inB _ 1 = true ∧ inB _ 1 = true
      simp [inB]; omega
    | succ j =>
      rw [late_get (by rw [hb.len]; omega)]
      have := hb.nx j (by omega)
      rw [inB_iff, inB_iff] at this
      rw [inB_iff, inB_iff]
      simp only
      omega
  · cases i with
    | zero => rfl
    | succ j =>
      have hl : (lateB b).2.length = b.2.length + 1 := by simp [lateB]
      exact hb.ou j (by omega)
theorem late_aft {b : Bx} (hb : Okx b) {s : Nat} (hs : s < b.2.length) (x : Int) : aft (lateB b) (s + 1) x = aft b s x + 1 := by
  have h1 := hb.nx s hs
  rw [inB_iff, inB_iff] at h1
  unfold aft
  rw [late_get (by rw [hb.len]; exact hs)]
  generalize b.1.getD s (0, 0) = p at *
  by_cases e : x = 0
  · rw [if_pos e, if_pos e]; simp only; omega
  · rw [if_neg e, if_neg e]; simp only; omega
theorem late_path {b : Bx} (hb : Okx b) : ∀ (l : List Int) (s : Nat), s < b.2.length → (pathV (lateB b) (s + 1) l).map (sgl (lateB b)) = (pathV b s l).map (sgl b)
  | [], s, hs => rfl
  | x :: l, s, hs => by
    show sgl (lateB b) (s + 1) :: (pathV (lateB b) (aft (lateB b) (s + 1) x) l).map (sgl (lateB b)) = sgl b s :: (pathV b (aft b s x) l).map (sgl b)
    rw [late_aft hb hs, late_path hb l _ (hb.aft_lt hs x)]
    rfl
theorem late_run {b : Bx} (hb : Okx b) (x : Int) (l : List Int) : runV (lateB b) (x :: l) = 0 :: runV b l := by
  show sgl (lateB b) 0 :: (pathV (lateB b) (aft (lateB b) 0 x) l).map (sgl (lateB b)) = 0 :: (pathV b 0 l).map (sgl b)
  have e : aft (lateB b) 0 x = 0 + 1 := by
    unfold aft
    by_cases e : x = 0 <;> simp [e, lateB]
  rw [e, late_path hb l 0 (by have := hb.n1; omega)]
  rfl
end Go.Proofs.Ytkjnhdkbojcojaa
