/- Mathematics: rows with the same distances have the same delays; which of two rows is before the other; mirror images. -/
import Derived.Test.YtllfkhcpdgdmnaaCtr
namespace Go.Proofs.Ytllfkhcpdgdmnaa

def Su (f : Int → Nat) (l : List Int) : Nat := (l.map f).sum
theorem Su_nil (f : Int → Nat) : Su f [] = 0 := rfl
theorem Su_cons (f : Int → Nat) (x : Int) (l : List Int) : Su f (x :: l) = f x + Su f l := by simp [Su]
theorem Su_app (f : Int → Nat) (l m : List Int) : Su f (l ++ m) = Su f l + Su f m := by simp [Su]
theorem Su_perm (f : Int → Nat) {l m : List Int} (h : l.Perm m) : Su f l = Su f m := (h.map f).sum_nat
theorem Su_congr {f g : Int → Nat} {l : List Int} (h : ∀ x ∈ l, f x = g x) : Su f l = Su g l := by
  unfold Su
  rw [List.map_congr_left h]
theorem Su_add (f g : Int → Nat) (l : List Int) : Su (fun x => f x + g x) l = Su f l + Su g l := by
  induction l with
  | nil => rfl
  | cons x l ih => simp only [Su_cons, ih]; omega
theorem Su_zero (l : List Int) : Su (fun _ => 0) l = 0 := by
  induction l with
  | nil => rfl
  | cons x l ih => simp only [Su_cons, ih]
theorem Su_map (f : Int → Nat) (h : Int → Int) (l : List Int) : Su f (l.map h) = Su (fun x => f (h x)) l := by simp [Su, List.map_map, Function.comp_def]
theorem Su_swap (g : Int → Int → Nat) (l m : List Int) : Su (fun u => Su (g u) m) l = Su (fun v => Su (fun u => g u v) l) m := by
  induction l with
  | nil => simp only [Su_nil]; exact (Su_zero m).symm
  | cons x l ih => simp only [Su_cons, ih]; rw [← Su_add]
theorem Su_flat (f : Int → Nat) (h : Int → List Int) (l : List Int) : Su f (l.flatMap h) = Su (fun x => Su f (h x)) l := by
  induction l with
  | nil => rfl
  | cons x l ih => rw [List.flatMap_cons, Su_app, Su_cons, ih]
theorem Su_count (h : Int → Int) (d : Int) (l : List Int) : (l.map h).count d = Su (fun x => if h x = d then 1 else 0) l := by
  induction l with
  | nil => rfl
  | cons x l ih =>
    rw [List.map_cons, List.count_cons, Su_cons, ih]
    by_cases e : h x = d <;> simp [e]; omega
/-- Whether two places are d apart. -/
def hit (d u v : Int) : Nat := if ((u - v).natAbs : Int) = d then 1 else 0
theorem hit_comm (d u v : Int) : hit d u v = hit d v u := by
  unfold hit
  have : (u - v).natAbs = (v - u).natAbs := by omega
  rw [this]
def ad (d : Int) (l : List Int) : Nat := Su (fun u => Su (hit d u) l) l
theorem ad_perm (d : Int) {l m : List Int} (h : l.Perm m) : ad d l = ad d m := by
  unfold ad
  rw [Su_perm _ h]
  exact Su_congr fun x _ => Su_perm _ h
theorem ad_map (d : Int) (f : Int → Int) (hf : ∀ u v, hit d (f u) (f v) = hit d u v) (l : List Int) : ad d (l.map f) = ad d l := by
  unfold ad
  rw [Su_map]
  refine Su_congr fun x _ => ?_
  rw [Su_map]
  exact Su_congr fun y _ => hf x y
theorem ad_snoc (d : Int) (l : List Int) (x : Int) : ad d (l ++ [x]) = ad d l + 2 * Su (hit d x) l + hit d x x := by
  unfold ad
  rw [Su_app]
  simp only [Su_app, Su_cons, Su_nil, Nat.add_zero]
  rw [Su_add]
  have e : Su (fun u => hit d u x) l = Su (hit d x) l := Su_congr fun u _ => hit_comm d u x
  rw [e]
  omega
theorem difTo_app (l : List Int) (x : Int) : ∀ k, k ≤ l.length → difTo (l ++ [x]) k = difTo l k
  | 0, _ => rfl
  | k + 1, h => by
    rw [difTo_succ, difTo_succ, difTo_app l x k (by omega)]
    congr 1
    unfold rowD
    apply List.map_congr_left
    intro j hj
    have hj := List.mem_range.1 hj
    simp [List.getD_eq_getElem?_getD, List.getElem?_append_left (show k < l.length by omega), List.getElem?_append_left (show j < l.length by omega)]
theorem dif_snoc (l : List Int) (x : Int) : dif (l ++ [x]) = dif l ++ l.map fun v => x - v := by
  unfold dif
  rw [List.length_append, List.length_singleton, difTo_succ, difTo_app l x _ (Nat.le_refl _)]
  congr 1
  unfold rowD
  apply List.ext_getElem
  · simp
  · intro i h1 h2
    have hi : i < l.length := by simpa using h2
    simp [List.getD_eq_getElem?_getD, List.getElem?_append_left hi, List.getElem?_eq_getElem hi]
theorem ad_dif (d : Int) : ∀ (n : Nat) (l : List Int), l.length = n → l.Pairwise (· ≤ ·) → ad d l = 2 * (dif l).count d + if d = 0 then l.length else 0
  | 0, l, hn, _ => by
    obtain rfl := List.eq_nil_of_length_eq_zero hn
    simp [ad, Su_nil, dif, difTo]
  | n + 1, l, hn, hs => by
    have hne : l ≠ [] := by intro e; subst e; simp at hn
    obtain ⟨l, x, rfl⟩ : ∃ ini c, l = ini ++ [c] := ⟨l.dropLast, l.getLast hne, (List.dropLast_concat_getLast hne).symm⟩
    have hp := List.pairwise_append.1 hs
    have ih := ad_dif d n l (by simpa using hn) hp.1
    rw [ad_snoc, dif_snoc, List.count_append, ih]
    have e : Su (hit d x) l = (l.map fun v => x - v).count d := by
      rw [Su_count]
      refine Su_congr fun v hv => ?_
      have := hp.2.2 v hv x (by simp)
      unfold hit
      have e2 : ((x - v).natAbs : Int) = x - v := by omega
      rw [e2]
    have e3 : hit d x x = if d = 0 then 1 else 0 := by
      unfold hit
      simp
      by_cases h : d = 0
      · simp [h]
      · simp [h, Ne.symm h]
    rw [e, e3]
    simp only [List.length_append, List.length_singleton]
    split <;> omega
theorem sortZ_perm_eq {l m : List Int} (h : l.Perm m) : sortZ l = sortZ m := sorted_unique ((sortZ_perm l).trans (h.trans (sortZ_perm m).symm)) (sortZ_sorted l) (sortZ_sorted m)
/-- As many places, as often so far apart: the same delays. -/
theorem dif_same {a b : List Int} (ha : a.Pairwise (· ≤ ·)) (hb : b.Pairwise (· ≤ ·)) (hl : a.length = b.length) (h : ∀ d, ad d a = ad d b) : sortZ (dif a) = sortZ (dif b) := by
  apply sortZ_perm_eq
  rw [List.perm_iff_count]
  intro d
  have h1 := ad_dif d _ a rfl ha
  have h2 := ad_dif d _ b rfl hb
  rw [h d, h2, hl] at h1
  omega
theorem cmb_flat (f : Int → Int → Int) (xs ys : List Int) : cmb f xs ys = xs.flatMap fun x => ys.map (f x) := by
  have h : ∀ k, k ≤ xs.length → cmbTo f xs ys k = (xs.take k).flatMap fun x => ys.map (f x) := by
    intro k
    induction k with
    | zero => intro _; simp [cmbTo]
    | succ k ih =>
      intro hk
      rw [cmbTo_succ, ih (by omega), List.take_succ_eq_append_getElem (by omega), List.flatMap_append]
      simp [List.getD_eq_getElem?_getD, show k < xs.length by omega]
  unfold cmb
  rw [h _ (Nat.le_refl _), List.take_length]
/-- The sums and the differences of two rows are as often so far apart. -/
theorem ad_homes (d : Int) (xs ys : List Int) : ad d (cmb (fun x y => x + y) xs ys) = ad d (cmb (fun x y => x - y) xs ys) := by
  rw [cmb_flat, cmb_flat]
  unfold ad
  rw [Su_flat, Su_flat]
  refine Su_congr fun x _ => ?_
  simp only [Su_map, Su_flat]
  have e : ∀ y, Su (fun x' => Su (fun y' => hit d (x - y) (x' - y')) ys) xs = Su (fun x' => Su (fun y' => hit d (x + y') (x' + y)) ys) xs := fun y =>
    Su_congr fun x' _ => Su_congr fun y' _ => by
      unfold hit
      have : (x - y - (x' - y')).natAbs = (x + y' - (x' + y)).natAbs := by congr 1; omega
      rw [this]
  rw [Su_congr (l := ys) (fun y _ => e y)]
  rw [Su_swap (fun y x' => Su (fun y' => hit d (x + y') (x' + y)) ys) ys xs]
  rw [Su_congr (l := xs) (fun x' _ => Su_swap (fun y y' => hit d (x + y') (x' + y)) ys ys)]
  rw [Su_swap (fun x' y' => Su (fun y => hit d (x + y') (x' + y)) ys) xs ys]
theorem okTo_sorted {xs : List Int} (h : OkTo xs xs.length) : xs.Pairwise (· < ·) := by
  rw [List.pairwise_iff_getElem]
  have hst : ∀ k i, i + k + 1 < xs.length → xs.getD i 0 < xs.getD (i + k + 1) 0 := by
    intro k
    induction k with
    | zero => intro i hi; have := (okB_iff.1 (h (i + 1) hi)).2.2; simpa using this
    | succ k ih =>
      intro i hi
      have h1 := ih i (by omega)
      have h2 := (okB_iff.1 (h (i + (k + 1) + 1) hi)).2.2
      have e : i + (k + 1) + 1 - 1 = i + k + 1 := by omega
      rw [e] at h2
      omega
  intro i j hi hj hij
  have := hst (j - i - 1) i (by omega)
  rw [show i + (j - i - 1) + 1 = j by omega] at this
  simpa [List.getD_eq_getElem?_getD, hi, hj] using this
theorem lt_le {xs : List Int} (h : xs.Pairwise (· < ·)) : xs.Pairwise (· ≤ ·) := h.imp fun h => by omega
end Go.Proofs.Ytllfkhcpdgdmnaa
