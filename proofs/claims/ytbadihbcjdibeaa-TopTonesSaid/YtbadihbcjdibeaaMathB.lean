/- Plain mathematics of tones: comparing lists, pieces, names. -/
import Derived.Test.YtbadihbcjdibeaaMathA
namespace Go.Proofs.Ytbadihbcjdibeaa

def EqTo (xs ys : List Int) (k : Nat) : Prop := ∀ j, j < k → xs.getD j 0 = ys.getD j 0
theorem eqTo_zero (xs ys : List Int) : EqTo xs ys 0 := fun _ h => absurd h (Nat.not_lt_zero _)
theorem eqTo_succ {xs ys : List Int} {k : Nat} (h : EqTo xs ys k) (e : xs.getD k 0 = ys.getD k 0) : EqTo xs ys (k + 1) := by
  intro j hj
  by_cases hjk : j = k
  · subst hjk; exact e
  · exact h j (by omega)
theorem list_ext_getD {xs ys : List Int} (hl : xs.length = ys.length) (h : ∀ j, j < xs.length → xs.getD j 0 = ys.getD j 0) : xs = ys := by
  apply List.ext_getElem hl
  intro j h1 h2
  have := h j h1
  simpa [List.getD_eq_getElem?_getD, h1, h2] using this
def eqL (xs ys : List Int) : Bool := xs == ys
theorem eqL_true {xs ys : List Int} (hl : xs.length = ys.length) (h : EqTo xs ys xs.length) : eqL xs ys = true := by
  unfold eqL; simp [list_ext_getD hl h]
theorem eqL_len {xs ys : List Int} (hl : xs.length ≠ ys.length) : eqL xs ys = false := by
  unfold eqL
  simp
  intro h; exact hl (by rw [h])
theorem eqL_ne {xs ys : List Int} {k : Nat} (e : xs.getD k 0 ≠ ys.getD k 0) : eqL xs ys = false := by
  unfold eqL
  simp
  intro h; exact e (by rw [h])
theorem eqL_iff {xs ys : List Int} : eqL xs ys = true ↔ xs = ys := by unfold eqL; simp
theorem eqL_self (xs : List Int) : eqL xs xs = true := by rw [eqL_iff]

def cmpL : List Int → List Int → Int
  | [], [] => 0
  | [], _ :: _ => -1
  | _ :: _, [] => 1
  | a :: as, b :: bs => if a < b then -1 else if b < a then 1 else cmpL as bs

theorem cmpL_cons (a b : Int) (as bs : List Int) : cmpL (a :: as) (b :: bs) = if a < b then -1 else if b < a then 1 else cmpL as bs := rfl
theorem drop_cons {xs : List Int} {k : Nat} (h : k < xs.length) : xs.drop k = xs.getD k 0 :: xs.drop (k + 1) := by
  rw [List.drop_eq_getElem_cons h]
  simp [List.getD_eq_getElem?_getD, h]
theorem cmpL_eqTo {xs ys : List Int} : ∀ k, k ≤ xs.length → k ≤ ys.length → EqTo xs ys k → cmpL xs ys = cmpL (xs.drop k) (ys.drop k) := by
  intro k
  induction k with
  | zero => intro _ _ _; rfl
  | succ k ih =>
    intro h1 h2 h
    rw [ih (by omega) (by omega) (fun j hj => h j (by omega)), drop_cons (by omega : k < xs.length), drop_cons (by omega : k < ys.length)]
    have e := h k (by omega)
    rw [cmpL_cons, e, if_neg (by omega), if_neg (by omega)]
theorem cmpL_lt {xs ys : List Int} {k : Nat} (h1 : k < xs.length) (h2 : k < ys.length) (h : EqTo xs ys k) (e : xs.getD k 0 < ys.getD k 0) : cmpL xs ys = -1 := by
  rw [cmpL_eqTo k (by omega) (by omega) h, drop_cons h1, drop_cons h2]
  rw [cmpL_cons, if_pos e]
theorem cmpL_gt {xs ys : List Int} {k : Nat} (h1 : k < xs.length) (h2 : k < ys.length) (h : EqTo xs ys k) (e : ys.getD k 0 < xs.getD k 0) : cmpL xs ys = 1 := by
  rw [cmpL_eqTo k (by omega) (by omega) h, drop_cons h1, drop_cons h2]
  rw [cmpL_cons, if_neg (by omega), if_pos e]
theorem cmpL_longer {xs ys : List Int} {k : Nat} (h1 : k < xs.length) (h2 : ys.length ≤ k) (h : EqTo xs ys k) (hk : k ≤ ys.length) : cmpL xs ys = 1 := by
  rw [cmpL_eqTo k (by omega) hk h, drop_cons h1, List.drop_eq_nil_of_le h2]
  rfl
theorem cmpL_shorter {xs ys : List Int} (h1 : xs.length < ys.length) (h : EqTo xs ys xs.length) : cmpL xs ys = -1 := by
  rw [cmpL_eqTo xs.length (Nat.le_refl _) (by omega) h, drop_cons h1, List.drop_eq_nil_of_le (Nat.le_refl _)]
  rfl
theorem cmpL_same {xs ys : List Int} (h1 : xs.length = ys.length) (h : EqTo xs ys xs.length) : cmpL xs ys = 0 := by
  rw [cmpL_eqTo xs.length (Nat.le_refl _) (by omega) h, List.drop_eq_nil_of_le (Nat.le_refl _), List.drop_eq_nil_of_le (by omega)]
  rfl

def befB (xs ys : List Int) : Bool := decide (cmpL xs ys < 0)

/-- n seconds from a second on. -/
def pieceL (xs : List Int) (i : Int) (n : Nat) : List Int := (List.range n).map fun (j : Nat) => sec xs (i + (j : Int))
theorem pieceL_length (xs : List Int) (i : Int) (n : Nat) : (pieceL xs i n).length = n := by simp [pieceL]
theorem pieceL_zero (xs : List Int) (i : Int) : pieceL xs i 0 = [] := rfl
theorem pieceL_succ (xs : List Int) (i : Int) (n : Nat) : pieceL xs i (n + 1) = pieceL xs i n ++ [sec xs (i + (n : Int))] := by
  simp [pieceL, List.range_succ]
theorem pieceL_getD {xs : List Int} {i : Int} {n j : Nat} (h : j < n) : (pieceL xs i n).getD j 0 = sec xs (i + (j : Int)) := by
  simp [pieceL, List.getD_eq_getElem?_getD, h]

theorem sec_nat {xs : List Int} {k : Nat} (h : k < xs.length) : sec xs (k : Int) = xs.getD k 0 := by
  unfold sec
  rw [Int.emod_eq_of_lt (by omega) (by omega), Int.toNat_natCast]
theorem sec_add_len (xs : List Int) (i : Int) : sec xs (i + xs.length) = sec xs i := by
  unfold sec; rw [Int.add_emod_right]
theorem sec_emod (xs : List Int) (i : Int) : sec xs (i % (xs.length : Int)) = sec xs i := by
  unfold sec; rw [Int.emod_emod_of_dvd _ (Int.dvd_refl _)]
theorem sec_congr {xs : List Int} {i j : Int} (h : i % (xs.length : Int) = j % (xs.length : Int)) : sec xs i = sec xs j := by
  unfold sec; rw [h]

/-- The first p seconds. -/
theorem take_eq_piece {xs : List Int} {p : Nat} (h : p ≤ xs.length) : xs.take p = pieceL xs 0 p := by
  apply list_ext_getD
  · rw [pieceL_length, List.length_take]; omega
  · intro j hj
    have hj' : j < p := by rw [List.length_take] at hj; omega
    rw [pieceL_getD hj', Int.zero_add, sec_nat (by omega)]
    simp [List.getD_eq_getElem?_getD, List.getElem?_take, hj']
def rootL (xs : List Int) : List Int := pieceL xs 0 (per xs)

/-- What a store at place k does to a row of which the first k elements stand. -/
theorem fill_set (f : Nat → Int) {n k : Nat} (h : k < n) :
    ((List.range k).map f ++ List.replicate (n - k) 0).set k (f k) = (List.range (k + 1)).map f ++ List.replicate (n - (k + 1)) 0 := by
  rw [List.set_append_right _ _ (by simp)]
  have e : n - k = (n - (k + 1)) + 1 := by omega
  rw [e, List.replicate_succ]
  simp [List.range_succ]
def fillTo (xs : List Int) (i : Int) (n k : Nat) : List Int := pieceL xs i k ++ List.replicate (n - k) 0
theorem fillTo_zero (xs : List Int) (i : Int) (n : Nat) : fillTo xs i n 0 = List.replicate n 0 := by simp [fillTo, pieceL]
theorem fillTo_set {xs : List Int} {i : Int} {n k : Nat} (h : k < n) : (fillTo xs i n k).set k (sec xs (i + (k : Int))) = fillTo xs i n (k + 1) :=
  fill_set (fun (j : Nat) => sec xs (i + (j : Int))) h
theorem fillTo_all (xs : List Int) (i : Int) (n : Nat) : fillTo xs i n n = pieceL xs i n := by simp [fillTo]

/-- The first of the turns by less than k of a list, as the search finds it. -/
def bestTo (xs : List Int) (p : Nat) : Nat → List Int
  | 0 => pieceL xs 0 p
  | k + 1 => if befB (pieceL xs (k : Int) p) (bestTo xs p k) then pieceL xs (k : Int) p else bestTo xs p k
def nameL (xs : List Int) : List Int := bestTo xs (per xs) (per xs)
theorem bestTo_length (xs : List Int) (p k : Nat) : (bestTo xs p k).length = p := by
  induction k with
  | zero => exact pieceL_length _ _ _
  | succ k ih => unfold bestTo; split
                 · exact pieceL_length _ _ _
                 · exact ih
theorem cmpL_self (xs : List Int) : cmpL xs xs = 0 := cmpL_same rfl (fun _ _ => rfl)
theorem bestTo_one (xs : List Int) (p : Nat) : bestTo xs p 1 = pieceL xs 0 p := by
  unfold bestTo
  have : befB (pieceL xs ((0 : Nat) : Int) p) (bestTo xs p 0) = false := by
    show befB (pieceL xs 0 p) (pieceL xs 0 p) = false
    unfold befB; rw [cmpL_self]; rfl
  rw [this]
  rfl

theorem sec_rep {xs : List Int} {p : Nat} (h : 1 ≤ xs.length) (hr : repB xs (p : Int) = true) (i : Int) : sec xs (i + (p : Int)) = sec xs i := by
  have e1 := Int.emod_lt_of_pos i (show (0 : Int) < xs.length by omega)
  have e2 := Int.emod_nonneg i (show (xs.length : Int) ≠ 0 by omega)
  have e := repB_iff.1 hr (i % (xs.length : Int)).toNat (by omega)
  rw [Int.toNat_of_nonneg e2] at e
  have l : sec xs (i + (p : Int)) = sec xs (i % (xs.length : Int) + (p : Int)) := sec_congr (by rw [Int.emod_add_emod])
  rw [l, e]
  rfl
theorem sec_rep_mul {xs : List Int} {p : Nat} (h : 1 ≤ xs.length) (hr : repB xs (p : Int) = true) (i : Int) (k : Nat) : sec xs (i + (p : Int) * (k : Int)) = sec xs i := by
  induction k with
  | zero => simp
  | succ k ih =>
    have : i + (p : Int) * ((k + 1 : Nat) : Int) = (i + (p : Int) * (k : Int)) + (p : Int) := by
      rw [Int.natCast_add, Int.mul_add]; simp; omega
    rw [this, sec_rep h hr, ih]
theorem sec_rep_emod {xs : List Int} {p : Nat} (h : 1 ≤ xs.length) (hp : 1 ≤ p) (hr : repB xs (p : Int) = true) (i : Int) : sec xs (i % (p : Int)) = sec xs i := by
  have d := Int.emod_add_mul_ediv i (p : Int)
  rcases Int.le_total 0 (i / (p : Int)) with g | g
  · have e := sec_rep_mul h hr (i % (p : Int)) (i / (p : Int)).toNat
    rw [Int.toNat_of_nonneg g, d] at e
    exact e.symm
  · have e := sec_rep_mul h hr i (-(i / (p : Int))).toNat
    rw [Int.toNat_of_nonneg (by omega)] at e
    have : i + (p : Int) * -(i / (p : Int)) = i % (p : Int) := by rw [Int.mul_neg]; omega
    rw [this] at e
    exact e
theorem rootL_length (xs : List Int) : (rootL xs).length = per xs := pieceL_length _ _ _
theorem sec_root {xs : List Int} (h : 1 ≤ xs.length) (i : Int) : sec (rootL xs) i = sec xs i := by
  obtain ⟨s1, s2, s3, _⟩ := per_spec h
  have e1 := Int.emod_lt_of_pos i (show (0 : Int) < per xs by omega)
  have e2 := Int.emod_nonneg i (show (per xs : Int) ≠ 0 by omega)
  show (rootL xs).getD (i % ((rootL xs).length : Int)).toNat 0 = _
  rw [rootL_length, show rootL xs = pieceL xs 0 (per xs) from rfl, pieceL_getD (by omega), Int.zero_add, Int.toNat_of_nonneg e2, sec_rep_emod h s2 s1]
theorem piece_root {xs : List Int} (h : 1 ≤ xs.length) (i : Int) (n : Nat) : pieceL (rootL xs) i n = pieceL xs i n := by
  unfold pieceL
  exact List.map_congr_left fun j _ => sec_root h _
theorem piece_congr {xs : List Int} {i j : Int} (n : Nat) (h : ∀ k : Int, sec xs (i + k) = sec xs (j + k)) : pieceL xs i n = pieceL xs j n := by
  unfold pieceL
  exact List.map_congr_left fun k _ => h _
theorem piece_turn {xs : List Int} (h : 1 ≤ xs.length) (k n : Nat) : pieceL (rootL xs) ((k : Int) % (per xs : Int)) n = pieceL xs (k : Int) n := by
  rw [piece_root h]
  obtain ⟨s1, s2, s3, _⟩ := per_spec h
  refine piece_congr n fun j => ?_
  rw [← sec_rep_emod h s2 s1, ← sec_rep_emod h s2 s1 ((k : Int) + j), Int.emod_add_emod]
theorem piece_mod {xs : List Int} (i : Int) (n : Nat) : pieceL xs (i % (xs.length : Int)) n = pieceL xs i n := by
  refine piece_congr n fun j => sec_congr ?_
  rw [Int.emod_add_emod]
def okl (e : Int) (l : List Int) : List Int := if e = 0 then l else []
theorem okl_zero {e : Int} (h : e = 0) (v : List Int) : okl e v = v := by unfold okl; rw [if_pos h]
theorem okl_ne {e : Int} (h : e ≠ 0) (v : List Int) : okl e v = [] := by unfold okl; rw [if_neg h]
theorem nameL_length (xs : List Int) : (nameL xs).length = per xs := bestTo_length _ _ _
theorem bestTo_yes {xs : List Int} {p k : Nat} (h : befB (pieceL xs (k : Int) p) (bestTo xs p k) = true) : bestTo xs p (k + 1) = pieceL xs (k : Int) p := by
  show (if _ then _ else _) = _
  rw [if_pos h]
theorem bestTo_no {xs : List Int} {p k : Nat} (h : befB (pieceL xs (k : Int) p) (bestTo xs p k) = false) : bestTo xs p (k + 1) = bestTo xs p k := by
  show (if _ then _ else _) = _
  rw [h]; rfl
theorem befB_lt {a b : List Int} (h : befB a b = true) : cmpL a b < 0 := by unfold befB at h; simpa using h
theorem befB_ge {a b : List Int} (h : befB a b = false) : 0 ≤ cmpL a b := by unfold befB at h; simpa using h

def repToB (xs : List Int) (p k : Nat) : Bool := (List.range k).all fun j => sec xs (j : Int) == sec xs ((j : Int) + (p : Int))
theorem repToB_succ (xs : List Int) (p k : Nat) : repToB xs p (k + 1) = (repToB xs p k && (sec xs (k : Int) == sec xs ((k : Int) + (p : Int)))) := by
  simp [repToB, List.range_succ]
theorem repToB_all {xs : List Int} {p : Nat} : repToB xs p xs.length = repB xs (p : Int) := by
  rw [Bool.eq_iff_iff, repB_iff]
  unfold repToB RepTo
  simp only [List.all_eq_true, List.mem_range, beq_iff_eq]
  exact ⟨fun h j hj => by rw [← h j hj, sec_nat hj], fun h j hj => by rw [h j hj, sec_nat hj]⟩

end Go.Proofs.Ytbadihbcjdibeaa
