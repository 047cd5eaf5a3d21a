/- Mathematics: how many comparisons have a cost, by the first signs, by the last ones, by the first pair. -/
import Derived.Test.YtndfdminjegldaaMN
namespace Go.Proofs.Ytndfdminjegldaa

def gk (c : Cst) : List Int → List Int → Int → Int
  | [], m, d => if d = c.i * m.length then 1 else 0
  | a :: l, [], d => if d = c.o * (a :: l).length then 1 else 0
  | a :: l, b :: m, d => gk c l (b :: m) (d - c.o) + gk c (a :: l) m (d - c.i) - gk c l m (d - c.o - c.i) + gk c l m (d - chg c a b)
termination_by l m _ => l.length + m.length
theorem gk_nl (c : Cst) (m : List Int) (d : Int) : gk c [] m d = if d = c.i * m.length then 1 else 0 := by rw [gk]
theorem gk_nr (c : Cst) (l : List Int) (d : Int) : gk c l [] d = if d = c.o * l.length then 1 else 0 := by
  cases l with
  | nil => rw [gk]; simp
  | cons a l => rw [gk]
theorem gk_cc (c : Cst) (a b : Int) (l m : List Int) (d : Int) : gk c (a :: l) (b :: m) d = gk c l (b :: m) (d - c.o) + gk c (a :: l) m (d - c.i) - gk c l m (d - c.o - c.i) + gk c l m (d - chg c a b) := by rw [gk]
theorem gk_nlc (c : Cst) (b : Int) (m : List Int) (d : Int) : gk c [] (b :: m) d = gk c [] m (d - c.i) := by
  rw [gk_nl, gk_nl, List.length_cons]
  have : c.i * ((m.length + 1 : Nat) : Int) = c.i * m.length + c.i := by rw [Int.natCast_add, Int.mul_add]; simp
  rw [this]
  split <;> split <;> first | rfl | omega
theorem gk_nrc (c : Cst) (a : Int) (l : List Int) (d : Int) : gk c (a :: l) [] d = gk c l [] (d - c.o) := by
  rw [gk_nr, gk_nr, List.length_cons]
  have : c.o * ((l.length + 1 : Nat) : Int) = c.o * l.length + c.o := by rw [Int.natCast_add, Int.mul_add]; simp
  rw [this]
  split <;> split <;> first | rfl | omega
theorem gk_nls (c : Cst) (b : Int) (m : List Int) (d : Int) : gk c [] (m ++ [b]) d = gk c [] m (d - c.i) := by
  rw [← gk_nlc c b, gk_nl, gk_nl]; simp
theorem gk_nrs (c : Cst) (a : Int) (l : List Int) (d : Int) : gk c (l ++ [a]) [] d = gk c l [] (d - c.o) := by
  rw [← gk_nrc c a, gk_nr, gk_nr]; simp
theorem sub_rc (a b c : Int) : a - b - c = a - c - b := by omega
set_option maxHeartbeats 1000000 in
/-- By the last signs. -/
theorem gk_last (c : Cst) (a b : Int) : ∀ (n : Nat) (l m : List Int) (d : Int), l.length + m.length ≤ n →
    gk c (l ++ [a]) (m ++ [b]) d = gk c l (m ++ [b]) (d - c.o) + gk c (l ++ [a]) m (d - c.i) - gk c l m (d - c.o - c.i) + gk c l m (d - chg c a b)
  | _, [], [], d, _ => by simp only [List.nil_append]; rw [gk_cc]
  | 0, x :: l, m, d, h => by simp at h
  | 0, l, y :: m, d, h => by simp at h
  | n + 1, [], y :: m, d, h => by
    have ih := gk_last c a b n [] m (d - c.i) (by simp at h ⊢; omega)
    simp only [List.nil_append, List.cons_append] at ih ⊢
    rw [gk_cc, ih, gk_cc c a y [] m (d - c.i)]
    simp only [gk_nlc c y, gk_nls c b m, sub_rc]
    omega
  | n + 1, x :: l, [], d, h => by
    have ih := gk_last c a b n l [] (d - c.o) (by simp at h ⊢; omega)
    simp only [List.nil_append, List.cons_append] at ih ⊢
    rw [gk_cc, ih, gk_cc c x b l [] (d - c.o)]
    simp only [gk_nrc c x, gk_nrs c a l, sub_rc]
    omega
  | n + 1, x :: l, y :: m, d, h => by
    have i1 := gk_last c a b n l (y :: m) (d - c.o) (by simp at h ⊢; omega)
    have i2 := gk_last c a b n (x :: l) m (d - c.i) (by simp at h ⊢; omega)
    have i3 := gk_last c a b n l m (d - c.o - c.i) (by simp at h ⊢; omega)
    have i4 := gk_last c a b n l m (d - chg c x y) (by simp at h ⊢; omega)
    simp only [List.cons_append] at i1 i2 ⊢
    rw [gk_cc c x y (l ++ [a]) (m ++ [b]) d, i1, i2, i3, i4, gk_cc c x y l (m ++ [b]) (d - c.o), gk_cc c x y (l ++ [a]) m (d - c.i), gk_cc c x y l m (d - c.o - c.i), gk_cc c x y l m (d - chg c a b)]
    simp only [sub_rc]
    omega
theorem gk_rev (c : Cst) : ∀ (n : Nat) (l m : List Int) (d : Int), l.length + m.length ≤ n → gk c l.reverse m.reverse d = gk c l m d
  | _, [], m, d, _ => by rw [List.reverse_nil, gk_nl, gk_nl, List.length_reverse]
  | _, l, [], d, _ => by rw [List.reverse_nil, gk_nr, gk_nr, List.length_reverse]
  | 0, x :: l, m, d, h => by simp at h
  | n + 1, x :: l, y :: m, d, h => by
    have i1 := fun e => gk_rev c n l (y :: m) e (by simp at h ⊢; omega)
    have i2 := fun e => gk_rev c n (x :: l) m e (by simp at h ⊢; omega)
    have i3 := fun e => gk_rev c n l m e (by simp at h ⊢; omega)
    simp only [List.reverse_cons] at i1 i2 ⊢
    rw [gk_last c x y _ l.reverse m.reverse d (Nat.le_refl _), i1, i2, i3, i3, gk_cc]
/-- None costs less than the distance. -/
theorem gk_low (c : Cst) : ∀ (n : Nat) (l m : List Int) (d : Int), l.length + m.length ≤ n → d < dist l m c → gk c l m d = 0
  | _, [], m, d, _, h => by
    have := dist_base [] m c
    simp at this
    rw [gk_nl, if_neg (by omega)]
  | _, l, [], d, _, h => by
    have := dist_base l [] c
    simp at this
    rw [gk_nr, if_neg (by omega)]
  | 0, x :: l, m, d, h, _ => by simp at h
  | n + 1, x :: l, y :: m, d, h, hd => by
    have a1 := dist_le ((dist_al l (y :: m) c).out x)
    have a2 := dist_le ((dist_al (x :: l) m c).inn y)
    have a3 := dist_le (((dist_al l m c).inn y).out x)
    have a4 := dist_le ((dist_al l m c).pair x y)
    have i1 := gk_low c n l (y :: m) (d - c.o) (by simp at h ⊢; omega) (by omega)
    have i2 := gk_low c n (x :: l) m (d - c.i) (by simp at h ⊢; omega) (by omega)
    have i3 := gk_low c n l m (d - c.o - c.i) (by simp at h ⊢; omega) (by omega)
    have i4 := gk_low c n l m (d - chg c x y) (by simp at h ⊢; omega) (by omega)
    rw [gk_cc, i1, i2, i3, i4]; rfl
theorem gk_bd (c : Cst) : ∀ (n : Nat) (l m : List Int) (d : Int), l.length + m.length ≤ n → -((4 ^ n : Nat) : Int) ≤ gk c l m d ∧ gk c l m d ≤ ((4 ^ n : Nat) : Int)
  | n, [], m, d, _ => by
    have := pow4_pos n
    rw [gk_nl]; split <;> omega
  | n, l, [], d, _ => by
    have := pow4_pos n
    rw [gk_nr]; split <;> omega
  | 0, x :: l, m, d, h => by simp at h
  | n + 1, x :: l, y :: m, d, h => by
    have i1 := gk_bd c n l (y :: m) (d - c.o) (by simp at h ⊢; omega)
    have i2 := gk_bd c n (x :: l) m (d - c.i) (by simp at h ⊢; omega)
    have i3 := gk_bd c n l m (d - c.o - c.i) (by simp at h ⊢; omega)
    have i4 := gk_bd c n l m (d - chg c x y) (by simp at h ⊢; omega)
    rw [gk_cc, pow4]
    omega
end Go.Proofs.Ytndfdminjegldaa
