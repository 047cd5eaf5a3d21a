/- Mathematics: the document's table of the ends of two logs, by the first pair. -/
import Derived.Test.YtndfdminjegldaaME
namespace Go.Proofs.Ytndfdminjegldaa

/-- The distance of the ends from two places on. -/
def ld (l m : List Int) (c : Cst) (i j : Nat) : Int := dist (l.drop i) (m.drop j) c
def bsE (l m : List Int) (c : Cst) (i j : Nat) : Int := c.o * ((l.length : Int) - i) + c.i * ((m.length : Int) - j)
def vlE (l m : List Int) (c : Cst) (i j a b : Nat) : Int := c.o * ((a : Int) - i) + c.i * ((b : Int) - j) + chg c (l.getD a 0) (m.getD b 0) + ld l m c (a + 1) (b + 1)
theorem getD_drop (l : List Int) (i k : Nat) : (l.drop i).getD k 0 = l.getD (i + k) 0 := by
  rw [List.getD_eq_getElem?_getD, List.getD_eq_getElem?_getD, List.getElem?_drop]
theorem ends_base {l m : List Int} {c : Cst} {i j : Nat} (hi : i ≤ l.length) (hj : j ≤ m.length) : ld l m c i j ≤ bsE l m c i j := by
  have := dist_base (l.drop i) (m.drop j) c
  unfold ld bsE
  rw [List.length_drop, List.length_drop] at this
  rw [show ((l.length : Int) - i) = ((l.length - i : Nat) : Int) by omega, show ((m.length : Int) - j) = ((m.length - j : Nat) : Int) by omega]
  exact this
theorem ends_le {l m : List Int} {c : Cst} {i j a b : Nat} (ha : i ≤ a) (ha2 : a < l.length) (hb : j ≤ b) (hb2 : b < m.length) : ld l m c i j ≤ vlE l m c i j a b := by
  have h1 := dist_al (l.drop (a + 1)) (m.drop (b + 1)) c
  have e1 : l.drop (a + 1) = (l.drop i).drop (a - i + 1) := by rw [List.drop_drop]; congr 1; omega
  have e2 : m.drop (b + 1) = (m.drop j).drop (b - j + 1) := by rw [List.drop_drop]; congr 1; omega
  rw [e1, e2] at h1
  have h2 := Al.at_ (l := l.drop i) (m := m.drop j) (a := a - i) (b := b - j) (by rw [List.length_drop]; omega) (by rw [List.length_drop]; omega) h1
  have h3 := dist_le h2
  rw [getD_drop, getD_drop, show i + (a - i) = a by omega, show j + (b - j) = b by omega, ← e1, ← e2] at h3
  unfold vlE ld
  rw [show ((a : Int) - i) = ((a - i : Nat) : Int) by omega, show ((b : Int) - j) = ((b - j : Nat) : Int) by omega]
  exact h3
theorem ends_ex {l m : List Int} {c : Cst} {i j : Nat} (hi : i ≤ l.length) (hj : j ≤ m.length) : ld l m c i j = bsE l m c i j ∨ ∃ a b, i ≤ a ∧ a < l.length ∧ j ≤ b ∧ b < m.length ∧ vlE l m c i j a b ≤ ld l m c i j := by
  rcases (dist_al (l.drop i) (m.drop j) c).first with h | ⟨a, b, e, ha, hb, he, hal⟩
  · left
    unfold ld bsE
    rw [h, List.length_drop, List.length_drop, show ((l.length : Int) - i) = ((l.length - i : Nat) : Int) by omega, show ((m.length : Int) - j) = ((m.length - j : Nat) : Int) by omega]
  · right
    rw [List.length_drop] at ha hb
    refine ⟨i + a, j + b, by omega, by omega, by omega, by omega, ?_⟩
    have h1 := dist_le hal
    rw [List.drop_drop, List.drop_drop, show i + (a + 1) = i + a + 1 by omega, show j + (b + 1) = j + b + 1 by omega] at h1
    rw [getD_drop, getD_drop] at he
    unfold vlE
    show _ ≤ dist (l.drop i) (m.drop j) c
    rw [he]
    unfold ld
    rw [show ((((i + a : Nat) : Int)) - i) = (a : Int) by omega, show ((((j + b : Nat) : Int)) - j) = (b : Int) by omega]
    omega
/-- The least of the first pairs before (a, b), and of none. -/
def LsTo (l m : List Int) (c : Cst) (i j a b : Nat) (x : Int) : Prop :=
  ld l m c i j ≤ x ∧ x ≤ bsE l m c i j ∧ ∀ a' b', i ≤ a' → j ≤ b' → b' < m.length → (a' < a ∨ (a' = a ∧ b' < b)) → x ≤ vlE l m c i j a' b'
variable {l m : List Int} {c : Cst} {i j a b : Nat} {x : Int}
theorem ls_start (hi : i ≤ l.length) (hj : j ≤ m.length) : LsTo l m c i j i j (bsE l m c i j) := ⟨ends_base hi hj, Int.le_refl _, fun a' b' h1 h2 _ h3 => by omega⟩
theorem ls_row (h : LsTo l m c i j a m.length x) : LsTo l m c i j (a + 1) j x := ⟨h.1, h.2.1, fun a' b' h1 h2 h3 h4 => h.2.2 a' b' h1 h2 h3 (by omega)⟩
theorem ls_less (h : LsTo l m c i j a b x) (hv : vlE l m c i j a b < x) (ha : i ≤ a) (ha2 : a < l.length) (hb : j ≤ b) (hb2 : b < m.length) : LsTo l m c i j a (b + 1) (vlE l m c i j a b) :=
  ⟨ends_le ha ha2 hb hb2, by have := h.2.1; omega, fun a' b' h1 h2 h3 h4 => by
    by_cases e : a' = a ∧ b' = b
    · obtain ⟨rfl, rfl⟩ := e; omega
    · have := h.2.2 a' b' h1 h2 h3 (by omega); omega⟩
theorem ls_more (h : LsTo l m c i j a b x) (hv : ¬ vlE l m c i j a b < x) : LsTo l m c i j a (b + 1) x :=
  ⟨h.1, h.2.1, fun a' b' h1 h2 h3 h4 => by
    by_cases e : a' = a ∧ b' = b
    · obtain ⟨rfl, rfl⟩ := e; omega
    · exact h.2.2 a' b' h1 h2 h3 (by omega)⟩
theorem ls_end (h : LsTo l m c i j l.length j x) (hi : i ≤ l.length) (hj : j ≤ m.length) : x = ld l m c i j := by
  have h1 := h.1
  rcases ends_ex (c := c) hi hj with h2 | ⟨a, b, ha, ha2, hb, hb2, hv⟩
  · have := h.2.1; omega
  · have := h.2.2 a b ha hb hb2 (.inl ha2); omega
theorem ld_zero (l m : List Int) (c : Cst) : ld l m c 0 0 = dist l m c := by simp [ld]
end Go.Proofs.Ytndfdminjegldaa
