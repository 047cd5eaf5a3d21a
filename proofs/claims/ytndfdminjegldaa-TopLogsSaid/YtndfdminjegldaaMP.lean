/- Mathematics: which lists are part of a log. -/
import Derived.Test.YtndfdminjegldaaME
import Derived.Test.YtndfdminjegldaaMM
namespace Go.Proofs.Ytndfdminjegldaa

def fnd (p l : List Int) : Nat → Nat
  | 0 => 0
  | t + 1 => if fnd p l t < p.length ∧ p.getD (fnd p l t) 0 = l.getD t 0 then fnd p l t + 1 else fnd p l t
theorem fnd_succ (p l : List Int) (t : Nat) : fnd p l (t + 1) = if fnd p l t < p.length ∧ p.getD (fnd p l t) 0 = l.getD t 0 then fnd p l t + 1 else fnd p l t := rfl
theorem fnd_le (p l : List Int) : ∀ t, fnd p l t ≤ p.length
  | 0 => Nat.zero_le _
  | t + 1 => by
    have := fnd_le p l t
    rw [fnd_succ]
    split <;> omega
theorem fnd_full {p l : List Int} {t : Nat} (h : fnd p l t = p.length) : ∀ u, t ≤ u → fnd p l u = p.length := fun u hu => by
  induction u with
  | zero => obtain rfl : t = 0 := by omega
            exact h
  | succ u ih =>
    by_cases e : t = u + 1
    · subst e; exact h
    · have := ih (by omega)
      rw [fnd_succ, if_neg (by omega)]; exact this
def partB (p l : List Int) : Bool := decide (fnd p l l.length = p.length)
theorem take_get {xs : List Int} {k : Nat} (h : k < xs.length) : xs.take (k + 1) = xs.take k ++ [xs.getD k 0] := by
  rw [List.take_succ_eq_append_getElem h, List.getD_eq_getElem?_getD, List.getElem?_eq_getElem h]
  rfl
theorem fnd_sub (p l : List Int) : ∀ t, t ≤ l.length → (p.take (fnd p l t)).Sublist (l.take t)
  | 0, _ => by simp [fnd]
  | t + 1, h => by
    have ih := fnd_sub p l t (by omega)
    rw [take_get (xs := l) (k := t) (by omega), fnd_succ]
    split
    · rename_i h1
      rw [take_get h1.1, h1.2]
      exact ih.append (List.Sublist.refl _)
    · exact ih.trans (List.sublist_append_left _ _)
theorem part_sub {p l : List Int} (h : partB p l = true) : p.Sublist l := by
  have h1 := of_decide_eq_true h
  have := fnd_sub p l l.length (Nat.le_refl _)
  rw [h1, List.take_length, List.take_length] at this
  exact this
def errP (l m p : List Int) : Int := if errB l m = 0 then (if (partB p l && partB p m) = true then 0 else 7) else errB l m
theorem errP_no {l m p : List Int} (h : errB l m ≠ 0) : errP l m p = errB l m := if_neg h
theorem errP_yes {l m p : List Int} (h : errB l m = 0) (h1 : partB p l = true) (h2 : partB p m = true) : errP l m p = 0 := by unfold errP; rw [if_pos h, h1, h2]; rfl
theorem errP_l {l m p : List Int} (h : errB l m = 0) (h1 : partB p l = false) : errP l m p = 7 := by unfold errP; rw [if_pos h, h1]; rfl
theorem errP_m {l m p : List Int} (h : errB l m = 0) (h2 : partB p m = false) : errP l m p = 7 := by unfold errP; rw [if_pos h, h2, Bool.and_false]; rfl
theorem errP_ok {l m p : List Int} (h : errP l m p = 0) : errB l m = 0 ∧ p.length ≤ cmn l m := by
  unfold errP at h
  split at h
  · rename_i h1
    split at h
    · rename_i h2
      rw [Bool.and_eq_true] at h2
      exact ⟨h1, (cmn_spec l m).2.1 p (part_sub h2.1) (part_sub h2.2)⟩
    · omega
  · contradiction
def comV (l m : List Int) : Int := if errB l m = 0 then (cmn l m : Int) else 0
theorem comV_ok {l m : List Int} (h : errB l m = 0) : comV l m = cmn l m := if_pos h
theorem comV_no {l m : List Int} (h : errB l m ≠ 0) : comV l m = 0 := if_neg h
end Go.Proofs.Ytndfdminjegldaa
