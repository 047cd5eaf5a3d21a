/- The plan of a set of starts as a list, the sets as numbers. Definitions for the walk of the document's own at. -/
import Derived.Test.YtjhnfcmijijdcaaMathH
import Derived.BigQuiet
namespace Go.Proofs.Ytjhnfcmijijdcaa
open Go.RowKit

/-- Whether the hour s is in the set that the number x stands for, as the program asks it. -/
def bitS (x : Nat) (s : Nat) : Bool := bits BinOp.and IntKind.i64 ((x : Int) / 2 ^ min (IntKind.u64.wrap (s : Int)).toNat 64) 1 == 1
def nearI (o : Option Nat) : Int := match o with
  | none => -1
  | some b => (b : Int)
def Tk.aL (t : Tk) (a : Nat → Nat) (n k : Nat) : List Int := (List.range n).map (t.asg a k)
theorem Tk.aL_len (t : Tk) (a : Nat → Nat) (n k : Nat) : (t.aL a n k).length = n := by simp [Tk.aL]
theorem Tk.aL_get (t : Tk) (a : Nat → Nat) {n k i : Nat} (h : i < n) : (t.aL a n k).getD i 0 = t.asg a k i := by simp [Tk.aL, List.getD_eq_getElem?_getD, h]
theorem Tk.aL_zero (t : Tk) (a : Nat → Nat) (n : Nat) : t.aL a n 0 = List.replicate n 0 := by
  apply list_ext_getD (by simp [Tk.aL])
  intro j hj
  rw [Tk.aL_len] at hj
  rw [Tk.aL_get _ _ hj, List.getD_eq_getElem?_getD, List.getElem?_replicate, if_pos hj]
  rfl
theorem Tk.aL_none (t : Tk) (a : Nat → Nat) {n k : Nat} (h : t.d k = 0) : t.aL a n (k + 1) = t.aL a n k := by
  apply list_ext_getD (by simp [Tk.aL])
  intro j hj
  rw [Tk.aL_len] at hj
  rw [Tk.aL_get _ _ hj, Tk.aL_get _ _ hj, Tk.asg_succ, h]
  split <;> omega
theorem Tk.aL_next (t : Tk) (a : Nat → Nat) {n k : Nat} {x : Int} (h : a k < n) (hx : (t.aL a n k).getD (a k) 0 + t.d k = x) : (t.aL a n k).set (a k) x = t.aL a n (k + 1) := by
  apply list_ext_getD (by simp [Tk.aL])
  intro j hj
  have hj' : j < n := by simpa [Tk.aL] using hj
  rw [Tk.aL_get _ _ hj', Tk.asg_succ]
  by_cases e : a k = j
  · subst e
    rw [getD_set_eq (by simp [Tk.aL]; exact h), if_pos rfl, ← Tk.aL_get t a h]
    exact hx.symm
  · rw [getD_set_ne e, Tk.aL_get _ _ hj', if_neg e]
    omega
theorem Tk.asg_bound {t : Tk} {n : Nat} (ok : t.Ok n) (hn : n ≤ 12) {a : Nat → Nat} {m : Nat} (hm : m ≤ n) (i : Nat) : 0 ≤ t.asg a m i ∧ t.asg a m i ≤ 600 := by
  refine ⟨sm_nonneg fun u _ hu => by have := ok.d0 u (by omega); split <;> omega, ?_⟩
  have g : t.asg a m i ≤ t.units 0 m := sm_mono fun u _ hu => by
    have := ok.d0 u (by omega)
    split <;> omega
  have := ok.units1 0 hm hn
  omega
def AtPost (t : Tk) (S : Nat → Bool) (n : Nat) (w : World) (e : Ending) (w' : World) : Prop :=
  Below w.heap.size w w' ∧ ((¬ t.Can S n ∧ e = .returned (.tuple #[.slice none 0 0, .bool false])) ∨
    (t.Can S n ∧ ∃ A c, e = .returned (.tuple #[.slice A n c, .bool true]) ∧ Own w' w.heap.size A n c (t.aL (t.ast S) n n)))

end Go.Proofs.Ytjhnfcmijijdcaa
