/- Sets as numbers: each set of the first n hours is a number below 2^n; the least cost over all of them is the least cost. -/
import Derived.Test.YtjhnfcmijijdcaaWalkLe
namespace Go.Proofs.Ytjhnfcmijijdcaa
open Go.RowKit

theorem bits_one (m : Nat) (h : m < 4611686018427387904) : bits BinOp.and IntKind.i64 (m : Int) 1 = ((m % 2 : Nat) : Int) := by
  have h1 : (BitVec.ofInt 64 (m : Int)).toNat = m := by
    rw [BitVec.ofInt_natCast, BitVec.toNat_ofNat]
    exact Nat.mod_eq_of_lt (by omega)
  have h2 : (BitVec.ofInt 64 (1 : Int)).toNat = 1 := by rfl
  show IntKind.i64.wrap ((BitVec.ofInt 64 (m : Int) &&& BitVec.ofInt 64 (1 : Int)).toNat : Int) = _
  rw [BitVec.toNat_and, h1, h2, Nat.and_one_is_mod]
  exact IntWalk.i64_in _ (by omega)
theorem bitS_eq (x s : Nat) (hx : x ≤ 4096) (hs : s < 64) : bitS x s = x.testBit s := by
  have wq : IntKind.u64.wrap (s : Int) = s := IntWalk.u64_in _ (by omega)
  have wm : min s 64 = s := by omega
  have e : (x : Int) / 2 ^ s = ((x / 2 ^ s : Nat) : Int) := by simp
  have le : x / 2 ^ s ≤ x := Nat.div_le_self _ _
  unfold bitS
  rw [wq, Int.toNat_natCast, wm, e, bits_one _ (by omega), Nat.testBit_eq_decide_div_mod_eq]
  by_cases g : x / 2 ^ s % 2 = 1
  · rw [g]; simp
  · have : x / 2 ^ s % 2 = 0 := by omega
    rw [this]; simp
theorem set_num (P : Nat → Bool) : ∀ n : Nat, ∃ x, x < 2 ^ n ∧ ∀ s, s < n → x.testBit s = P s := by
  intro n
  induction n with
  | zero => exact ⟨0, by simp, fun s hs => by omega⟩
  | succ n ih =>
    obtain ⟨x, h1, h2⟩ := ih
    refine ⟨2 ^ n * (P n).toNat + x, ?_, fun s hs => ?_⟩
    · have : (P n).toNat ≤ 1 := by cases P n <;> simp
      have e : 2 ^ (n + 1) = 2 ^ n + 2 ^ n := by rw [Nat.pow_succ]; omega
      have : 2 ^ n * (P n).toNat ≤ 2 ^ n * 1 := Nat.mul_le_mul_left _ this
      omega
    · rw [Nat.testBit_two_pow_mul_add _ h1]
      by_cases e : s < n
      · rw [if_pos e, h2 s e]
      · obtain rfl : s = n := by omega
        rw [if_neg e, Nat.sub_self]
        cases P s <;> rfl

theorem setC_eq (t : Tk) (n j : Nat) : t.setC n j = t.cost (t.asg (t.ast (bitS j)) n) n := cost_congr fun i hi => Tk.aL_get _ _ hi
theorem setC_ge {t : Tk} {n : Nat} (ok : t.Ok n) (hn : n ≤ 12) (j : Nat) : t.f n ≤ t.setC n j := by
  rw [setC_eq]
  exact ok.least_le (Tk.asg_right ok hn fun u _ => t.ast_le _ u)
theorem lb_ge {t : Tk} {n : Nat} (ok : t.Ok n) (hn : n ≤ 12) : ∀ j : Nat, t.lb n j = -1 ∨ t.f n ≤ t.lb n j := by
  intro j
  induction j with
  | zero => left; rw [Tk.lb]
  | succ j ih =>
    have g := setC_ge ok hn j
    by_cases h : t.Can (bitS j) n
    · by_cases e : t.lb n j < 0 ∨ t.setC n j < t.lb n j
      · right; rw [Tk.lb_new h e]; exact g
      · rw [Tk.lb_old h e]; exact ih
    · rw [Tk.lb_no h]; exact ih
theorem lb_le {t : Tk} {n : Nat} (ok : t.Ok n) (hn : n ≤ 12) (f0 : 0 ≤ t.f n) {i : Nat} (hi : t.Can (bitS i) n) : ∀ j : Nat, i < j → 0 ≤ t.lb n j ∧ t.lb n j ≤ t.setC n i := by
  intro j
  induction j with
  | zero => intro h; omega
  | succ j ih =>
    intro hij
    have g := setC_ge ok hn j
    by_cases e : i = j
    · subst e
      by_cases q : t.lb n i < 0 ∨ t.setC n i < t.lb n i
      · rw [Tk.lb_new hi q]; omega
      · rw [Tk.lb_old hi q]; omega
    · have ih := ih (by omega)
      by_cases h : t.Can (bitS j) n
      · by_cases q : t.lb n j < 0 ∨ t.setC n j < t.lb n j
        · rw [Tk.lb_new h q]; omega
        · rw [Tk.lb_old h q]; exact ih
      · rw [Tk.lb_no h]; exact ih
theorem near_congr (t : Tk) {S S' : Nat → Bool} (u : Nat) : ∀ {k : Nat}, (∀ s, s < k → S s = S' s) → t.near S u k = t.near S' u k := by
  intro k
  induction k with
  | zero => intro _; rfl
  | succ k ih =>
    intro h
    have a := ih fun s hs => h s (by omega)
    show (if _ then _ else _) = (if _ then _ else _)
    rw [a, h k (by omega)]
end Go.Proofs.Ytjhnfcmijijdcaa
