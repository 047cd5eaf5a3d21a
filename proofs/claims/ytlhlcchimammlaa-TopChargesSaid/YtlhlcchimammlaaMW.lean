/- Mathematics: the first amount, step after step. -/
import Derived.Test.YtlhlcchimammlaaMV
namespace Go.Proofs.Ytlhlcchimammlaa

theorem res_hit {w : List Int} {N r j s : Nat} (hs : (w.getD 0 0).toNat = s) (hr : r < s) (hN : r + j * s ≤ N) (hp : mu w (r + j * s) = true) (hq : ∀ i, i < j → mu w (r + i * s) = false) : resV w N r = ((r + j * s : Nat) : Int) := by
  have key : (List.range (N + 1)).find? (fun n => decide (n % (w.getD 0 0).toNat = r) && mu w n) = some (r + j * s) := by
    rw [List.find?_range_eq_some]
    refine ⟨?_, List.mem_range.2 (by omega), fun n hn => ?_⟩
    · rw [hs, Nat.add_mul_mod_self_right, Nat.mod_eq_of_lt hr, hp]; simp
    · rw [hs]
      by_cases e : n % s = r
      · have e2 := Nat.div_add_mod n s
        have hlt : n / s < j := by
          rcases Nat.lt_or_ge (n / s) j with h | h
          · exact h
          · have := Nat.mul_le_mul_left s h
            rw [Nat.mul_comm s j] at this
            omega
        have := hq (n / s) hlt
        rw [show r + n / s * s = n by rw [Nat.mul_comm]; omega] at this
        simp [this]
      · simp [e]
  unfold resV
  rw [key]
  rfl
theorem res_none {w : List Int} {N r s : Nat} (hs : (w.getD 0 0).toNat = s) (hq : ∀ i, r + i * s ≤ N → mu w (r + i * s) = false) : resV w N r = -1 := by
  have key : (List.range (N + 1)).find? (fun n => decide (n % (w.getD 0 0).toNat = r) && mu w n) = none := by
    rw [List.find?_eq_none]
    intro n hn
    have hn := List.mem_range.1 hn
    rw [hs]
    by_cases e : n % s = r
    · have e2 := Nat.div_add_mod n s
      have e3 : r + n / s * s = n := by rw [Nat.mul_comm]; omega
      have := hq (n / s) (by omega)
      rw [e3] at this
      simp [this]
    · simp [e]
  unfold resV
  rw [key]
  rfl
/-- The residues, up to N. -/
def rssV (w : List Int) (N k : Nat) : List Int := (List.range k).map fun r => resV w N r
theorem rssV_len (w : List Int) (N k : Nat) : (rssV w N k).length = k := by simp [rssV]
theorem rssV_succ (w : List Int) (N k : Nat) : rssV w N (k + 1) = rssV w N k ++ [resV w N k] := by
  unfold rssV; rw [List.range_succ, List.map_append]; rfl
theorem rssV_at (w : List Int) (N : Nat) {k r : Nat} (h : r < k) : (rssV w N k).getD r 0 = resV w N r := by
  unfold rssV
  rw [List.getD_eq_getElem?_getD, List.getElem?_map, List.getElem?_range h]
  rfl
def rsdV (w : List Int) : List Int := if errW w = 0 then rssV w 870 (w.getD 0 0).toNat else []
theorem rsdV_ok {w : List Int} (h : errW w = 0) : rsdV w = rssV w 870 (w.getD 0 0).toNat := if_pos h
theorem rsdV_no {w : List Int} (h : errW w ≠ 0) : rsdV w = [] := if_neg h
theorem rssV_same {w : List Int} (hw : VW w) {N : Nat} (hN : 870 ≤ N) (k : Nat) : rssV w N k = rssV w 870 k := by
  unfold rssV
  exact List.map_congr_left fun r _ => res_same hw hN r
theorem rsdV_len (w : List Int) : (rsdV w).length ≤ 30 := by
  unfold rsdV
  split
  · rename_i h
    rw [rssV_len]
    have := (errW_vw.1 h).fst
    omega
  · simp
theorem resV_bd (w : List Int) (N r : Nat) : -1 ≤ resV w N r ∧ resV w N r ≤ N := by
  unfold resV
  cases h : (List.range (N + 1)).find? fun n => decide (n % (w.getD 0 0).toNat = r) && mu w n with
  | none => simp
  | some n =>
    obtain ⟨_, h2, _⟩ := find_least h
    simp
    omega
end Go.Proofs.Ytlhlcchimammlaa
