/- A slice of slices of integers that came in; which lists of tones are right. -/
import Derived.Test.YtbadihbcjdibeaaLawRepeats
namespace Go.Proofs.Ytbadihbcjdibeaa
open Go.RowKit

/-- The slice of slices '.slice A n c' reads as the rows ls in the world w. -/
structure GridAt (w : World) (A : Option Addr) (n c : Nat) (ls : List (List Int)) (b off : Nat) : Prop where
  len : ls.length = n
  cap : n ≤ c
  max : c ≤ 9223372036854775807
  at_ : 0 < n → A = some ⟨b, off, none⟩
  lt : 0 < n → b < w.heap.size
  cell : ∀ k, k < n → ∃ A' m c', w.cell? ⟨b, off + k, none⟩ = some (.slice A' m c') ∧ Row w A' m c' (ls.getD k [])
def Grid (w : World) (A : Option Addr) (n c : Nat) (ls : List (List Int)) : Prop := ∃ b off, GridAt w A n c ls b off
theorem GridAt.below {w w' : World} {A : Option Addr} {n c b off : Nat} {ls : List (List Int)} {B : Nat} (h : GridAt w A n c ls b off) (hb : Below B w w') (hB : w.heap.size ≤ B) : GridAt w' A n c ls b off :=
  ⟨h.len, h.cap, h.max, h.at_, fun hn => Nat.lt_of_lt_of_le (h.lt hn) hb.size, fun k hk => by
    obtain ⟨A', m, c', h1, h2⟩ := h.cell k hk
    exact ⟨A', m, c', by rw [hb.cell (p := ⟨b, off + k, none⟩) (Nat.lt_of_lt_of_le (h.lt (by omega)) hB)]; exact h1, h2.below hb hB⟩⟩
theorem Grid.below {w w' : World} {A : Option Addr} {n c : Nat} {ls : List (List Int)} {B : Nat} (h : Grid w A n c ls) (hb : Below B w w') (hB : w.heap.size ≤ B) : Grid w' A n c ls := by
  obtain ⟨b, off, g⟩ := h
  exact ⟨b, off, g.below hb hB⟩
theorem Grid.length {w : World} {A : Option Addr} {n c : Nat} {ls : List (List Int)} (h : Grid w A n c ls) : ls.length = n := by
  obtain ⟨b, off, g⟩ := h
  exact g.len

def OkTo (ls : List (List Int)) (k : Nat) : Prop := ∀ j, j < k → errOf (ls.getD j []) = 0
def Small (ls : List (List Int)) (m : Nat) : Prop := ∀ j, j < ls.length → (ls.getD j []).length ≤ m
def errLs (ls : List (List Int)) : Int := if 6 < ls.length then 3 else ((ls.find? fun x => errOf x != 0).map errOf).getD 0
theorem okTo_zero (ls : List (List Int)) : OkTo ls 0 := fun j h => by omega
theorem okTo_succ {ls : List (List Int)} {k : Nat} (h : OkTo ls k) (e : errOf (ls.getD k []) = 0) : OkTo ls (k + 1) := by
  intro j hj
  by_cases hk : j = k
  · subst hk; exact e
  · exact h j (by omega)
theorem errLs_large {ls : List (List Int)} (h : 6 < ls.length) : errLs ls = 3 := by unfold errLs; rw [if_pos h]
theorem rowI_get {ls : List (List Int)} {k : Nat} (h : k < ls.length) : ls.getD k [] = ls[k] := by simp [List.getD_eq_getElem?_getD, h]
theorem errLs_hit {ls : List (List Int)} {k : Nat} (h : ls.length ≤ 6) (hk : k < ls.length) (h0 : OkTo ls k) (h1 : errOf (ls.getD k []) ≠ 0) : errLs ls = errOf (ls.getD k []) := by
  unfold errLs
  rw [if_neg (by omega)]
  have hf : ls.find? (fun x => errOf x != 0) = some ls[k] := by
    rw [List.find?_eq_some_iff_getElem]
    refine ⟨by rw [← rowI_get hk]; simpa using h1, k, hk, rfl, fun j hj => ?_⟩
    have := h0 j hj
    rw [rowI_get (by omega)] at this
    simp [this]
  rw [hf, rowI_get hk]
  rfl
theorem errLs_ok {ls : List (List Int)} (h : ls.length ≤ 6) (h0 : OkTo ls ls.length) : errLs ls = 0 := by
  unfold errLs
  rw [if_neg (by omega)]
  have hf : ls.find? (fun x => errOf x != 0) = none := by
    rw [List.find?_eq_none]
    intro x hx
    obtain ⟨k, hk, rfl⟩ := List.getElem_of_mem hx
    have := h0 k hk
    rw [rowI_get hk] at this
    simp [this]
  rw [hf]
  rfl
theorem errLs_zero {ls : List (List Int)} (h : errLs ls = 0) : ls.length ≤ 6 ∧ OkTo ls ls.length := by
  by_cases hl : 6 < ls.length
  · rw [errLs_large hl] at h; cases h
  · refine ⟨by omega, fun j hj => ?_⟩
    false_or_by_contra
    rename_i hne
    have : ∃ k, k < ls.length ∧ OkTo ls k ∧ errOf (ls.getD k []) ≠ 0 := by
      have key : ∀ m, m ≤ ls.length → OkTo ls m ∨ ∃ k, k < ls.length ∧ OkTo ls k ∧ errOf (ls.getD k []) ≠ 0 := by
        intro m
        induction m with
        | zero => intro _; exact .inl (okTo_zero ls)
        | succ m ih =>
          intro hm
          rcases ih (by omega) with g | g
          · by_cases e : errOf (ls.getD m []) = 0
            · exact .inl (okTo_succ g e)
            · exact .inr ⟨m, by omega, g, e⟩
          · exact .inr g
      rcases key ls.length (Nat.le_refl _) with g | g
      · exact absurd (g j hj) hne
      · exact g
    obtain ⟨k, hk, h1, h2⟩ := this
    rw [errLs_hit (by omega) hk h1 h2] at h
    exact h2 h

set_option maxHeartbeats 1000000 in
theorem validateList_any (A : Option Addr) (n c : Nat) (ls : List (List Int)) (w : World) (h : Grid w A n c ls) (hs : Small ls 200) :
    Calls Try.prog 31 #[.slice A n c] w fun e w' => e = .returned (.int .i64 (errLs ls)) ∧ w = w' := by
  have HL := hide h.length
  obtain ⟨b, off, g⟩ := h
  have g1 := g.cap
  have g2 := g.max
  have G := hide g
  clear g
  by_cases hl : 6 < n
  · have HE := hide (errLs_large (ls := ls) (by rw [HL.out]; exact hl))
    go_enter Try.func31, Try.ntmps31
    go_wp2
    go_ret
    exact ⟨ret_i64 HE.out.symm, rfl⟩
  · have hl2 : n ≤ 6 := by omega
    clear hl
    go_enter Try.func31, Try.ntmps31
    go_wp2
    go_loop [11] (fun i => ∃ k : Nat, k ≤ n ∧ i = .int .i64 k ∧ OkTo ls k) (fun i => n - (intOf i).toNat)
    case atStart => exact ⟨0, Nat.zero_le _, rfl, okTo_zero ls⟩
    case round =>
      obtain ⟨k, hk, rfl, hok⟩ := hrel
      have HOK := hide hok
      clear hok
      by_cases hlt : k < n
      · obtain ⟨A', m, c', hc, hrow⟩ := G.out.cell k hlt
        obtain rfl := G.out.at_ (by omega)
        have HRow := hide hrow
        have hm : m ≤ 1000 := by have := hs k (by rw [HL.out]; exact hlt); rw [hrow.length] at this; omega
        clear hrow
        by_cases he : errOf (ls.getD k []) = 0
        · have HE := hide he
          clear he
          go_wp2_with (first | (go_at_call 40; refine (Validate_any _ _ _ (ls.getD k []) _ HRow.out (by omega)).mono ?_; rintro e w' ⟨rfl, rfl⟩; rw [HE.out]))
          go_round
          case rel => exact ⟨k + 1, by omega, by go_num, okTo_succ HOK.out HE.out⟩
          case measure => simp [intOf]; omega
        · have HE := hide (errLs_hit (by rw [HL.out]; exact hl2) (by rw [HL.out]; exact hlt) HOK.out he)
          rw [← HE.out] at he
          have he' : (errLs ls != 0) = true := by simp [he]
          go_wp2_with (first | (go_at_call 40; refine (Validate_any _ _ _ (ls.getD k []) _ HRow.out (by omega)).mono ?_; rintro e w' ⟨rfl, rfl⟩; rw [← HE.out]))
          go_ret
          exact ⟨rfl, rfl⟩
      · obtain rfl : k = n := by omega
        go_wp2
        go_ret
        exact ⟨ret_i64 (errLs_ok (by rw [HL.out]; exact hl2) (by rw [HL.out]; exact HOK.out)).symm, rfl⟩

set_option maxHeartbeats 1000000 in
theorem listed_any (A : Option Addr) (n c : Nat) (ls : List (List Int)) (w : World) (h : Grid w A n c ls) (hs : Small ls 200) :
    Calls Try.prog 34 #[.slice A n c] w fun e w' => e = .returned (.int .i64 (errLs ls)) ∧ w = w' := by
  have HL := hide h.length
  obtain ⟨b, off, g⟩ := h
  have g1 := g.cap
  have g2 := g.max
  have G := hide g
  clear g
  by_cases hl : 6 < n
  · have HE := hide (errLs_large (ls := ls) (by rw [HL.out]; exact hl))
    go_enter Try.func34, Try.ntmps34
    go_wp2
    go_ret
    exact ⟨ret_i64 HE.out.symm, rfl⟩
  · have hl2 : n ≤ 6 := by omega
    clear hl
    go_enter Try.func34, Try.ntmps34
    go_wp2
    go_loop [3] (fun i => ∃ k : Nat, k ≤ n ∧ i = .int .i64 k ∧ OkTo ls k) (fun i => n - (intOf i).toNat)
    case atStart => exact ⟨0, Nat.zero_le _, rfl, okTo_zero ls⟩
    case round =>
      obtain ⟨k, hk, rfl, hok⟩ := hrel
      have HOK := hide hok
      clear hok
      by_cases hlt : k < n
      · obtain ⟨A', m, c', hc, hrow⟩ := G.out.cell k hlt
        obtain rfl := G.out.at_ (by omega)
        have HRow := hide hrow
        have hm : m ≤ 1000 := by have := hs k (by rw [HL.out]; exact hlt); rw [hrow.length] at this; omega
        clear hrow
        by_cases he : errOf (ls.getD k []) = 0
        · have HE := hide he
          clear he
          go_wp2_with (first | (go_at_call 43; refine (rValidate_any _ _ _ (ls.getD k []) _ HRow.out (by omega)).mono ?_; rintro e w' ⟨rfl, rfl⟩; rw [HE.out]))
          go_round
          case rel => exact ⟨k + 1, by omega, by go_num, okTo_succ HOK.out HE.out⟩
          case measure => simp [intOf]; omega
        · have HE := hide (errLs_hit (by rw [HL.out]; exact hl2) (by rw [HL.out]; exact hlt) HOK.out he)
          rw [← HE.out] at he
          have he' : (errLs ls != 0) = true := by simp [he]
          go_wp2_with (first | (go_at_call 43; refine (rValidate_any _ _ _ (ls.getD k []) _ HRow.out (by omega)).mono ?_; rintro e w' ⟨rfl, rfl⟩; rw [← HE.out]))
          go_ret
          exact ⟨rfl, rfl⟩
      · obtain rfl : k = n := by omega
        go_wp2
        go_ret
        exact ⟨ret_i64 (errLs_ok (by rw [HL.out]; exact hl2) (by rw [HL.out]; exact HOK.out)).symm, rfl⟩

def ManyB (ls : List (List Int)) : Prop := 50 < ls.length ∨ ∃ j, j < ls.length ∧ 200 < (ls.getD j []).length
theorem small_of {ls : List (List Int)} (h : ¬ ManyB ls) : ls.length ≤ 50 ∧ Small ls 200 := by
  refine ⟨?_, fun j hj => ?_⟩
  · false_or_by_contra
    exact h (.inl (by omega))
  · false_or_by_contra
    exact h (.inr ⟨j, hj, by omega⟩)

set_option maxHeartbeats 1000000 in
theorem Many_any (A : Option Addr) (n c : Nat) (ls : List (List Int)) (w : World) (h : Grid w A n c ls) :
    Calls Try.prog 7 #[.slice A n c] w fun e w' => w = w' ∧ ((e = .returned (.bool false) ∧ ls.length ≤ 50 ∧ Small ls 200) ∨ e = .returned (.bool true)) := by
  have HL := hide h.length
  obtain ⟨b, off, g⟩ := h
  have g1 := g.cap
  have g2 := g.max
  have G := hide g
  clear g
  by_cases hl : 50 < n
  · go_enter Try.func7, Try.ntmps7
    go_wp2
    go_ret
    exact ⟨rfl, .inr rfl⟩
  · have hl2 : n ≤ 50 := by omega
    clear hl
    go_enter Try.func7, Try.ntmps7
    go_wp2
    go_loop [3] (fun i => ∃ k : Nat, k ≤ n ∧ i = .int .i64 k ∧ Hid (∀ j, j < k → (ls.getD j []).length ≤ 200)) (fun i => n - (intOf i).toNat)
    case atStart => exact ⟨0, Nat.zero_le _, rfl, hide fun j hj => by omega⟩
    case round =>
      obtain ⟨k, hk, rfl, HS⟩ := hrel
      by_cases hlt : k < n
      · obtain ⟨A', m, c', hc, hrow⟩ := G.out.cell k hlt
        obtain rfl := G.out.at_ (by omega)
        have HM := hide hrow.length
        clear hrow
        by_cases hm : 200 < m
        · go_wp2_with (go_at_call 8; refine (Long_yes _ _ _ _ hm).mono ?_; rintro e w' ⟨rfl, rfl⟩)
          go_ret
          exact ⟨rfl, .inr rfl⟩
        · have hm2 : m ≤ 200 := by omega
          clear hm
          go_wp2_with (go_at_call 8; refine (Long_no _ _ _ _ hm2).mono ?_; rintro e w' ⟨rfl, rfl⟩)
          go_round
          case rel => exact ⟨k + 1, by omega, by go_num, hide fun j hj => by
            by_cases e : j = k
            · subst e; rw [HM.out]; exact hm2
            · exact HS.out j (by omega)⟩
          case measure => simp [intOf]; omega
      · obtain rfl : k = n := by omega
        go_wp2
        go_ret
        exact ⟨rfl, .inl ⟨rfl, by rw [HL.out]; exact hl2, fun j hj => HS.out j (by rw [← HL.out]; exact hj)⟩⟩

end Go.Proofs.Ytbadihbcjdibeaa
