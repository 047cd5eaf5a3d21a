/- The walk of ToneTurns; append of a slice that may be empty. -/
import Derived.Test.YtbadihbcjdibeaaWalkT
namespace Go.Proofs.Ytbadihbcjdibeaa
open Go.RowKit

section
variable (w : World) {ops : Array Oper} {rest : List Oper} {o : Oper} {a : Act} {Q : Exit → Act → World → Prop}

theorem run_append_empty {P : Program} (t ty e : TypeId) (i : TypeInfo) (ht : P.underlying t = some (.slice e)) (hi : P.info? e = some i) (A : Option Addr) (n c : Nat) (xs : List Int) (B : Nat) (hown : Own w B A n c xs) (c2 : Nat) :
    (Builtin.append_ #[t, t] ty #[.slice A n c, .slice none 0 c2]).run P w = .ok (.slice A n c) w := by
  rcases hown.form with ⟨rfl, rfl, rfl, rfl⟩ | ⟨g, rfl, _, _, hnc, _⟩
  · simp [Builtin.append_, run_underlying ht, sizeOf, typeInfo, hi, Builtin.lenOf, Builtin.firstCells]
  · simp [Builtin.append_, run_underlying ht, sizeOf, typeInfo, hi, Builtin.lenOf, Builtin.firstCells, hnc, storeCells]

/-- out = append(out, ys...), ys any slice. -/
theorem wpList_appR (hgd : o.guard = none) (s x : Operand) (ho : o.op = .call { callee := .builtin .append, args := #[s, x], argTypes := #[23, 23] })
    (B n c : Nat) (A : Option Addr) (xs : List Int) (A2 : Option Addr) (m c2 : Nat) (ys : List Int) (hs : a.eval s = .slice A n c) (hx : a.eval x = .slice A2 m c2)
    (hown : Own w B A n c xs) (hrow : Row w A2 m c2 ys) (hm2 : m ≤ 1000000) (hn : n ≤ 1000000) (hB : B ≤ w.heap.size)
    (h : ∀ A' c' w', Own w' B A' (n + m) c' (xs ++ ys) → Below B w w' → wpList Try.prog ops Q rest (a.put o.dst (.slice A' (n + m) c')) w') :
    wpList Try.prog ops Q (o :: rest) a w := by
  by_cases hm : 1 ≤ m
  · exact wpList_appN w hgd s x ho B n c A xs A2 m c2 ys hs hx hown hrow hm hm2 hn hB fun A' c' w' h1 h2 _ => h A' c' w' h1 h2
  · obtain rfl : m = 0 := by omega
    obtain rfl : ys = [] := List.eq_nil_of_length_eq_zero hrow.length
    obtain ⟨i0, hi, hz0, hz1, hz2⟩ := info_parts info_int
    rw [List.append_nil] at h
    cases A2 with
    | none =>
      refine wpList_plain hgd fun K hK => ?_
      have hrun := run_append_empty w (P := Try.prog) 23 o.type 3 i0 Try.underlying23 hi A n c xs B hown c2
      unfold Oper.wp
      simp [execOp, ho, resolve, invoke, builtin, hs, hx, hrun, Result.andThen]
      exact hK _ _ (h A c w hown (Below.refl _ _))
    | some ad =>
      refine wpList_append_own (P := Try.prog) _ hgd s x 23 ho B 3 i0 (.int .i64 0) 1 8 Try.underlying23 hi hz0 hz1 hz2 rfl (by decide) _ n (ints xs) hs hown
        ad 0 c2 [] hx rfl (fun j u hu => by simp at hu) (by simp) (by unfold maxLen; omega) (by omega) hB ?_
      intro v' w' hown' hg _
      rw [List.append_nil] at hown'
      have hv : ∃ A' c', v' = .slice A' (n + 0) c' := by
        rcases hown'.2 with ⟨hv, hn0⟩ | ⟨g, cap, cur, hv, _⟩
        · exact ⟨none, 0, by rw [hv, hn0]⟩
        · exact ⟨_, _, hv⟩
      obtain ⟨A', c', rfl⟩ := hv
      refine h A' c' w' hown' ((Below.refl B w).grown hg hB fun k hk => ?_)
      rcases Own.form (xs := xs) hown with ⟨rfl, _⟩ | ⟨g, rfl, hbg, _⟩
      · simp [Value.ownBlock] at hk
      · simp [Value.ownBlock] at hk; omega
end

theorem name_turn {xs : List Int} (h : 1 ≤ xs.length) (i : Int) : nameL (pieceL xs i xs.length) = nameL xs := by
  have hl : (pieceL xs i xs.length).length = xs.length := pieceL_length _ _ _
  have := (name_alike (xs := xs) (ys := pieceL xs i xs.length) h (by omega)).2 ⟨i, fun j => by
    have e1 := Int.emod_lt_of_pos j (show (0 : Int) < xs.length by omega)
    have e2 := Int.emod_nonneg j (show (xs.length : Int) ≠ 0 by omega)
    show _ = (pieceL xs i xs.length).getD (j % ((pieceL xs i xs.length).length : Int)).toNat 0
    rw [hl, pieceL_getD (by omega), Int.toNat_of_nonneg e2]
    exact sec_congr (by rw [Int.add_emod_emod, Int.add_comm])⟩
  rw [eqL_iff] at this
  exact this.symm
theorem getD_bit'' {xs : List Int} (h : bitsB xs = true) (k : Nat) : xs.getD k 0 = 0 ∨ xs.getD k 0 = 1 := by
  by_cases hk : k < xs.length
  · exact bitsB_of_mem h (mem_getD hk)
  · left; rw [List.getD_eq_getElem?_getD, List.getElem?_eq_none (by omega)]; rfl
theorem bits_piece {xs : List Int} (h : bitsB xs = true) (i : Int) (n : Nat) : bitsB (pieceL xs i n) = true := by
  refine bitsB_true fun k hk => ?_
  rw [pieceL_length] at hk
  rw [pieceL_getD hk]
  exact (by unfold sec; exact getD_bit'' h _)
end Go.Proofs.Ytbadihbcjdibeaa
