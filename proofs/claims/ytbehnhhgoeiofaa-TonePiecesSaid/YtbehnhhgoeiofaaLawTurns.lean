/- The walk of ToneTurns; append of a slice that may be empty. -/
import Derived.Test.YtbehnhhgoeiofaaWalkT
namespace Go.Proofs.Ytbehnhhgoeiofaa
open Go.RowKit

section
variable (w : World) {ops : Array Oper} {rest : List Oper} {o : Oper} {a : Act} {Q : Exit → Act → World → Prop}

theorem run_append_empty {P : Program} (t ty e : TypeId) (i : TypeInfo) (ht : P.underlying t = some (.slice e)) (hi : P.info? e = some i) (A : Option Addr) (n c : Nat) (xs : List Int) (B : Nat) (hown : Own w B A n c xs) (c2 : Nat) :
    (Builtin.append_ #[t, t] ty #[.slice A n c, .slice none 0 c2]).run P w = .ok (.slice A n c) w := by
  rcases hown.form with ⟨rfl, rfl, rfl, rfl⟩ | ⟨g, rfl, _, _, hnc, _⟩
  · simp [Builtin.append_, run_underlying ht, sizeOf, typeInfo, hi, Builtin.lenOf, Builtin.firstCells]
  · simp [Builtin.append_, run_underlying ht, sizeOf, typeInfo, hi, Builtin.lenOf, Builtin.firstCells, hnc, storeCells]

/-- out = append(out, ys...), ys any slice. -/
theorem wpList_appR (hgd : o.guard = none) (s x : Operand) (ho : o.op = .call { callee := .builtin .append, args := #[s, x], argTypes := #[22, 22] })
    (B n c : Nat) (A : Option Addr) (xs : List Int) (A2 : Option Addr) (m c2 : Nat) (ys : List Int) (hs : a.eval s = .slice A n c) (hx : a.eval x = .slice A2 m c2)
    (hown : Own w B A n c xs) (hrow : Row w A2 m c2 ys) (hm2 : m ≤ 1000000) (hn : n ≤ 1000000) (hB : B ≤ w.heap.size)
    (h : ∀ A' c' w', Own w' B A' (n + m) c' (xs ++ ys) → Below B w w' → wpList Try.prog ops Q rest (a.put o.dst (.slice A' (n + m) c')) w') :
    wpList Try.prog ops Q (o :: rest) a w := by
  by_cases hm : 1 ≤ m
  · exact wpList_appN w hgd s x ho B n c A xs A2 m c2 ys hs hx hown hrow hm hm2 hn hB fun A' c' w' h1 h2 _ => h A' c' w' h1 h2
  · obtain rfl : m = 0 := by omega
    obtain rfl : ys = [] := List.eq_nil_of_length_eq_zero hrow.length
    obtain ⟨i0, hi, hz0, hz1, hz2⟩ := info_parts info_int
    rw [List.append_nil] at h
    cases A2 with
    | none =>
      refine wpList_plain hgd fun K hK => ?_
      have hrun := run_append_empty w (P := Try.prog) 22 o.type 3 i0 Try.underlying22 hi A n c xs B hown c2
      unfold Oper.wp
      simp [execOp, ho, resolve, invoke, builtin, hs, hx, hrun, Result.andThen]
      exact hK _ _ (h A c w hown (Below.refl _ _))
    | some ad =>
      refine wpList_append_own (P := Try.prog) _ hgd s x 22 ho B 3 i0 (.int .i64 0) 1 8 Try.underlying22 hi hz0 hz1 hz2 rfl (by decide) _ n (ints xs) hs hown
        ad 0 c2 [] hx rfl (fun j u hu => by simp at hu) (by simp) (by unfold maxLen; omega) (by omega) hB ?_
      intro v' w' hown' hg _
      rw [List.append_nil] at hown'
      have hv : ∃ A' c', v' = .slice A' (n + 0) c' := by
        rcases hown'.2 with ⟨hv, hn0⟩ | ⟨g, cap, cur, hv, _⟩
        · exact ⟨none, 0, by rw [hv, hn0]⟩
        · exact ⟨_, _, hv⟩
      obtain ⟨A', c', rfl⟩ := hv
      refine h A' c' w' hown' ((Below.refl B w).grown hg hB fun k hk => ?_)
      rcases Own.form (xs := xs) hown with ⟨rfl, _⟩ | ⟨g, rfl, hbg, _⟩
      · simp [Value.ownBlock] at hk
      · simp [Value.ownBlock] at hk; omega
end

theorem name_turn {xs : List Int} (h : 1 ≤ xs.length) (i : Int) : nameL (pieceL xs i xs.length) = nameL xs := by
  have hl : (pieceL xs i xs.length).length = xs.length := pieceL_length _ _ _
  have := (name_alike (xs := xs) (ys := pieceL xs i xs.length) h (by omega)).2 ⟨i, fun j => by
    have e1 := Int.emod_lt_of_pos j (show (0 : Int) < xs.length by omega)
    have e2 := Int.emod_nonneg j (show (xs.length : Int) ≠ 0 by omega)
    show _ = (pieceL xs i xs.length).getD (j % ((pieceL xs i xs.length).length : Int)).toNat 0
    rw [hl, pieceL_getD (by omega), Int.toNat_of_nonneg e2]
    exact sec_congr (by rw [Int.add_emod_emod, Int.add_comm])⟩
  rw [eqL_iff] at this
  exact this.symm
theorem getD_bit'' {xs : List Int} (h : bitsB xs = true) (k : Nat) : xs.getD k 0 = 0 ∨ xs.getD k 0 = 1 := by
  by_cases hk : k < xs.length
  · exact bitsB_of_mem h (mem_getD hk)
  · left; rw [List.getD_eq_getElem?_getD, List.getElem?_eq_none (by omega)]; rfl
theorem bits_piece {xs : List Int} (h : bitsB xs = true) (i : Int) (n : Nat) : bitsB (pieceL xs i n) = true := by
  refine bitsB_true fun k hk => ?_
  rw [pieceL_length] at hk
  rw [pieceL_getD hk]
  exact (by unfold sec; exact getD_bit'' h _)
set_option maxHeartbeats 1000000 in
theorem ToneTurns_walk (A : Option Addr) (n c : Nat) (xs : List Int) (by_ : Int) (w : World) (h : Row w A n c xs) (_hi : (Lit.int .i64 by_).wf = true) :
    Calls Try.prog 5 #[.slice A n c, .int .i64 by_] w fun e w' => e = .returned (.bool true) ∧ Below w.heap.size w w' := by
  have HR := hide h
  have hl := h.length
  clear h
  by_cases hn : 200 < n
  · clear hl
    go_enter Try.func5, Try.ntmps5
    go_wp2_with (first | (go_at_call 15; refine (Long_yes _ _ _ _ hn).mono ?_; rintro e w' ⟨rfl, rfl⟩) | (go_at_call 16; refine (known_any _).mono ?_; rintro e w9 ⟨rfl, hb9⟩))
    go_ret
    exact ⟨rfl, hb9⟩
  · have hn' : n ≤ 200 := by omega
    have HP := hide (fun he : errOf xs = 0 => (⟨name_turn (errOf_zero he).1 by_, err_of (by rw [pieceL_length]; exact (errOf_zero he).1) (by rw [pieceL_length]; exact (errOf_zero he).2.1) (bits_piece (errOf_zero he).2.2 _ _)⟩ : nameL (pieceL xs by_ xs.length) = nameL xs ∧ errOf (pieceL xs by_ xs.length) = 0))
    have HL := hide hl
    clear hn hl
    go_enter Try.func5, Try.ntmps5
    go_wp2_with fail
    refine (Long_no _ _ _ _ hn').mono ?_
    rintro e w' ⟨rfl, rfl⟩
    go_wp2_with (at_builtin; refine wpList_appR _ rfl (.tmp 19) (.tmp 20) rfl w.heap.size 0 0 (some ⟨w.heap.size, 0, none⟩) [] A n c xs rfl rfl (Own.lit w [] (Nat.le_refl _) (by simp)) (HR.out.alloc _) (by omega) (by omega) (by simp) ?_; intro A1 c1 w1 o1 b1; rw [Nat.zero_add, List.nil_append] at o1; rw [Nat.zero_add])
    have B1 := ((Below.refl w.heap.size w).alloc (Nat.le_refl _) _).trans b1
    have z1 := B1.size
    clear b1
    refine (Turn_any _ _ _ xs _ _ o1.row (by omega)).mono ?_
    rintro e w2 ⟨A2, n2, c2, rfl, o2, b2⟩
    have C2 := b2
    have z2 := b2.size
    go_wp2_with fail
    refine (rTurn_any _ _ _ xs _ _ (HR.out.below (B1.trans (C2.mono z1)) (Nat.le_refl _)) (by omega)).mono ?_
    rintro e w3 ⟨A3, n3, c3, rfl, o3, b3⟩
    have C3 := C2.trans (b3.mono z2)
    have z3 := b3.size
    have o2 := o2.below b3 (Nat.le_refl _)
    go_wp2_with fail
    refine (SameInts_any _ _ _ _ _ _ _ _ _ o2.row o3.row).mono ?_
    rintro e w4 ⟨rfl, hd4⟩
    rw [eqL_self]
    have o2 := o2.below (hd4.below _) (Nat.le_refl _)
    have C4 := C3.trans (hd4.below _)
    have z4 := (hd4.below 0).size
    go_wp2_with fail
    refine (Name_any _ _ _ xs _ (HR.out.below (B1.trans (C4.mono z1)) (Nat.le_refl _)) (by omega)).mono ?_
    rintro e w5 ⟨A5, n5, c5, rfl, o5, b5⟩
    have C5 := C4.trans (b5.mono (by omega))
    have z5 := b5.size
    have o2 := o2.below b5 (Nat.le_refl _)
    have m2 : n2 ≤ 1000 := by
      have := o2.len
      by_cases he : errOf xs = 0
      · rw [okl_zero he, pieceL_length, HL.out] at this; omega
      · rw [okl_ne he] at this; simp at this; omega
    go_wp2_with fail
    refine (Name_any _ _ _ _ _ o2.row m2).mono ?_
    rintro e w6 ⟨A6, n6, c6, rfl, o6, b6⟩
    have C6 := C5.trans (b6.mono (by omega))
    have z6 := b6.size
    have o2 := o2.below b6 (Nat.le_refl _)
    have o5 := o5.below b6 (Nat.le_refl _)
    clear b2 b3 b5 b6 C2 C3 C4 C5
    by_cases he : errOf xs = 0
    · obtain ⟨g1, g2⟩ := HP.out he
      rw [okl_zero he] at o2 o5
      rw [okl_zero he, okl_zero g2, g1] at o6
      rw [okl_zero he, g2]
      go_wp2_with fail
      refine (SameInts_any _ _ _ _ _ _ _ _ _ o5.row o6.row).mono ?_
      rintro e w7 ⟨rfl, hd7⟩
      rw [eqL_self]
      have o2 := o2.below (hd7.below _) (Nat.le_refl _)
      have C7 := C6.trans (hd7.below _)
      have z7 := (hd7.below 0).size
      obtain ⟨gb, rfl, hgB, hgl, hgc, _⟩ := o2.addr (by have := o2.len; rw [pieceL_length] at this; have := (errOf_zero he).1; omega)
      go_wp2
      go_loopw [15] (fun i wr => ∃ (k : Nat) (ys : List Int), k ≤ n2 ∧ i = .int .i64 k ∧ Own wr w1.heap.size (some ⟨gb, 0, none⟩) n2 c2 ys ∧ Below w1.heap.size w1 wr) (fun i _ => n2 - (intOf i).toNat)
      case atStart => exact ⟨0, _, Nat.zero_le _, rfl, o2, C7⟩
      case round =>
        obtain ⟨k, ys, hk, rfl, hown, hb⟩ := hrel
        by_cases hlt : k < n2
        · have hcell := hown.cell hlt
          have hfz := hown.frozen k
          have hst := hown.stored k (-1)
          generalize ys.getD k 0 = old at hcell
          go_wp2
          go_roundw
          case rel => exact ⟨k + 1, _, by omega, by go_num, hst, hb.setCell hgB _⟩
          case measure => simp [intOf]; omega
        · have BB := B1.trans (hb.mono z1)
          have zz := hb.size
          go_wp2_with fail
          refine (SameInts_any _ _ _ xs _ _ _ xs _ (o1.row.below hb (Nat.le_refl _)) (HR.out.below BB (Nat.le_refl _))).mono ?_
          rintro e w8 ⟨rfl, hd8⟩
          rw [eqL_self]
          have z8 := (hd8.below 0).size
          have B8 := BB.trans (hd8.below _)
          go_wp2_with (first | (go_at_call 16; refine (known_any _).mono ?_; rintro e w9 ⟨rfl, hb9⟩))
          go_ret
          exact ⟨rfl, B8.trans (hb9.mono (by omega))⟩
    · have he' : (errOf xs != 0) = true := by simp [he]
      have hz : n2 = 0 := by
        have := o2.len
        rw [okl_ne he] at this; simpa using this.symm
      subst hz
      clear he
      go_wp2
      refine wp_loop_rounds 1 ?_
      rw [rounds_succ]
      have BB := B1.trans (C6.mono z1)
      have zz := C6.size
      go_wp2_with fail
      refine (SameInts_any _ _ _ xs _ _ _ xs _ (o1.row.below C6 (Nat.le_refl _)) (HR.out.below BB (Nat.le_refl _))).mono ?_
      rintro e w8 ⟨rfl, hd8⟩
      rw [eqL_self]
      have z8 := (hd8.below 0).size
      have B8 := BB.trans (hd8.below _)
      go_wp2_with (first | (go_at_call 16; refine (known_any _).mono ?_; rintro e w9 ⟨rfl, hb9⟩))
      go_ret
      exact ⟨rfl, B8.trans (hb9.mono (by omega))⟩

end Go.Proofs.Ytbehnhhgoeiofaa
