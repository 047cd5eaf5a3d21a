/- Without on both sides. -/
import Derived.Test.YtpkjgnllkaafkaaWalkMj
import Derived.Lib.AppendZeros
namespace Go.Proofs.Ytpkjgnllkaafkaa
open Go.RowKit

def GrowPost (w : World) (e : Ending) (w' : World) : Prop := ∃ (A : Option Addr) (c : Nat), e = .returned (.slice A 0 c) ∧ Own E3 w' w.heap.size 57 A 0 c [] ∧ Below w.heap.size w w'
theorem info_shift' : ∃ i, Try.prog.info? 57 = some i ∧ i.zero = some (.agg #[.int .i64 0, .int .i64 0, .int .i64 0]) ∧ i.size = 3 ∧ i.bytes = 24 := by
  obtain ⟨i0, hi, h1, h2, h3⟩ := info_parts info_shift
  exact ⟨i0, hi, h1, h2, h3⟩

set_option maxHeartbeats 1000000 in
theorem Grow_any (m : Nat) (w : World) (hm : m ≤ 1000) :
    Calls Try.prog 98 #[.slice none 0 0, .int .i64 m] w (GrowPost w) := by
  by_cases h0 : m = 0
  · subst h0
    go_enter Try.func98, Try.ntmps98
    go_wp2_with fail
    go_ret
    exact ⟨none, 0, rfl, Own.nil _ _ _ _, Below.refl _ _⟩
  · obtain ⟨i0, hi, h1, h2, h3⟩ := info_shift'
    have hp : (0 : Int) < (m : Int) := by omega
    have hz : (Value.agg #[.int .i64 0, .int .i64 0, .int .i64 0]).cells.size = 3 := rfl
    have hge := grownCap_ge w m 0 57
    have hle := grownCap_le_maxLen w m 0 57 (by unfold maxLen; omega)
    have HOW := hide (show Own E3 (w.drew.alloc (.cells (Builtin.zeroCells (Value.agg #[.int .i64 0, .int .i64 0, .int .i64 0]).cells m ++ Builtin.zeroCells (Value.agg #[.int .i64 0, .int .i64 0, .int .i64 0]).cells (grownCap w m 0 57 - m)) 57)) w.heap.size 57 (some ⟨w.heap.size, 0, none⟩) 0 (grownCap w m 0 57) [] from
      ⟨rfl, rfl, .inr ⟨w.heap.size, _, _, rfl, Nat.le_refl _, heap_alloc_new w.drew _, Nat.zero_le _, hle, by rw [Array.size_append, size_zeroCells, size_zeroCells, hz]; show m * 3 + _ * 3 = _ * 3; rw [← Nat.add_mul, Nat.add_sub_cancel' hge], rfl⟩⟩)
    have HRUN := hide (fun ty => Lib.run_append_nil_zeros (P := Try.prog) w 22 3 ty 57 i0 _ .i64 .i64 Try.underlying22 Try.underlying3 hi h1 m (by omega) (by rw [h2]; omega) (by omega) (by rw [h3]; omega))
    clear hz hi h1 h2 h3
    generalize grownCap w m 0 57 = gc at *
    generalize (.cells (Builtin.zeroCells (Value.agg #[.int .i64 0, .int .i64 0, .int .i64 0]).cells m ++ Builtin.zeroCells (Value.agg #[.int .i64 0, .int .i64 0, .int .i64 0]).cells (gc - m)) 57 : Obj) = ob at *
    unfold maxLen at hle
    go_enter Try.func98, Try.ntmps98
    go_wp2_with (at_builtin; refine Lib.wpList_append_run _ rfl (.tmp 20) (.tmp 21) _ _ rfl _ _ rfl rfl _ _ (HRUN.out _) ?_)
    go_ret
    exact ⟨_, gc, rfl, HOW.out, ((Below.refl _ w).drew).alloc (by simp) _⟩
section
variable {α : Type} {E : Enc α} {P : Program} (w : World) {ops : Array Oper} {rest : List Oper} {o : Oper} {a : Act} {Q : Exit → Act → World → Prop}
/-- out = append(out, xs...), xs any row. -/
theorem wpList_appG (z : Value) (bytes : Nat) (hgd : o.guard = none) (s x : Operand) (t e : TypeId) (ho : o.op = .call { callee := .builtin .append, args := #[s, x], argTypes := #[t, t] })
    (hu : P.underlying t = some (.slice e)) (hinfo : (P.info? e).map (fun i => (i.zero, i.size, i.bytes)) = some (some z, E.size, bytes)) (hz : z.cells.size = E.size) (hE : 0 < E.size) (hby : bytes ≤ 64)
    (B n c : Nat) (A : Option Addr) (l : List α) (A2 : Option Addr) (m c2 : Nat) (ys : List α) (hs : a.eval s = .slice A n c) (hx : a.eval x = .slice A2 m c2)
    (hown : Own E w B e A n c l) (hrow : R E w A2 m c2 ys) (hm2 : m ≤ 1000000) (hn : n ≤ 1000000) (hB : B ≤ w.heap.size)
    (h : ∀ A' c' w', Own E w' B e A' (n + m) c' (l ++ ys) → Below B w w' → wpList P ops Q rest (a.put o.dst (.slice A' (n + m) c')) w') :
    wpList P ops Q (o :: rest) a w := by
  by_cases hm : m = 0
  · subst hm
    obtain ⟨i0, hi, hz0, hz1, hz2⟩ := info_parts hinfo
    obtain rfl : ys = [] := List.eq_nil_of_length_eq_zero hrow.length
    have hrun : (Builtin.append_ #[t, t] o.type #[.slice A n c, .slice A2 0 c2]).run P w = .ok (.slice A n c) w := by
      rcases hown.form with ⟨rfl, rfl, rfl, _⟩ | ⟨g, rfl, _, _, hnc, _⟩
      · cases A2 <;> simp [Builtin.append_, run_underlying hu, sizeOf, typeInfo, hi, Builtin.lenOf, Builtin.firstCells, loadCells, loadCellsFrom, storeCells]
      · cases A2 <;> simp [Builtin.append_, run_underlying hu, sizeOf, typeInfo, hi, Builtin.lenOf, Builtin.firstCells, loadCells, loadCellsFrom, storeCells, hnc]
    refine wpList_plain hgd fun K hK => ?_
    unfold Oper.wp
    simp [execOp, ho, resolve, invoke, builtin, hs, hx, hrun, Result.andThen]
    exact hK _ _ (h _ _ w (by rw [List.append_nil]; exact hown) (Below.refl _ _))
  · have hA : ∃ ad, A2 = some ad := by
      obtain ⟨b, off, hr⟩ := hrow
      exact ⟨_, hr.at_ (by omega)⟩
    obtain ⟨ad, rfl⟩ := hA
    exact wpList_appN w z bytes hgd s x t e ho hu hinfo hz hE hby B n c A l ad m c2 ys hs hx hown hrow hm2 hn hB fun A' c' w' h1 h2 _ => h A' c' w' h1 h2
end
def CatPost (xs : Ls) (m : Nat) (w : World) (e : Ending) (w' : World) : Prop := ∃ (A : Option Addr) (c : Nat), e = .returned (.slice A m c) ∧ Own E3 w' w.heap.size 57 A m c xs ∧ Below w.heap.size w w'

set_option maxHeartbeats 2000000 in
theorem Concat_any (g : Nat) (A : Option Addr) (n c : Nat) (xs : Ls) (A2 : Option Addr) (n2 c2 : Nat) (ys : Ls) (w : World) (hK : Bk w g 22 #[.slice A n c, .slice A2 n2 c2]) (h : R E3 w A n c xs) (h2 : R E3 w A2 n2 c2 ys) (hn : n ≤ 100) (hn2 : n2 ≤ 100) :
    Calls Try.prog 87 #[.slice (some ⟨g, 0, none⟩) 2 2] w (CatPost (xs ++ ys) (n + n2) w) := by
  have HX := hide h
  have HY := hide h2
  have HK := hide hK
  have k0 := hK.at_ 0
  have k1 := hK.at_ 1
  have hg := hK.in_
  clear h h2 hK
  simp only [List.getElem?_toArray, List.getElem?_cons_zero, List.getElem?_cons_succ] at k0 k1
  go_enter Try.func87, Try.ntmps87
  go_wp2_with fail
  go_loopw [3, 11] (fun a i wr => ∃ k : Nat, k ≤ 2 ∧ i = .int .i64 k ∧ a = .int .i64 ((if k = 0 then 0 else if k = 1 then n else n + n2 : Nat) : Int) ∧ w = wr) (fun _ i _ => 2 - (intOf i).toNat)
  case atStart => exact ⟨0, by omega, rfl, rfl, rfl⟩
  case round =>
    obtain ⟨k, hk, rfl, rfl, rfl⟩ := hrel
    by_cases hk0 : k = 0
    · subst hk0
      have hw : IntKind.i64.wrap (n : Int) = (n : Int) := IntWalk.i64_in _ (by omega)
      have hp : ¬ (n : Int) < 0 := by omega
      go_wp2_with fail
      all_goals first
        | omega
        | (go_roundw
           case rel => exact ⟨1, by omega, by go_num, by go_num, trivial⟩
           case measure => simp [intOf])
    · by_cases hk1 : k = 1
      · subst hk1
        have hw : IntKind.i64.wrap ((n : Int) + (n2 : Int)) = (n : Int) + (n2 : Int) := IntWalk.i64_in _ (by omega)
        have hp : ¬ (n : Int) + (n2 : Int) < 0 := by omega
        simp only [Nat.one_ne_zero, if_false, if_true]
        go_wp2_with fail
        all_goals first
          | omega
          | (go_roundw
             case rel => exact ⟨2, by omega, by go_num, by go_num, trivial⟩
             case measure => simp [intOf])
      · obtain rfl : k = 2 := by omega
        have e2 : (if (2 : Nat) = 0 then 0 else if (2 : Nat) = 1 then n else n + n2 : Nat) = n + n2 := rfl
        rw [e2]
        clear e2
        go_wp2_with (go_at_call 98; refine (Grow_any (n + n2) _ (by omega)).mono ?_; rintro e w1 ⟨A1, c1, rfl, o1, b1⟩; have O1 := hide o1; have B1 := hide b1; have hz1 := b1.size; have q0 := (b1.cell (p := ⟨g, 0, none⟩) hg).trans k0; have q1 := (b1.cell (p := ⟨g, 1, none⟩) hg).trans k1; clear o1 b1)
        have HB1 := hide B1.out
        clear B1
        go_loopw [6, 27] (fun v i wr => ∃ (k m : Nat) (Ap : Option Addr) (q : Nat) (l : Ls), k ≤ 2 ∧ i = .int .i64 k ∧ v = .slice Ap m q ∧ Hid (Own E3 wr w.heap.size 57 Ap m q l) ∧ Hid (Below w.heap.size w wr) ∧ ((k = 0 ∧ m = 0 ∧ l = []) ∨ (k = 1 ∧ m = n ∧ l = xs) ∨ (k = 2 ∧ m = n + n2 ∧ l = xs ++ ys))) (fun _ i _ => 2 - (intOf i).toNat)
        case atStart => exact ⟨0, 0, A1, c1, [], by omega, rfl, rfl, O1, HB1, .inl ⟨rfl, rfl, rfl⟩⟩
        case round =>
          clear O1 HB1 q0 q1
          obtain ⟨k, m, Ap, q, l, hk, rfl, rfl, HO, HB, hc⟩ := hrel
          have q0 := (HB.out.cell (p := ⟨g, 0, none⟩) hg).trans k0
          have q1 := (HB.out.cell (p := ⟨g, 1, none⟩) hg).trans k1
          have hgr : g < wr.heap.size := Nat.lt_of_lt_of_le hg HB.out.size
          rcases hc with ⟨rfl, rfl, rfl⟩ | ⟨rfl, rfl, rfl⟩ | ⟨rfl, rfl, rfl⟩
          · go_wp2_with (at_builtin; refine wpList_appG (E := E3) _ (.agg #[.int .i64 0, .int .i64 0, .int .i64 0]) 24 rfl (.tmp 31) (.tmp 32) 22 57 rfl Try.underlying22 info_shift rfl (by decide) (by omega) w.heap.size _ _ _ _ A n c xs rfl rfl HO.out (HX.out.below HB.out (Nat.le_refl _)) (by omega) (by omega) HB.out.size ?_; intro A5 c5 w5 o5 b5)
            go_roundw
            case rel => exact ⟨1, n, A5, c5, xs, by omega, by go_num, by first | rfl | rw [Nat.zero_add], hide (by rw [Nat.zero_add, List.nil_append] at o5; exact o5), hide (HB.out.trans b5), .inr (.inl ⟨rfl, rfl, rfl⟩)⟩
            case measure => simp [intOf]
          · go_wp2_with (at_builtin; refine wpList_appG (E := E3) _ (.agg #[.int .i64 0, .int .i64 0, .int .i64 0]) 24 rfl (.tmp 31) (.tmp 32) 22 57 rfl Try.underlying22 info_shift rfl (by decide) (by omega) w.heap.size _ _ _ _ A2 n2 c2 ys rfl rfl HO.out (HY.out.below HB.out (Nat.le_refl _)) (by omega) (by omega) HB.out.size ?_; intro A5 c5 w5 o5 b5)
            go_roundw
            case rel => exact ⟨2, m + n2, A5, c5, l ++ ys, by omega, by go_num, rfl, hide o5, hide (HB.out.trans b5), .inr (.inr ⟨rfl, rfl, rfl⟩)⟩
            case measure => simp [intOf]
          · go_wp2_with fail
            go_ret
            exact ⟨Ap, q, rfl, HO.out, HB.out⟩
/-- Without one, and an error. -/
def WiPost (xs : Ls) (i : Int) (w : World) (e : Ending) (w' : World) : Prop :=
  ∃ (A : Option Addr) (n c : Nat) (P : Ls), e = .returned (.tuple #[.slice A n c, .int .i64 (errN xs [i])]) ∧ (errN xs [i] = 0 → P = del xs i.toNat) ∧ (errN xs [i] ≠ 0 → P = []) ∧ Own E3 w' w.heap.size 57 A n c P ∧ Below w.heap.size w w'
theorem errN_one {xs : Ls} {i : Int} (h : errN xs [i] = 0) : errV xs = 0 ∧ 0 ≤ i ∧ i < xs.length := by
  obtain ⟨h1, h2⟩ := errN_nz h
  have := inB_iff.1 (List.all_eq_true.1 h2 i (by simp))
  exact ⟨h1, this⟩
/-- The two parts of a row. -/
theorem row_parts {w : World} {n c b off : Nat} {xs : Ls} {i : Nat} (h : RAt E3 w (some ⟨b, off, none⟩) n c xs b off) (hi : i < n) :
    R E3 w (some ⟨b, off, none⟩) i c (xs.take i) ∧ R E3 w (if c = i + 1 then some ⟨b, off, none⟩ else some ⟨b, off + (i + 1) * 3, none⟩) (n - (i + 1)) (c - (i + 1)) (xs.drop (i + 1)) := by
  have hl := h.len
  have hc := h.cap
  have hm := h.max
  refine ⟨?_, ?_⟩
  · have := h.sub (i := 0) (m := i) (by omega)
    simpa using this
  · by_cases hci : c = i + 1
    · rw [if_pos hci]
      have hn : n - (i + 1) = 0 := by omega
      rw [hn, show xs.drop (i + 1) = [] by rw [List.drop_eq_nil_iff]; omega]
      exact ⟨0, 0, rfl, by omega, by omega, fun h => by omega, fun h => by omega, fun k hk => by omega⟩
    · rw [if_neg hci]
      have := h.sub (i := i + 1) (m := n - (i + 1)) (by omega)
      rw [List.take_of_length_le (by rw [List.length_drop]; omega)] at this
      exact this

set_option maxRecDepth 100000 in
set_option maxHeartbeats 1000000 in
theorem Without_any (A : Option Addr) (n c : Nat) (xs : Ls) (i : Int) (w : World) (h : R E3 w A n c xs) (hn : n ≤ 1000) :
    Calls Try.prog 53 #[.slice A n c, .int .i64 i] w (WiPost xs i w) := by
  have HX := hide h
  have HLX := hide h.length
  clear h
  have HR1 := hide (show R E1 (w.alloc (.cells #[.int .i64 i] 3)) (some ⟨w.heap.size, 0, none⟩) 1 1 [i] from (Own.lit (E := E1) (e := 3) w [i] (Nat.le_refl w.heap.size) (by unfold maxLen; simp)).row)
  have B0 := hide ((Below.refl w.heap.size w).alloc (Nat.le_refl _) (.cells #[.int .i64 i] 3))
  by_cases he : errN xs [i] = 0
  · have HE := hide he
    obtain ⟨hv, hi0, hi1⟩ := errN_one he
    have hn12 : n ≤ 12 := by have := errV_le hv; have := HLX.out; omega
    rw [HLX.out] at hi1
    obtain ⟨j, rfl⟩ : ∃ j : Nat, i = j := ⟨i.toNat, by omega⟩
    have hjn : j < n := by omega
    clear he hv
    go_enter Try.func53, Try.ntmps53
    go_wp2_with (go_at_call 58; refine (validateNumbers_any _ _ _ xs _ _ _ [(j : Int)] _ (HX.out.below B0.out (Nat.le_refl _)) hn HR1.out (by omega) (by omega)).mono ?_; rintro e w1 ⟨rfl, b1⟩; rw [HE.out]; have B1 := hide (B0.out.trans (b1.mono B0.out.size)); clear b1)
    obtain ⟨b, off, hr⟩ := HX.out
    obtain rfl := hr.at_ (by omega)
    have hcap := hr.cap
    have hmax := hr.max
    obtain ⟨p1, p2⟩ := row_parts hr hjn
    have HP1 := hide p1
    have HP2 := hide p2
    have hjc : (j : Int) ≤ (c : Int) := by omega
    have hj1 : (j : Int) + 1 ≤ (n : Int) := by omega
    have hw : IntKind.i64.wrap ((j : Int) + 1) = (j : Int) + 1 := IntWalk.i64_in _ (by omega)
    have hj0 : (0 : Int) ≤ (j : Int) + 1 := by omega
    have hjt : ((j : Int) + 1).toNat = j + 1 := by omega
    clear hr p1 p2
    by_cases hc : c = j + 1
    · rw [if_pos hc] at HP2
      obtain rfl : n = j + 1 := by omega
      subst hc
      have hq1 : (j : Int) ≤ (j : Int) + 1 := by omega
      have hq2 : (j : Int) + 1 ≤ (j : Int) + 1 := by omega
      rw [Nat.sub_self] at HP2
      have BK := hide (Bk.born w1 22 #[.slice (some ⟨b, off, none⟩) j (j + 1), .slice (some ⟨b, off, none⟩) 0 0])
      have BB := hide (B1.out.alloc B1.out.size (.cells #[.slice (some ⟨b, off, none⟩) j (j + 1), .slice (some ⟨b, off, none⟩) 0 0] 22))
      go_wp2_with fail
      refine wp_tail 7 (by kernel_rfl) (by decide +kernel) ?_
      simp only [List.take_succ_cons, List.take_zero, List.drop_succ_cons, List.drop_zero]
      repeat still_step
      try refine wpStill_nil ?_
      go_wp2_with (go_at_call 87; refine (Concat_any _ _ _ _ (xs.take j) _ _ _ (xs.drop (j + 1)) _ (BK.out.draw) (HP1.out.below BB.out.drew (Nat.le_refl _)) (HP2.out.below BB.out.drew (Nat.le_refl _)) (by omega) (by omega)).mono ?_; rintro e w2 ⟨A2, c2, rfl, o2, b2⟩)
      go_ret2
      exact ⟨A2, _, c2, _, by rw [HE.out]; rfl, fun _ => rfl, fun h => absurd HE.out h, o2.more BB.out.size, BB.out.drew.trans (b2.mono BB.out.size)⟩
    · rw [if_neg hc] at HP2
      have BK := hide (Bk.born w1 22 #[.slice (some ⟨b, off, none⟩) j c, .slice (some ⟨b, off + (j + 1) * 3, none⟩) (n - (j + 1)) (c - (j + 1))])
      have BB := hide (B1.out.alloc B1.out.size (.cells #[.slice (some ⟨b, off, none⟩) j c, .slice (some ⟨b, off + (j + 1) * 3, none⟩) (n - (j + 1)) (c - (j + 1))] 22))
      go_wp2_with fail
      refine wp_tail 7 (by kernel_rfl) (by decide +kernel) ?_
      simp only [List.take_succ_cons, List.take_zero, List.drop_succ_cons, List.drop_zero]
      repeat still_step
      try refine wpStill_nil ?_
      go_wp2_with (go_at_call 87; refine (Concat_any _ _ _ _ (xs.take j) _ _ _ (xs.drop (j + 1)) _ (BK.out.draw) (HP1.out.below BB.out.drew (Nat.le_refl _)) (HP2.out.below BB.out.drew (Nat.le_refl _)) (by omega) (by omega)).mono ?_; rintro e w2 ⟨A2, c2, rfl, o2, b2⟩)
      go_ret2
      exact ⟨A2, _, c2, _, by rw [HE.out]; rfl, fun _ => rfl, fun h => absurd HE.out h, o2.more BB.out.size, BB.out.drew.trans (b2.mono BB.out.size)⟩
  · have HE := hide he
    have hne : (errN xs [i] != 0) = true := by simpa using he
    clear he
    go_enter Try.func53, Try.ntmps53
    go_wp2_with (go_at_call 58; refine (validateNumbers_any _ _ _ xs _ _ _ [i] _ (HX.out.below B0.out (Nat.le_refl _)) hn HR1.out (by omega) (by omega)).mono ?_; rintro e w1 ⟨rfl, b1⟩; have B1 := hide (B0.out.trans (b1.mono B0.out.size)); clear b1)
    go_ret2
    exact ⟨none, 0, 0, [], rfl, fun h => absurd h HE.out, fun _ => rfl, Own.nil _ _ _ _, B1.out⟩
end Go.Proofs.Ytpkjgnllkaafkaa
