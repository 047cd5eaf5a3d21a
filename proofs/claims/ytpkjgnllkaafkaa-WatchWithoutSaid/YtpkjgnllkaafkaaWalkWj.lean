/- Without of the document, and the walk of WatchWithout. -/
import Derived.Test.YtpkjgnllkaafkaaWalkWi
namespace Go.Proofs.Ytpkjgnllkaafkaa
open Go.RowKit

section
variable {α : Type} {E : Enc α} {P : Program} (w : World) {ops : Array Oper} {o : Oper} {a : Act} {K : Act → World → Prop} {Q : Exit → Act → World → Prop} {F : Prop}
/-- out = append(out, xs...) at a step of a region that draws its order. -/
theorem step_appG (z : Value) (bytes : Nat) (hgd : o.guard = none) (s x : Operand) (t e : TypeId) (ho : o.op = .call { callee := .builtin .append, args := #[s, x], argTypes := #[t, t] })
    (hu : P.underlying t = some (.slice e)) (hinfo : (P.info? e).map (fun i => (i.zero, i.size, i.bytes)) = some (some z, E.size, bytes)) (hz : z.cells.size = E.size) (hE : 0 < E.size) (hby : bytes ≤ 64)
    (B n c : Nat) (A : Option Addr) (l : List α) (A2 : Option Addr) (m c2 : Nat) (ys : List α) (hs : a.eval s = .slice A n c) (hx : a.eval x = .slice A2 m c2)
    (hown : Own E w B e A n c l) (hrow : R E w A2 m c2 ys) (hm2 : m ≤ 1000000) (hn : n ≤ 1000000) (hB : B ≤ w.heap.size)
    (h : ∀ A' c' w', Own E w' B e A' (n + m) c' (l ++ ys) → Below B w w' → K (a.put o.dst (.slice A' (n + m) c')) w') :
    if Region.wanted o (yielded ops a.tmps) = true then Oper.wp P o a w K Q else F := by
  obtain ⟨i0, hi, hz0, hz1, hz2⟩ := info_parts hinfo
  by_cases hm : m = 0
  · subst hm
    obtain rfl : ys = [] := List.eq_nil_of_length_eq_zero hrow.length
    have hrun : (Builtin.append_ #[t, t] o.type #[.slice A n c, .slice A2 0 c2]).run P w = .ok (.slice A n c) w := by
      rcases hown.form with ⟨rfl, rfl, rfl, _⟩ | ⟨g, rfl, _, _, hnc, _⟩
      · cases A2 <;> simp [Builtin.append_, run_underlying hu, sizeOf, typeInfo, hi, Builtin.lenOf, Builtin.firstCells, loadCells, loadCellsFrom, storeCells]
      · cases A2 <;> simp [Builtin.append_, run_underlying hu, sizeOf, typeInfo, hi, Builtin.lenOf, Builtin.firstCells, loadCells, loadCellsFrom, storeCells, hnc]
    have hw : Region.wanted o (yielded ops a.tmps) = true := by simp [Region.wanted, hgd]
    rw [if_pos hw]
    unfold Oper.wp
    simp [execOp, ho, resolve, invoke, builtin, hs, hx, hrun, Result.andThen]
    exact h _ _ w (by rw [List.append_nil]; exact hown) (Below.refl _ _)
  · obtain ⟨b, off, hr⟩ := hrow
    have hA := hr.at_ (by omega)
    subst hA
    have hrl := hr.len
    have hl := hown.len
    refine step_append_lies w hgd s x t ho B e i0 z E.size bytes hu hi hz0 hz1 hz2 hz hE _ n (E.cells l) hs hown.2 ⟨b, off, none⟩ m c2 (E.cells ys) hx (by rw [E.cells_len, hrl]) ?_ (E.cells_one ys) (by omega) (by unfold maxLen; omega) ?_ hB _ rfl ?_
    · intro j u hu'
      have hj := (List.getElem?_eq_some_iff.1 hu').1
      rw [E.cells_len, hrl] at hj
      have hadd : (⟨b, off, none⟩ : Addr).add j = ⟨b, off + j, none⟩ := by unfold Addr.add; split <;> simp_all
      have hq : j / E.size < m := Nat.div_lt_of_lt_mul (by rw [Nat.mul_comm]; exact hj)
      have hrr : j % E.size < E.size := Nat.mod_lt _ hE
      have ej : j / E.size * E.size + j % E.size = j := by rw [Nat.mul_comm]; exact Nat.div_add_mod _ _
      have g1 := E.cells_get ys (k := j / E.size) (j := j % E.size) (by omega) hrr
      have g2 := hr.cell (j / E.size) hq (j % E.size) hrr
      rw [ej] at g1 g2
      rw [hadd, g2, ← g1]
      exact hu'
    · have : (n + m) * bytes ≤ (n + m) * 64 := Nat.mul_le_mul_left _ hby
      omega
    · intro g cap w' hown' hg _ _
      refine h _ cap w' ⟨by simp [hl, hrl], by rw [E.cells_app]; exact hown'⟩ ((Below.refl B w).grown hg hB fun k hk => ?_)
      rcases hown.form with ⟨rfl, _⟩ | ⟨g, rfl, hbg, _⟩
      · simp [Value.ownBlock] at hk
      · simp [Value.ownBlock] at hk; omega
end
set_option maxRecDepth 100000 in
set_option maxHeartbeats 2000000 in
theorem rWithout_any (A : Option Addr) (n c : Nat) (xs : Ls) (i : Int) (w : World) (h : R E3 w A n c xs) (hn : n ≤ 1000) :
    Calls Try.prog 54 #[.slice A n c, .int .i64 i] w (WiPost xs i w) := by
  have HX := hide h
  have HLX := hide h.length
  clear h
  by_cases he : errN xs [i] = 0
  · have HE := hide he
    obtain ⟨hv, hi0, hi1⟩ := errN_one he
    have hn12 : n ≤ 12 := by have := errV_le hv; have := HLX.out; omega
    rw [HLX.out] at hi1
    obtain ⟨j, rfl⟩ : ∃ j : Nat, i = j := ⟨i.toNat, by omega⟩
    have hjn : j < n := by omega
    clear he hv
    obtain ⟨b, off, hr⟩ := HX.out
    obtain rfl := hr.at_ (by omega)
    have hcap := hr.cap
    have hmax := hr.max
    obtain ⟨p1, p2⟩ := row_parts hr hjn
    have HP1 := hide p1
    have HP2 := hide p2
    have hjc : (j : Int) ≤ (c : Int) := by omega
    have hj1 : (j : Int) + 1 ≤ (n : Int) := by omega
    have hw : IntKind.i64.wrap ((j : Int) + 1) = (j : Int) + 1 := IntWalk.i64_in _ (by omega)
    have hj0 : (0 : Int) ≤ (j : Int) + 1 := by omega
    have hjt : ((j : Int) + 1).toNat = j + 1 := by omega
    clear hr p1 p2
    by_cases hc : c = j + 1
    · rw [if_pos hc] at HP2
      obtain rfl : n = j + 1 := by omega
      subst hc
      have hq1 : (j : Int) ≤ (j : Int) + 1 := by omega
      have hq2 : (j : Int) + 1 ≤ (j : Int) + 1 := by omega
      rw [Nat.sub_self] at HP2
      go_enter Try.func54, Try.ntmps54
      go_wp2_with (go_at_call 60; refine (one_any _ _ _ xs _ _ HX.out hn).mono ?_; rintro e w1 ⟨rfl, b1⟩; rw [HE.out]; have B1 := hide b1; clear b1)
      have OL := hide (Own.lit (E := E3) (e := 57) w1.drew [] (Nat.le_refl w1.heap.size) (by unfold maxLen; simp))
      have BL := hide ((B1.out.drew).alloc B1.out.size (.cells #[] 57))
      have hzz : w1.heap.size ≤ (w1.drew.alloc (.cells #[] 57)).heap.size := by simp
      go_region_law (first
        | (refine step_appG (E := E3) (w1.drew.alloc (.cells #[] 57)) (.agg #[.int .i64 0, .int .i64 0, .int .i64 0]) 24 rfl (.tmp 13) (.tmp 16) 22 57 rfl Try.underlying22 info_shift rfl (by decide) (by omega) w1.heap.size 0 0 (some ⟨w1.heap.size, 0, none⟩) [] _ _ _ (xs.take j) rfl rfl OL.out (HP1.out.below BL.out (Nat.le_refl _)) (by omega) (by omega) hzz ?_; intro A5 c5 w5 o5 b5; (try rw [Nat.zero_add]); rw [Nat.zero_add] at o5; have O5 := hide o5; have B5 := hide (BL.out.trans (b5.mono B1.out.size)); have hz5 : w1.heap.size ≤ w5.heap.size := Nat.le_trans hzz b5.size; clear o5 b5)
        | (refine step_appG (E := E3) w5 (.agg #[.int .i64 0, .int .i64 0, .int .i64 0]) 24 rfl (.tmp 17) (.tmp 21) 22 57 rfl Try.underlying22 info_shift rfl (by decide) (by omega) w1.heap.size _ _ _ _ _ _ _ (xs.drop (j + 1)) rfl rfl O5.out (HP2.out.below B5.out (Nat.le_refl _)) (by omega) (by omega) hz5 ?_; intro A6 c6 w6 o6 b6))
      all_goals
        go_wp2_with fail
        go_ret2
        exact ⟨A6, _, c6, _, by rw [HE.out]; rfl, fun _ => rfl, fun h => absurd HE.out h, (by first | (rw [List.nil_append] at o6; exact o6.more B1.out.size) | exact o6.more B1.out.size), B5.out.trans (b6.mono B1.out.size)⟩
    · rw [if_neg hc] at HP2
      go_enter Try.func54, Try.ntmps54
      go_wp2_with (go_at_call 60; refine (one_any _ _ _ xs _ _ HX.out hn).mono ?_; rintro e w1 ⟨rfl, b1⟩; rw [HE.out]; have B1 := hide b1; clear b1)
      have OL := hide (Own.lit (E := E3) (e := 57) w1.drew [] (Nat.le_refl w1.heap.size) (by unfold maxLen; simp))
      have BL := hide ((B1.out.drew).alloc B1.out.size (.cells #[] 57))
      have hzz : w1.heap.size ≤ (w1.drew.alloc (.cells #[] 57)).heap.size := by simp
      go_region_law (first
        | (refine step_appG (E := E3) (w1.drew.alloc (.cells #[] 57)) (.agg #[.int .i64 0, .int .i64 0, .int .i64 0]) 24 rfl (.tmp 13) (.tmp 16) 22 57 rfl Try.underlying22 info_shift rfl (by decide) (by omega) w1.heap.size 0 0 (some ⟨w1.heap.size, 0, none⟩) [] _ _ _ (xs.take j) rfl rfl OL.out (HP1.out.below BL.out (Nat.le_refl _)) (by omega) (by omega) hzz ?_; intro A5 c5 w5 o5 b5; (try rw [Nat.zero_add]); rw [Nat.zero_add] at o5; have O5 := hide o5; have B5 := hide (BL.out.trans (b5.mono B1.out.size)); have hz5 : w1.heap.size ≤ w5.heap.size := Nat.le_trans hzz b5.size; clear o5 b5)
        | (refine step_appG (E := E3) w5 (.agg #[.int .i64 0, .int .i64 0, .int .i64 0]) 24 rfl (.tmp 17) (.tmp 21) 22 57 rfl Try.underlying22 info_shift rfl (by decide) (by omega) w1.heap.size _ _ _ _ _ _ _ (xs.drop (j + 1)) rfl rfl O5.out (HP2.out.below B5.out (Nat.le_refl _)) (by omega) (by omega) hz5 ?_; intro A6 c6 w6 o6 b6))
      all_goals
        go_wp2_with fail
        go_ret2
        exact ⟨A6, _, c6, _, by rw [HE.out]; rfl, fun _ => rfl, fun h => absurd HE.out h, (by first | (rw [List.nil_append] at o6; exact o6.more B1.out.size) | exact o6.more B1.out.size), B5.out.trans (b6.mono B1.out.size)⟩
  · have HE := hide he
    have hne : (errN xs [i] != 0) = true := by simpa using he
    clear he
    go_enter Try.func54, Try.ntmps54
    go_wp2_with (go_at_call 60; refine (one_any _ _ _ xs _ _ HX.out hn).mono ?_; rintro e w1 ⟨rfl, b1⟩; have B1 := hide b1; clear b1)
    go_ret2
    exact ⟨none, 0, 0, [], rfl, fun h => absurd h HE.out, fun _ => rfl, Own.nil _ _ _ _, B1.out⟩
theorem del_all {xs : Ls} {j : Nat} (he : errV xs = 0) (hj : j < xs.length) : (peak (del xs j)).2 ≤ (peak xs).2 ∧ bestL (del xs j) ≤ bestL xs ∧ bestP (del xs j) ≤ bestP xs ∧ covV (del xs j) ≤ covV xs := by
  have hd := del_errV j he
  refine ⟨?_, ?_, ?_, ?_⟩
  · unfold peak
    rw [if_pos he, if_pos hd]
    exact peak_sub (del_sub xs j)
  · refine best_le fun I hI => ?_
    obtain ⟨h1, h2⟩ := mem_setsTo.1 hI
    refine ⟨I.map (upI j), mem_setsTo.2 ⟨del_asc hj h1, by rw [del_pick hj fun x hx => (h1.rng x hx).1]; exact h2⟩, ?_⟩
    unfold lenI
    rw [List.length_map]
    exact Int.le_refl _
  · refine best_le fun I hI => ?_
    obtain ⟨h1, h2⟩ := mem_setsTo.1 hI
    refine ⟨I.map (upI j), mem_setsTo.2 ⟨del_asc hj h1, by rw [del_pick hj fun x hx => (h1.rng x hx).1]; exact h2⟩, ?_⟩
    rw [del_pay hj fun x hx => (h1.rng x hx).1]
    exact Int.le_refl _
  · rw [covV_ok he, covV_ok hd]
    have := covN_sub (del_sub xs j) 1000
    omega
set_option maxHeartbeats 2000000 in
theorem WatchWithout_walk (A : Option Addr) (n c : Nat) (xs : Ls) (i : Int) (w : World) (h : R E3 w A n c xs) (_ : (Lit.int .i64 i).wf = true) :
    Calls Try.prog 16 #[.slice A n c, .int .i64 i] w fun e w' => e = .returned (.bool true) ∧ Below w.heap.size w w' := by
  have HLX := hide h.length
  have HX := hide h
  clear h
  by_cases hn : 50 < n
  · have hb : decide (50 < n) = true := by simpa using hn
    have HB := hide hb
    clear hb
    go_enter Try.func16, Try.ntmps16
    go_wp2_with fail
    refine (Long0_any _ _ _ _ _ HB.out).mono ?_
    rintro e w' ⟨rfl, rfl⟩
    go_wp2_with fail
    refine (sane_any _).mono ?_
    rintro e w1 ⟨rfl, b1⟩
    go_wp2_with fail
    go_ret
    exact ⟨rfl, b1⟩
  · have hb : decide (50 < n) = false := by simpa using hn
    have HB := hide hb
    have hn2 : n ≤ 1000 := by omega
    clear hb hn
    by_cases he : errN xs [i] = 0
    · have HE := hide he
      obtain ⟨hv, hi0, hi1⟩ := errN_one he
      have HD := hide (del_all (j := i.toNat) hv (by omega))
      have HVD := hide (del_errV i.toNat hv)
      have HV := hide hv
      clear he hv hi0 hi1
      go_enter Try.func16, Try.ntmps16
      go_wp2_with fail
      refine (Long0_any _ _ _ _ _ HB.out).mono ?_
      rintro e w' ⟨rfl, rfl⟩
      go_wp2_with fail
      refine (Without_any _ _ _ xs i _ HX.out hn2).mono ?_
      rintro e w1 ⟨A1, n1, c1, P, rfl, hP, _, o1, b1⟩
      rw [HE.out]
      obtain rfl := hP HE.out
      have O1 := hide o1
      have B1 := hide b1
      clear hP o1 b1
      go_wp2_with fail
      refine (rWithout_any _ _ _ xs i _ (HX.out.below B1.out (Nat.le_refl _)) hn2).mono ?_
      rintro e w2 ⟨A2, n2, c2, P, rfl, hP, _, o2, b2⟩
      rw [HE.out]
      obtain rfl := hP HE.out
      have O2 := hide o2
      have O12 := hide (O1.out.below b2 (Nat.le_refl _))
      have B2 := hide (B1.out.trans (b2.mono B1.out.size))
      clear b2
      clear hP o2
      have hn1 : n1 ≤ 1000 := by have h1 := O12.out.len; have h2 := (del_sub xs i.toNat).length_le; have h3 := HLX.out; omega
      have HL12 := hide (show n2 = n1 by have h1 := O12.out.len; have h2 := O2.out.len; omega)
      generalize hdl : del xs i.toNat = dl at *
      clear hdl
      go_wp2_with (first
        | (go_at_call 49; refine (SameShifts_self _ _ _ _ _ _ dl _ O12.out.row O2.out.row (by omega)).mono ?_; rintro e w3 ⟨rfl, b3⟩; have O13 := hide (O12.out.below b3 (Nat.le_refl _)); have B3 := hide (B2.out.trans (b3.mono B2.out.size)); clear b3))
      refine (Peak_any _ _ _ dl _ O13.out.row hn1).mono ?_
      rintro e w4 ⟨rfl, b4⟩
      rw [HVD.out]
      have O14 := hide (O13.out.below b4 (Nat.le_refl _))
      have B4 := hide (B3.out.trans (b4.mono B3.out.size)); clear b4
      go_wp2_with fail
      refine (Peak_any _ _ _ xs _ (HX.out.below B4.out (Nat.le_refl _)) hn2).mono ?_
      rintro e w5 ⟨rfl, b5⟩
      rw [HV.out]
      have O15 := hide (O14.out.below b5 (Nat.le_refl _))
      have B5 := hide (B4.out.trans (b5.mono B4.out.size))
      clear b5
      go_wp2_with fail
      refine (AloneN_any _ _ _ dl _ O15.out.row hn1 HVD.out).mono ?_
      rintro e w6 ⟨A6, n6, c6, rfl, hl6, b6⟩
      have HL6 := hide hl6
      have O16 := hide (O15.out.below b6 (Nat.le_refl _))
      have B6 := hide (B5.out.trans (b6.mono B5.out.size))
      clear b6
      clear hl6
      go_wp2_with fail
      refine (AloneN_any _ _ _ xs _ (HX.out.below B6.out (Nat.le_refl _)) hn2 HV.out).mono ?_
      rintro e w7 ⟨A7, n7, c7, rfl, hl7, b7⟩
      have hle7 : n6 ≤ n7 := by have h1 := HL6.out; have h2 := HD.out.2.1; omega
      have O17 := hide (O16.out.below b7 (Nat.le_refl _))
      have B7 := hide (B6.out.trans (b7.mono B6.out.size))
      clear b7
      clear hl7
      go_wp2_with fail
      refine (EarnN_any _ _ _ dl _ O17.out.row hn1 HVD.out).mono ?_
      rintro e w8 ⟨A8, n8, c8, rfl, b8⟩
      have O18 := hide (O17.out.below b8 (Nat.le_refl _))
      have B8 := hide (B7.out.trans (b8.mono B7.out.size))
      clear b8
      go_wp2_with fail
      refine (EarnN_any _ _ _ xs _ (HX.out.below B8.out (Nat.le_refl _)) hn2 HV.out).mono ?_
      rintro e w9 ⟨A9, n9, c9, rfl, b9⟩
      have O19 := hide (O18.out.below b9 (Nat.le_refl _))
      have B9 := hide (B8.out.trans (b9.mono B8.out.size))
      clear b9
      go_wp2_with fail
      refine (Covered_any _ _ _ dl _ O19.out.row hn1).mono ?_
      rintro e w10 ⟨rfl, b10⟩
      rw [HVD.out]
      have B10 := hide (B9.out.trans (b10.mono B9.out.size))
      clear b10
      go_wp2_with fail
      refine (Covered_any _ _ _ xs _ (HX.out.below B10.out (Nat.le_refl _)) hn2).mono ?_
      rintro e w11 ⟨rfl, b11⟩
      rw [HV.out]
      have B11 := hide (B10.out.trans (b11.mono B10.out.size))
      clear b11
      have hD := HD.out
      clear HD HL6 HVD HV
      generalize covV xs = cv1 at *
      generalize covV dl = cv2 at *
      generalize bestP xs = bp1 at *
      generalize bestP dl = bp2 at *
      generalize bestL xs = bl1 at *
      generalize bestL dl = bl2 at *
      generalize peak xs = pk1 at *
      generalize peak dl = pk2 at *
      obtain ⟨pk11, pk12⟩ := pk1
      obtain ⟨pk21, pk22⟩ := pk2
      dsimp only at *
      obtain ⟨hd1, _, hd3, hd4⟩ := hD
      go_wp2_with (first
        | (go_at_call 20; refine (sane_any _).mono ?_; rintro e w12 ⟨rfl, b12⟩; have B12 := hide (B11.out.trans (b12.mono B11.out.size)); clear b12))
      go_ret
      exact ⟨rfl, B12.out⟩
    · have HE := hide he
      have hne : (errN xs [i] != 0) = true := by simpa using he
      clear he
      go_enter Try.func16, Try.ntmps16
      go_wp2_with fail
      refine (Long0_any _ _ _ _ _ HB.out).mono ?_
      rintro e w' ⟨rfl, rfl⟩
      go_wp2_with fail
      refine (Without_any _ _ _ xs i _ HX.out hn2).mono ?_
      rintro e w1 ⟨A1, n1, c1, P, rfl, _, hP, o1, b1⟩
      obtain rfl := hP HE.out
      have O1 := hide o1
      have B1 := hide b1
      clear hP o1 b1
      go_wp2_with fail
      refine (rWithout_any _ _ _ xs i _ (HX.out.below B1.out (Nat.le_refl _)) hn2).mono ?_
      rintro e w2 ⟨A2, n2, c2, P, rfl, _, hP, o2, b2⟩
      obtain rfl := hP HE.out
      have O2 := hide o2
      have O12 := hide (O1.out.below b2 (Nat.le_refl _))
      have B2 := hide (B1.out.trans (b2.mono B1.out.size))
      clear b2
      clear hP o2
      have hn1 : n1 ≤ 1000 := by have h1 := O12.out.len; simp at h1; omega
      generalize errN xs [i] = ev at *
      go_wp2_with (first
        | (go_at_call 49; refine (SameShifts_self _ _ _ _ _ _ [] _ O12.out.row O2.out.row (by omega)).mono ?_; rintro e w3 ⟨rfl, b3⟩; have B3 := hide (B2.out.trans (b3.mono B2.out.size)); clear b3)
        | (go_at_call 20; refine (sane_any _).mono ?_; rintro e w12 ⟨rfl, b12⟩; have B12 := hide (B3.out.trans (b12.mono B3.out.size)); clear b12))
      go_ret
      exact ⟨rfl, B12.out⟩
end Go.Proofs.Ytpkjgnllkaafkaa
