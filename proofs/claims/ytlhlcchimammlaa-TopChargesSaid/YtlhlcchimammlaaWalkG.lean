/- The amounts up to some one: the document's table. -/
import Derived.Test.YtlhlcchimammlaaWalkF
import Derived.Laws.MakeOwn
namespace Go.Proofs.Ytlhlcchimammlaa
open Go.RowKit Go.Shelf

section
variable {rest : List Oper} {ops : Array Oper} {o : Oper} {a : Act} {Q : Exit → Act → World → Prop}
/-- make([]int, n). -/
theorem wpList_mk (w : World) (hgd : o.guard = none) (l c : Operand) (hop : o.op = Op.makeSlice 22 l c) (B n : Nat) (hl : a.eval l = .int .i64 n) (hc : a.eval c = .int .i64 n)
    (hn : n ≤ 1000000) (hB : B ≤ w.heap.size)
    (h : ∀ w', Own E1 w' B 3 (some ⟨w.heap.size, 0, none⟩) n n (List.replicate n 0) → Below w.heap.size w w' → w.heap.size < w'.heap.size → wpList Try.prog ops Q rest (a.put o.dst (.slice (some ⟨w.heap.size, 0, none⟩) n n)) w') :
    wpList Try.prog ops Q (o :: rest) a w := by
  obtain ⟨i0, hi, hz0, hz1, hz2⟩ := info_parts info_int
  refine wpList_make_full (P := Try.prog) w hgd l c 22 hop B 3 i0 (.int .i64 0) 1 Try.underlying22 hi hz0 hz1 .i64 .i64 n n n hl hc rfl rfl (by rw [hz2]; omega) (by unfold maxLen; omega) hB fun w' hown hg => ?_
  have e : (madeCells (Value.int .i64 0).cells (n * 1)).toList = E1.cells (List.replicate n 0) := by
    rw [Nat.mul_one]
    show (madeCells #[Value.int .i64 0] n).toList = _
    rw [toList_madeCells_one]
    clear hl hc hn h hown
    induction n with
    | zero => rfl
    | succ n ih => simp [Enc.cells, E1, List.replicate_succ] at ih ⊢; exact ih
  rw [e] at hown
  have ho : Own E1 w' B 3 (some ⟨w.heap.size, 0, none⟩) n n (List.replicate n 0) := ⟨by simp, hown⟩
  refine h w' ho ((Below.refl _ w).grown hg (Nat.le_refl _) fun k hk => by cases hk) ?_
  rcases ho.form with ⟨hh, _⟩ | ⟨g, hA, _, hlt, _⟩
  · cases hh
  · injection hA with hA; injection hA with hA; omega
end
theorem getD_set_ne {l : List Int} {i j : Nat} {a b : Int} (h : i ≠ j) : (l.set j a).getD i b = l.getD i b := by
  rw [List.getD_eq_getElem?_getD, List.getD_eq_getElem?_getD, List.getElem?_set, if_neg (fun e => h e.symm)]
theorem getD_set_eq {l : List Int} {j : Nat} {a b : Int} (h : j < l.length) : (l.set j a).getD j b = a := by
  rw [List.getD_eq_getElem?_getD, List.getElem?_set, if_pos rfl, if_pos h]; rfl
/-- The numbers so far are right. -/
def FwTo (xs L : List Int) (m : Nat) : Prop := ∀ i, i < m → L.getD i 0 = fw xs i
theorem fwTo_all {xs L : List Int} {N : Nat} (hl : L.length = N + 1) (h : FwTo xs L (N + 1)) : L = few xs N := by
  refine sameTo_end (by rw [hl, few_len]) fun i hi => ?_
  rw [h i (by omega), getD_any (by rw [few_len]; omega) 0 (-1), few_at xs N i (by omega)]
theorem fwTo_one (xs : List Int) (N : Nat) : FwTo xs (List.replicate (N + 1) 0) 1 := fun i hi => by
  obtain rfl : i = 0 := by omega
  simp [List.replicate_succ, fw_zero]
theorem few_pred (xs : List Int) {m : Nat} (h : 1 ≤ m) : few xs m = few xs (m - 1) ++ [oneM xs (few xs (m - 1)) m] := by
  obtain ⟨p, rfl⟩ : ∃ p, m = p + 1 := ⟨m - 1, by omega⟩
  rfl
theorem fw_pred (xs : List Int) {m : Nat} (h : 1 ≤ m) : fw xs m = oneM xs (few xs (m - 1)) m := by
  obtain ⟨p, rfl⟩ : ∃ p, m = p + 1 := ⟨m - 1, by omega⟩
  exact fw_succ xs p
/-- The folds agree, whatever is behind. -/
theorem foTo_few {xs : List Int} {m : Nat} (k : Nat) : foTo xs (few xs m) (m + 1) k = (xs.take k).foldl (stepO (few xs m) (m + 1)) (-1) := rfl
set_option maxRecDepth 100000 in
set_option maxHeartbeats 4000000 in
theorem few_any (A : Option Addr) (n c : Nat) (xs : List Int) (N : Nat) (w : World) (h : R E1 w A n c xs) (hw : Wt xs) (hN : N ≤ 4000) :
    Calls Try.prog 65 #[.slice A n c, .int .i64 N] w (IntsPost (few xs N) w) := by
  have hl := h.length
  have hle := h.le
  obtain ⟨b, off, hr⟩ := h
  have H1 := hide hl
  have H4 := hide hr
  have HW := hide hw
  clear hr hl hw
  go_enter Try.func65, Try.ntmps65
  go_wp2_with (at_make; refine wpList_mk _ rfl (.tmp 9) (.tmp 9) rfl w.heap.size (N + 1) rfl rfl (by omega) (Nat.le_refl _) ?_; intro w1 o1 b1 s1; have HO1 := hide o1; have HB1 := hide b1; clear o1 b1 s1)
  go_loopw [6] (fun i wr => ∃ (m : Nat) (L : List Int), 1 ≤ m ∧ m ≤ N + 1 ∧ i = .int .i64 m ∧ Hid (Own E1 wr w.heap.size 3 (some ⟨w.heap.size, 0, none⟩) (N + 1) (N + 1) L) ∧ Hid (FwTo xs L m) ∧ Hid (Below w.heap.size w wr)) (fun i _ => N + 1 - (intOf i).toNat)
  case atStart => exact ⟨1, _, Nat.le_refl _, by omega, rfl, HO1, hide (fwTo_one xs N), HB1⟩
  case round =>
    obtain ⟨m, L, hm1, hm, rfl, HO, HP, HB⟩ := hrel
    by_cases hlt : m ≤ N
    · have hfz := HO.out.frozen m
      have hcz := own1 HO.out (k := m) (by omega)
      have hBg : w.heap.size ≤ w.heap.size := Nat.le_refl _
      have HFL := hide (show few xs m = few xs (m - 1) ++ [oneM xs (few xs (m - 1)) m] from few_pred xs hm1)
      have HFS := hide (show fw xs m = oneM xs (few xs (m - 1)) m from fw_pred xs hm1)
      have HFA := hide (fun i (hi : i < m) => few_at xs (m - 1) i (by omega))
      have HFN := hide (few_len xs (m - 1))
      generalize few xs (m - 1) = fs at *
      have hgl : w.heap.size < wr.heap.size := by
        rcases HO.out.form with ⟨hh, _⟩ | ⟨g, hA, _, hlt, _⟩
        · cases hh
        · injection hA with hA; injection hA with hA; omega
      go_wp2_with fail
      go_loopw [7] (fun i wr => ∃ (k : Nat) (L : List Int), k ≤ n ∧ i = .int .i64 k ∧ Hid (Own E1 wr w.heap.size 3 (some ⟨w.heap.size, 0, none⟩) (N + 1) (N + 1) L) ∧ Hid (FwTo xs L m) ∧ Hid (L.getD m 0 = foTo xs fs m k) ∧ Hid (Below w.heap.size w wr)) (fun i _ => n - (intOf i).toNat)
      case atStart => exact ⟨0, L.set m (-1), Nat.zero_le _, rfl, hide (HO.out.stored1 (by omega) (-1)), hide (fun i hi => by rw [getD_set_ne (by omega)]; exact HP.out i hi), hide (getD_set_eq (by rw [HO.out.len]; omega)), hide (HB.out.setCell hBg _)⟩
      case round =>
        clear HO HP HB hfz hgl hcz
        obtain ⟨k, L, hk, rfl, HO, HP, HQ, HB⟩ := hrel
        by_cases hlk : k < n
        · obtain rfl := H4.out.at_ (by omega)
          have hbl := H4.out.lt (by omega)
          have hc1 := c1 (H4.out.under HB.out fun _ => hbl) hlk
          have hx1 := HW.out.at_ (k := k) (by rw [H1.out]; exact hlk)
          have HS := hide (foTo_succ (xs := xs) (fs := fs) (m := m) (k := k) (by rw [H1.out]; exact hlk))
          have o2 := own1 HO.out (k := m) (by omega)
          have hfz := HO.out.frozen m
          have hfb := foTo_bd (m := m) (fs := fs) HW.out (fun i hi => by rw [HFA.out i hi]; have := fw_ge HW.out i; omega) (k := k) (by rw [H1.out]; exact hk)
          rw [HQ.out] at o2
          generalize xs.getD k 0 = x at hc1 hx1 HS
          generalize foTo xs fs m k = s at *
          obtain ⟨y, rfl⟩ : ∃ y : Nat, x = (y : Int) := ⟨x.toNat, by omega⟩
          have hkn : (k : Int) < (n : Int) := by omega
          have hmN : (m : Int) < ((N + 1 : Nat) : Int) := by omega
          have hmN2 : (m : Int) < (N : Int) + 1 := by omega
          by_cases hy : y ≤ m
          · have hy' : (y : Int) ≤ (m : Int) := by omega
            have hdy : decide (y ≤ m) = true := by simpa using hy
            have hmy : m - y < m := by omega
            have o1 := own1 HO.out (k := m - y) (by omega)
            have HV := hide (show L.getD (m - y) 0 = fs.getD (m - y) (-1) from by rw [HFA.out (m - y) hmy]; exact HP.out (m - y) hmy)
            have hvb := fw_ge HW.out (m - y)
            rw [← HFA.out (m - y) hmy] at hvb
            rw [HV.out] at o1
            have HSN := hide (fun h hs => stepO_new (fs := fs) (m := m) (y := y) (s := s) hy h hs)
            have HSO := hide (fun hs => stepO_old (fs := fs) (m := m) (y := y) (s := s) hs)
            have HSG := hide (fun h => stepO_gap (fs := fs) (m := m) (y := y) (s := s) h)
            generalize fs.getD (m - y) (-1) = v at *
            have hw1 : IntKind.i64.wrap ((m : Int) - (y : Int)) = ((m - y : Nat) : Int) := by rw [show (m : Int) - (y : Int) = ((m - y : Nat) : Int) by omega]; exact IntWalk.i64_in _ (by omega)
            have hw2 : ((m : Int) - (y : Int)) = ((m - y : Nat) : Int) := by omega
            have i1 : ((m - y : Nat) : Int) < ((N + 1 : Nat) : Int) := by omega
            have i2 : (0 : Int) ≤ ((m - y : Nat) : Int) := by omega
            have i6 : ((m - y : Nat) : Int) < (N : Int) + 1 := by omega
            have hmy' : m - y ≤ 4000 := by omega
            clear hy'
            by_cases hv : 0 ≤ v
            · have hdv : decide (0 ≤ v) = true := by simpa using hv
              have hw5 : IntKind.i64.wrap (v + 1) = v + 1 := IntWalk.i64_in _ (by omega)
              by_cases hs : s < 0
              · have hds : decide (s < 0) = true := by simpa using hs
                have HSK := hide (HSN.out (by omega) (.inl (by omega)))
                clear HSN HSO HSG
                go_wp2_with fail
                go_quiet (fail)
                go_wp2_with fail
                go_roundw
                case rel => exact ⟨k + 1, L.set m (v + 1), by omega, by go_num, hide ((HO.out.drewN _).stored1 (by omega) (v + 1)), hide (fun i hi => by rw [getD_set_ne (by omega)]; exact HP.out i hi), hide (by rw [HS.out, HSK.out]; exact getD_set_eq (by rw [HO.out.len]; omega)), hide ((below_drewN HB.out _).setCell hBg _)⟩
                case measure => simp [intOf]; omega
              · have hds : decide (s < 0) = false := by simpa using hs
                have hw4 : IntKind.i64.wrap (s - 1) = s - 1 := IntWalk.i64_in _ (by omega)
                by_cases hlt2 : v < s - 1
                · have hdl : decide (v < s - 1) = true := by simpa using hlt2
                  have HSK := hide (HSN.out (by omega) (.inr (by omega)))
                  clear HSN HSO HSG
                  go_wp2_with fail
                  go_quiet (fail)
                  go_wp2_with fail
                  go_roundw
                  case rel => exact ⟨k + 1, L.set m (v + 1), by omega, by go_num, hide ((HO.out.drewN _).stored1 (by omega) (v + 1)), hide (fun i hi => by rw [getD_set_ne (by omega)]; exact HP.out i hi), hide (by rw [HS.out, HSK.out]; exact getD_set_eq (by rw [HO.out.len]; omega)), hide ((below_drewN HB.out _).setCell hBg _)⟩
                  case measure => simp [intOf]; omega
                · have hdl : decide (v < s - 1) = false := by simpa using hlt2
                  have HSK := hide (HSO.out (by omega))
                  clear HSN HSO HSG
                  go_wp2_with fail
                  go_quiet (fail)
                  go_wp2_with fail
                  go_roundw
                  case rel => exact ⟨k + 1, L, by omega, by go_num, hide (HO.out.drewN _), HP, hide (by rw [HS.out, HSK.out]; exact HQ.out), hide (below_drewN HB.out _)⟩
                  case measure => simp [intOf]; omega
            · have hdv : decide (0 ≤ v) = false := by simpa using hv
              have HSK := hide (HSG.out (by omega))
              clear HSN HSO HSG
              go_wp2_with fail
              go_quiet (fail)
              go_wp2_with fail
              go_roundw
              case rel => exact ⟨k + 1, L, by omega, by go_num, hide (HO.out.drewN _), HP, hide (by rw [HS.out, HSK.out]; exact HQ.out), hide (below_drewN HB.out _)⟩
              case measure => simp [intOf]; omega
          · have hy' : (m : Int) < (y : Int) := by omega
            have hdy : decide (y ≤ m) = false := by simpa using hy
            have HSK := hide (stepO_far (fs := fs) (m := m) (s := s) hy')
            go_wp2_with fail
            go_quiet (fail)
            go_wp2_with fail
            go_roundw
            case rel => exact ⟨k + 1, L, by omega, by go_num, hide (HO.out.drewN _), HP, hide (by rw [HS.out, HSK.out]; exact HQ.out), hide (below_drewN HB.out _)⟩
            case measure => simp [intOf]; omega
        · obtain rfl : k = n := by omega
          have HE := hide (show foTo xs fs m k = fw xs m from by rw [HFS.out, ← foTo_all, H1.out])
          go_wp2_with fail
          go_roundw
          case rel => exact ⟨m + 1, L, by omega, by omega, by go_num, HO, hide (fun i hi => by
            by_cases e : i = m
            · subst e; rw [HQ.out, HE.out]
            · exact HP.out i (by omega)), HB⟩
          case measure => simp [intOf]; omega
    · have HE := hide (show L = few xs N from fwTo_all HO.out.len (fun i hi => HP.out i (by omega)))
      go_wp2_with fail
      go_ret
      exact ⟨_, _, _, rfl, by rw [← HE.out]; exact HO.out, HB.out⟩
end Go.Proofs.Ytlhlcchimammlaa
