/- Walks: sets of states. -/
import Derived.Test.YtkjnhdkbojcojaaWalkB
import Derived.Test.YtkjnhdkbojcojaaMS
namespace Go.Proofs.Ytkjnhdkbojcojaa
open Go.RowKit Go.Shelf
attribute [local go_sem] Oper.semAt_some

abbrev setA (g m : Nat) : Array Value := #[.pointer (some ⟨g, 0, none⟩), .bool (bt m 0), .bool (bt m 1), .bool (bt m 2), .bool (bt m 3), .bool (bt m 4), .bool (bt m 5)]
abbrev setV (g m : Nat) : Value := .agg (setA g m)
theorem setA_put {g m t : Nat} (ht : t < 6) : (setA g m).setIfInBounds (1 + t) (.bool true) = setA g (m ||| (1 <<< t)) := by
  simp only [setA, or_bit]
  obtain rfl | rfl | rfl | rfl | rfl | rfl : t = 0 ∨ t = 1 ∨ t = 2 ∨ t = 3 ∨ t = 4 ∨ t = 5 := by omega
  all_goals simp
theorem bk_set {w : World} {q g m : Nat} {T : TypeId} (h : Bk w q T (setA g m)) : w.cell? ⟨q, 0, none⟩ = some (.pointer (some ⟨g, 0, none⟩)) ∧ w.cell? ⟨q, 1, none⟩ = some (.bool (bt m 0)) ∧ w.cell? ⟨q, 2, none⟩ = some (.bool (bt m 1)) ∧ w.cell? ⟨q, 3, none⟩ = some (.bool (bt m 2)) ∧ w.cell? ⟨q, 4, none⟩ = some (.bool (bt m 3)) ∧ w.cell? ⟨q, 5, none⟩ = some (.bool (bt m 4)) ∧ w.cell? ⟨q, 6, none⟩ = some (.bool (bt m 5)) :=
  ⟨h.at_ 0, h.at_ 1, h.at_ 2, h.at_ 3, h.at_ 4, h.at_ 5, h.at_ 6⟩
theorem beq_one (a : Nat) : ((a : Int) == 1) = (a == 1) := by
  by_cases h : a = 1
  · subst h; rfl
  · rw [beq_eq_false_iff_ne.2 h, beq_eq_false_iff_ne.2 (show ¬ (a : Int) = 1 by omega)]
set_option maxRecDepth 100000 in
set_option maxHeartbeats 4000000 in
theorem isOne_any (g m : Nat) (w : World) :
    Calls Try.prog 84 #[setV g m] w fun e w' => e = .returned (.bool (oneS m)) ∧ Below w.heap.size w w' := by
  show Calls Try.prog 84 #[.agg #[.pointer (some ⟨g, 0, none⟩), .bool (bt m 0), .bool (bt m 1), .bool (bt m 2), .bool (bt m 3), .bool (bt m 4), .bool (bt m 5)]] w _
  have HB0 := hide ((Below.refl w.heap.size w).alloc (Nat.le_refl _) (.cells #[.pointer (some ⟨g, 0, none⟩), .bool (bt m 0), .bool (bt m 1), .bool (bt m 2), .bool (bt m 3), .bool (bt m 4), .bool (bt m 5)] 94))
  have HC0 := hide (show cntTo6 m (0 + 1) = if bt m 0 then cntTo6 m 0 + 1 else cntTo6 m 0 from rfl)
  have HL0 := hide (cntTo6_le m 0)
  have HC1 := hide (show cntTo6 m (1 + 1) = if bt m 1 then cntTo6 m 1 + 1 else cntTo6 m 1 from rfl)
  have HL1 := hide (cntTo6_le m 1)
  have HC2 := hide (show cntTo6 m (2 + 1) = if bt m 2 then cntTo6 m 2 + 1 else cntTo6 m 2 from rfl)
  have HL2 := hide (cntTo6_le m 2)
  have HC3 := hide (show cntTo6 m (3 + 1) = if bt m 3 then cntTo6 m 3 + 1 else cntTo6 m 3 from rfl)
  have HL3 := hide (cntTo6_le m 3)
  have HC4 := hide (show cntTo6 m (4 + 1) = if bt m 4 then cntTo6 m 4 + 1 else cntTo6 m 4 from rfl)
  have HL4 := hide (cntTo6_le m 4)
  have HC5 := hide (show cntTo6 m (5 + 1) = if bt m 5 then cntTo6 m 5 + 1 else cntTo6 m 5 from rfl)
  have HL5 := hide (cntTo6_le m 5)
  have HE : oneS m = (cntTo6 m 6 == 1) := rfl
  rw [HE]
  clear HE
  have HZ := hide (show cntTo6 m 0 = 0 from rfl)
  generalize bt m 0 = c0 at *
  generalize bt m 1 = c1 at *
  generalize bt m 2 = c2 at *
  generalize bt m 3 = c3 at *
  generalize bt m 4 = c4 at *
  generalize bt m 5 = c5 at *
  have x0 : ∀ w, (Instr.index 92 (.agg #[.bool c0, .bool c1, .bool c2, .bool c3, .bool c4, .bool c5]) (.int .i64 0)).run Try.prog w = .ok (.bool c0) w := fun _ => by kernel_rfl
  have x1 : ∀ w, (Instr.index 92 (.agg #[.bool c0, .bool c1, .bool c2, .bool c3, .bool c4, .bool c5]) (.int .i64 1)).run Try.prog w = .ok (.bool c1) w := fun _ => by kernel_rfl
  have x2 : ∀ w, (Instr.index 92 (.agg #[.bool c0, .bool c1, .bool c2, .bool c3, .bool c4, .bool c5]) (.int .i64 2)).run Try.prog w = .ok (.bool c2) w := fun _ => by kernel_rfl
  have x3 : ∀ w, (Instr.index 92 (.agg #[.bool c0, .bool c1, .bool c2, .bool c3, .bool c4, .bool c5]) (.int .i64 3)).run Try.prog w = .ok (.bool c3) w := fun _ => by kernel_rfl
  have x4 : ∀ w, (Instr.index 92 (.agg #[.bool c0, .bool c1, .bool c2, .bool c3, .bool c4, .bool c5]) (.int .i64 4)).run Try.prog w = .ok (.bool c4) w := fun _ => by kernel_rfl
  have x5 : ∀ w, (Instr.index 92 (.agg #[.bool c0, .bool c1, .bool c2, .bool c3, .bool c4, .bool c5]) (.int .i64 5)).run Try.prog w = .ok (.bool c5) w := fun _ => by kernel_rfl
  go_enter Try.func84, Try.ntmps84
  go_wp2_with fail
  go_loop [8, 3] (fun i v => ∃ k : Nat, k ≤ 6 ∧ i = .int .i64 k ∧ v = .int .i64 (cntTo6 m k : Nat)) (fun i _ => 6 - (intOf i).toNat)
  case atStart => exact ⟨0, by omega, rfl, by rw [HZ.out]; rfl⟩
  case round =>
    obtain ⟨k, hk, rfl, rfl⟩ := hrel
    by_cases hlt : k < 6
    · obtain rfl | rfl | rfl | rfl | rfl | rfl : k = 0 ∨ k = 1 ∨ k = 2 ∨ k = 3 ∨ k = 4 ∨ k = 5 := by omega
      · have hl := HL0.out
        have hl' : (cntTo6 m 0 : Int) ≤ 6 := by omega
        clear hl
        generalize cntTo6 m 0 = u at *
        cases c0
        all_goals
          go_wp2_with fail
          go_round
          case rel => exact ⟨1, by omega, by go_num, by rw [HC0.out]; go_num⟩
          case measure => simp [intOf]
      · have hl := HL1.out
        have hl' : (cntTo6 m 1 : Int) ≤ 6 := by omega
        clear hl
        generalize cntTo6 m 1 = u at *
        cases c1
        all_goals
          go_wp2_with fail
          go_round
          case rel => exact ⟨2, by omega, by go_num, by rw [HC1.out]; go_num⟩
          case measure => simp [intOf]
      · have hl := HL2.out
        have hl' : (cntTo6 m 2 : Int) ≤ 6 := by omega
        clear hl
        generalize cntTo6 m 2 = u at *
        cases c2
        all_goals
          go_wp2_with fail
          go_round
          case rel => exact ⟨3, by omega, by go_num, by rw [HC2.out]; go_num⟩
          case measure => simp [intOf]
      · have hl := HL3.out
        have hl' : (cntTo6 m 3 : Int) ≤ 6 := by omega
        clear hl
        generalize cntTo6 m 3 = u at *
        cases c3
        all_goals
          go_wp2_with fail
          go_round
          case rel => exact ⟨4, by omega, by go_num, by rw [HC3.out]; go_num⟩
          case measure => simp [intOf]
      · have hl := HL4.out
        have hl' : (cntTo6 m 4 : Int) ≤ 6 := by omega
        clear hl
        generalize cntTo6 m 4 = u at *
        cases c4
        all_goals
          go_wp2_with fail
          go_round
          case rel => exact ⟨5, by omega, by go_num, by rw [HC4.out]; go_num⟩
          case measure => simp [intOf]
      · have hl := HL5.out
        have hl' : (cntTo6 m 5 : Int) ≤ 6 := by omega
        clear hl
        generalize cntTo6 m 5 = u at *
        cases c5
        all_goals
          go_wp2_with fail
          go_round
          case rel => exact ⟨6, by omega, by go_num, by rw [HC5.out]; go_num⟩
          case measure => simp [intOf]
    · obtain rfl : k = 6 := by omega
      go_wp2_with fail
      go_ret
      exact ⟨ret_bool (beq_one _), HB0.out⟩
theorem bk_sev {w : World} {q : Nat} {T : TypeId} {a b c d e f g : Value} (h : Bk w q T #[a, b, c, d, e, f, g]) : w.cell? ⟨q, 0, none⟩ = some a ∧ w.cell? ⟨q, 1, none⟩ = some b ∧ w.cell? ⟨q, 2, none⟩ = some c ∧ w.cell? ⟨q, 3, none⟩ = some d ∧ w.cell? ⟨q, 4, none⟩ = some e ∧ w.cell? ⟨q, 5, none⟩ = some f ∧ w.cell? ⟨q, 6, none⟩ = some g :=
  ⟨h.at_ 0, h.at_ 1, h.at_ 2, h.at_ 3, h.at_ 4, h.at_ 5, h.at_ 6⟩
theorem bk_res {w : World} {q : Nat} {T : TypeId} {cs : Array Value} (h : Bk w q T cs) (i : Nat) (v : Value) (hi : i < cs.size) : w.frozen? ⟨q, i, none⟩ = false ∧ ∃ u, w.cell? ⟨q, i, none⟩ = some u := ⟨h.fr i, cs[i], by rw [h.at_ i]; exact Array.getElem?_eq_getElem hi⟩
set_option maxRecDepth 100000 in
set_option maxHeartbeats 8000000 in
theorem aftS_any (g m : Nat) (b : Bx) (x : Int) (w : World) (h : BoxAt w g b) (hb : Okx b) (hm : m < 2 ^ b.2.length) (hx : x = 0 ∨ x = 1) :
    Calls Try.prog 83 #[setV g m, .int .i64 x] w fun e w' => e = .returned (setV g (aftS b m x)) ∧ Below w.heap.size w w' := by
  show Calls Try.prog 83 #[.agg #[.pointer (some ⟨g, 0, none⟩), .bool (bt m 0), .bool (bt m 1), .bool (bt m 2), .bool (bt m 3), .bool (bt m 4), .bool (bt m 5)], .int .i64 x] w _
  have HOK := hide hb
  have HC0 := hide (show aftTo b x m (0 + 1) = if bt m 0 then aftTo b x m 0 ||| (1 <<< aft b 0 x) else aftTo b x m 0 from rfl)
  have HL0 := hide (fun (hk : bt m 0 = true) => bit_lt hm hk)
  have HC1 := hide (show aftTo b x m (1 + 1) = if bt m 1 then aftTo b x m 1 ||| (1 <<< aft b 1 x) else aftTo b x m 1 from rfl)
  have HL1 := hide (fun (hk : bt m 1 = true) => bit_lt hm hk)
  have HC2 := hide (show aftTo b x m (2 + 1) = if bt m 2 then aftTo b x m 2 ||| (1 <<< aft b 2 x) else aftTo b x m 2 from rfl)
  have HL2 := hide (fun (hk : bt m 2 = true) => bit_lt hm hk)
  have HC3 := hide (show aftTo b x m (3 + 1) = if bt m 3 then aftTo b x m 3 ||| (1 <<< aft b 3 x) else aftTo b x m 3 from rfl)
  have HL3 := hide (fun (hk : bt m 3 = true) => bit_lt hm hk)
  have HC4 := hide (show aftTo b x m (4 + 1) = if bt m 4 then aftTo b x m 4 ||| (1 <<< aft b 4 x) else aftTo b x m 4 from rfl)
  have HL4 := hide (fun (hk : bt m 4 = true) => bit_lt hm hk)
  have HC5 := hide (show aftTo b x m (5 + 1) = if bt m 5 then aftTo b x m 5 ||| (1 <<< aft b 5 x) else aftTo b x m 5 from rfl)
  have HL5 := hide (fun (hk : bt m 5 = true) => bit_lt hm hk)
  have HZ := hide (show aftTo b x m 0 = 0 from rfl)
  have HE := hide (show aftS b m x = aftTo b x m 6 from rfl)
  have HG := hide h.lt
  have HBX := hide h
  clear h hm
  generalize bt m 0 = c0 at *
  generalize bt m 1 = c1 at *
  generalize bt m 2 = c2 at *
  generalize bt m 3 = c3 at *
  generalize bt m 4 = c4 at *
  generalize bt m 5 = c5 at *
  have x0 : ∀ w, (Instr.index 92 (.agg #[.bool c0, .bool c1, .bool c2, .bool c3, .bool c4, .bool c5]) (.int .i64 0)).run Try.prog w = .ok (.bool c0) w := fun _ => by kernel_rfl
  have x1 : ∀ w, (Instr.index 92 (.agg #[.bool c0, .bool c1, .bool c2, .bool c3, .bool c4, .bool c5]) (.int .i64 1)).run Try.prog w = .ok (.bool c1) w := fun _ => by kernel_rfl
  have x2 : ∀ w, (Instr.index 92 (.agg #[.bool c0, .bool c1, .bool c2, .bool c3, .bool c4, .bool c5]) (.int .i64 2)).run Try.prog w = .ok (.bool c2) w := fun _ => by kernel_rfl
  have x3 : ∀ w, (Instr.index 92 (.agg #[.bool c0, .bool c1, .bool c2, .bool c3, .bool c4, .bool c5]) (.int .i64 3)).run Try.prog w = .ok (.bool c3) w := fun _ => by kernel_rfl
  have x4 : ∀ w, (Instr.index 92 (.agg #[.bool c0, .bool c1, .bool c2, .bool c3, .bool c4, .bool c5]) (.int .i64 4)).run Try.prog w = .ok (.bool c4) w := fun _ => by kernel_rfl
  have x5 : ∀ w, (Instr.index 92 (.agg #[.bool c0, .bool c1, .bool c2, .bool c3, .bool c4, .bool c5]) (.int .i64 5)).run Try.prog w = .ok (.bool c5) w := fun _ => by kernel_rfl
  have HB0 := hide ((((Below.refl w.heap.size w).alloc (Nat.le_refl _) (.cells #[.pointer (some ⟨g, 0, none⟩), .bool c0, .bool c1, .bool c2, .bool c3, .bool c4, .bool c5] 94)).alloc (by simp) (.cells #[.pointer none, .bool false, .bool false, .bool false, .bool false, .bool false, .bool false] 94)).alloc (by simp; omega) (.cells #[.pointer (some ⟨g, 0, none⟩), .bool false, .bool false, .bool false, .bool false, .bool false, .bool false] 94))
  have HK1 := hide (((Bk.born w 94 #[.pointer (some ⟨g, 0, none⟩), .bool c0, .bool c1, .bool c2, .bool c3, .bool c4, .bool c5]).more (.cells #[.pointer none, .bool false, .bool false, .bool false, .bool false, .bool false, .bool false] 94)).more (.cells #[.pointer (some ⟨g, 0, none⟩), .bool false, .bool false, .bool false, .bool false, .bool false, .bool false] 94))
  have HK2 := hide ((Bk.born (w.alloc (.cells #[.pointer (some ⟨g, 0, none⟩), .bool c0, .bool c1, .bool c2, .bool c3, .bool c4, .bool c5] 94)) 94 #[.pointer none, .bool false, .bool false, .bool false, .bool false, .bool false, .bool false]).more (.cells #[.pointer (some ⟨g, 0, none⟩), .bool false, .bool false, .bool false, .bool false, .bool false, .bool false] 94))
  have HK3 := hide (Bk.born ((w.alloc (.cells #[.pointer (some ⟨g, 0, none⟩), .bool c0, .bool c1, .bool c2, .bool c3, .bool c4, .bool c5] 94)).alloc (.cells #[.pointer none, .bool false, .bool false, .bool false, .bool false, .bool false, .bool false] 94)) 94 #[.pointer (some ⟨g, 0, none⟩), .bool false, .bool false, .bool false, .bool false, .bool false, .bool false])
  rw [show (w.alloc (.cells #[.pointer (some ⟨g, 0, none⟩), .bool c0, .bool c1, .bool c2, .bool c3, .bool c4, .bool c5] 94)).heap.size = w.heap.size + 1 from by simp] at HK2
  rw [show ((w.alloc (.cells #[.pointer (some ⟨g, 0, none⟩), .bool c0, .bool c1, .bool c2, .bool c3, .bool c4, .bool c5] 94)).alloc (.cells #[.pointer none, .bool false, .bool false, .bool false, .bool false, .bool false, .bool false] 94)).heap.size = w.heap.size + 1 + 1 from by simp] at HK3
  have HX3 := hide (HBX.out.below HB0.out (Nat.le_refl _))
  have HZA := hide (show #[.pointer (some ⟨g, 0, none⟩), .bool false, .bool false, .bool false, .bool false, .bool false, .bool false] = setA g 0 from rfl)
  go_enter Try.func83, Try.ntmps83
  go_wp2_with fail
  generalize ((w.alloc (.cells #[.pointer (some ⟨g, 0, none⟩), .bool c0, .bool c1, .bool c2, .bool c3, .bool c4, .bool c5] 94)).alloc (.cells #[.pointer none, .bool false, .bool false, .bool false, .bool false, .bool false, .bool false] 94)).alloc (.cells #[.pointer (some ⟨g, 0, none⟩), .bool false, .bool false, .bool false, .bool false, .bool false, .bool false] 94) = W3 at *
  rw [HZA.out] at HK3
  have HGZ := hide (show g < w.heap.size + 1 + 1 from by have := HG.out; omega)
  go_loopw [13] (fun i wr => ∃ k : Nat, k ≤ 6 ∧ i = .int .i64 k ∧ Hid (Bk wr (w.heap.size + 1 + 1) 94 (setA g (aftTo b x m k))) ∧ Hid (Below (w.heap.size + 1 + 1) W3 wr)) (fun i _ => 6 - (intOf i).toNat)
  case atStart => exact ⟨0, by omega, rfl, by rw [HZ.out]; exact HK3, hide (Below.refl _ _)⟩
  case round =>
    obtain ⟨k, hk, rfl, HK, HBL⟩ := hrel
    have HX := hide (HBX.out.below (HB0.out.trans (HBL.out.mono (by omega))) (Nat.le_refl _))
    by_cases hlt : k < 6
    · obtain rfl | rfl | rfl | rfl | rfl | rfl : k = 0 ∨ k = 1 ∨ k = 2 ∨ k = 3 ∨ k = 4 ∨ k = 5 := by omega
      · cases c0
        · go_wp2_with fail
          go_roundw
          case rel => exact ⟨1, by omega, by go_num, by rw [HC0.out]; exact HK, HBL⟩
          case measure => simp [intOf]
        · have hkl := HL0.out rfl
          have HTL := hide (HOK.out.aft_lt hkl x)
          have ht6 : aft b 0 x < 6 := Nat.lt_of_lt_of_le HTL.out HOK.out.n6
          obtain ⟨A, n, c, A', n', c', hbk, hbr⟩ := HX.out
          obtain ⟨b1, o1, hr1⟩ := hbr.nx
          have hl1 := hr1.len
          have hl2 := HOK.out.len
          have hkn : 0 < n := by omega
          obtain rfl := hr1.at_ (by omega)
          have hcn := cN hr1 hkn
          rw [HOK.out.aft0 hkl, HOK.out.aft1 hkl] at hcn
          simp only [Nat.zero_mul, Nat.add_zero] at hcn
          have hcb := bk_two hbk
          have hcs := bk_set HK.out
          have hcp := (HK1.out.keep HBL.out (by omega)).at_ 0
          have hfr := HK.out.fr (1 + aft b 0 x)
          obtain ⟨_, u, hu⟩ := bk_res HK.out (1 + aft b 0 x) (.bool true) (by simp; omega)
          have HP := hide (HK.out.put (1 + aft b 0 x) (.bool true))
          rw [setA_put ht6] at HP
          have i6 : (aft b 0 x : Int) < 6 := by omega
          have ik : (0 : Int) < (n : Int) := by omega
          clear hr1 hbk hbr hl1 hl2
          rcases hx with rfl | rfl
          all_goals
            generalize hga : aft b 0 0 = a0 at *
            generalize hgb : aft b 0 1 = a1 at *
            go_wp2_with fail
            go_roundw
            case rel => exact ⟨1, by omega, by go_num, by rw [HC0.out, if_pos rfl]; first | (rw [hga]; exact HP) | (rw [hgb]; exact HP) | exact HP, hide (Below.setCell HBL.out (Nat.le_refl _) _)⟩
            case measure => simp [intOf]
      · cases c1
        · go_wp2_with fail
          go_roundw
          case rel => exact ⟨2, by omega, by go_num, by rw [HC1.out]; exact HK, HBL⟩
          case measure => simp [intOf]
        · have hkl := HL1.out rfl
          have HTL := hide (HOK.out.aft_lt hkl x)
          have ht6 : aft b 1 x < 6 := Nat.lt_of_lt_of_le HTL.out HOK.out.n6
          obtain ⟨A, n, c, A', n', c', hbk, hbr⟩ := HX.out
          obtain ⟨b1, o1, hr1⟩ := hbr.nx
          have hl1 := hr1.len
          have hl2 := HOK.out.len
          have hkn : 1 < n := by omega
          obtain rfl := hr1.at_ (by omega)
          have hcn := cN hr1 hkn
          rw [HOK.out.aft0 hkl, HOK.out.aft1 hkl] at hcn
          have hcb := bk_two hbk
          have hcs := bk_set HK.out
          have hcp := (HK1.out.keep HBL.out (by omega)).at_ 0
          have hfr := HK.out.fr (1 + aft b 1 x)
          obtain ⟨_, u, hu⟩ := bk_res HK.out (1 + aft b 1 x) (.bool true) (by simp; omega)
          have HP := hide (HK.out.put (1 + aft b 1 x) (.bool true))
          rw [setA_put ht6] at HP
          have i6 : (aft b 1 x : Int) < 6 := by omega
          have ik : (1 : Int) < (n : Int) := by omega
          clear hr1 hbk hbr hl1 hl2
          rcases hx with rfl | rfl
          all_goals
            generalize hga : aft b 1 0 = a0 at *
            generalize hgb : aft b 1 1 = a1 at *
            go_wp2_with fail
            go_roundw
            case rel => exact ⟨2, by omega, by go_num, by rw [HC1.out, if_pos rfl]; first | (rw [hga]; exact HP) | (rw [hgb]; exact HP) | exact HP, hide (Below.setCell HBL.out (Nat.le_refl _) _)⟩
            case measure => simp [intOf]
      · cases c2
        · go_wp2_with fail
          go_roundw
          case rel => exact ⟨3, by omega, by go_num, by rw [HC2.out]; exact HK, HBL⟩
          case measure => simp [intOf]
        · have hkl := HL2.out rfl
          have HTL := hide (HOK.out.aft_lt hkl x)
          have ht6 : aft b 2 x < 6 := Nat.lt_of_lt_of_le HTL.out HOK.out.n6
          obtain ⟨A, n, c, A', n', c', hbk, hbr⟩ := HX.out
          obtain ⟨b1, o1, hr1⟩ := hbr.nx
          have hl1 := hr1.len
          have hl2 := HOK.out.len
          have hkn : 2 < n := by omega
          obtain rfl := hr1.at_ (by omega)
          have hcn := cN hr1 hkn
          rw [HOK.out.aft0 hkl, HOK.out.aft1 hkl] at hcn
          have hcb := bk_two hbk
          have hcs := bk_set HK.out
          have hcp := (HK1.out.keep HBL.out (by omega)).at_ 0
          have hfr := HK.out.fr (1 + aft b 2 x)
          obtain ⟨_, u, hu⟩ := bk_res HK.out (1 + aft b 2 x) (.bool true) (by simp; omega)
          have HP := hide (HK.out.put (1 + aft b 2 x) (.bool true))
          rw [setA_put ht6] at HP
          have i6 : (aft b 2 x : Int) < 6 := by omega
          have ik : (2 : Int) < (n : Int) := by omega
          clear hr1 hbk hbr hl1 hl2
          rcases hx with rfl | rfl
          all_goals
            generalize hga : aft b 2 0 = a0 at *
            generalize hgb : aft b 2 1 = a1 at *
            go_wp2_with fail
            go_roundw
            case rel => exact ⟨3, by omega, by go_num, by rw [HC2.out, if_pos rfl]; first | (rw [hga]; exact HP) | (rw [hgb]; exact HP) | exact HP, hide (Below.setCell HBL.out (Nat.le_refl _) _)⟩
            case measure => simp [intOf]
      · cases c3
        · go_wp2_with fail
          go_roundw
          case rel => exact ⟨4, by omega, by go_num, by rw [HC3.out]; exact HK, HBL⟩
          case measure => simp [intOf]
        · have hkl := HL3.out rfl
          have HTL := hide (HOK.out.aft_lt hkl x)
          have ht6 : aft b 3 x < 6 := Nat.lt_of_lt_of_le HTL.out HOK.out.n6
          obtain ⟨A, n, c, A', n', c', hbk, hbr⟩ := HX.out
          obtain ⟨b1, o1, hr1⟩ := hbr.nx
          have hl1 := hr1.len
          have hl2 := HOK.out.len
          have hkn : 3 < n := by omega
          obtain rfl := hr1.at_ (by omega)
          have hcn := cN hr1 hkn
          rw [HOK.out.aft0 hkl, HOK.out.aft1 hkl] at hcn
          have hcb := bk_two hbk
          have hcs := bk_set HK.out
          have hcp := (HK1.out.keep HBL.out (by omega)).at_ 0
          have hfr := HK.out.fr (1 + aft b 3 x)
          obtain ⟨_, u, hu⟩ := bk_res HK.out (1 + aft b 3 x) (.bool true) (by simp; omega)
          have HP := hide (HK.out.put (1 + aft b 3 x) (.bool true))
          rw [setA_put ht6] at HP
          have i6 : (aft b 3 x : Int) < 6 := by omega
          have ik : (3 : Int) < (n : Int) := by omega
          clear hr1 hbk hbr hl1 hl2
          rcases hx with rfl | rfl
          all_goals
            generalize hga : aft b 3 0 = a0 at *
            generalize hgb : aft b 3 1 = a1 at *
            go_wp2_with fail
            go_roundw
            case rel => exact ⟨4, by omega, by go_num, by rw [HC3.out, if_pos rfl]; first | (rw [hga]; exact HP) | (rw [hgb]; exact HP) | exact HP, hide (Below.setCell HBL.out (Nat.le_refl _) _)⟩
            case measure => simp [intOf]
      · cases c4
        · go_wp2_with fail
          go_roundw
          case rel => exact ⟨5, by omega, by go_num, by rw [HC4.out]; exact HK, HBL⟩
          case measure => simp [intOf]
        · have hkl := HL4.out rfl
          have HTL := hide (HOK.out.aft_lt hkl x)
          have ht6 : aft b 4 x < 6 := Nat.lt_of_lt_of_le HTL.out HOK.out.n6
          obtain ⟨A, n, c, A', n', c', hbk, hbr⟩ := HX.out
          obtain ⟨b1, o1, hr1⟩ := hbr.nx
          have hl1 := hr1.len
          have hl2 := HOK.out.len
          have hkn : 4 < n := by omega
          obtain rfl := hr1.at_ (by omega)
          have hcn := cN hr1 hkn
          rw [HOK.out.aft0 hkl, HOK.out.aft1 hkl] at hcn
          have hcb := bk_two hbk
          have hcs := bk_set HK.out
          have hcp := (HK1.out.keep HBL.out (by omega)).at_ 0
          have hfr := HK.out.fr (1 + aft b 4 x)
          obtain ⟨_, u, hu⟩ := bk_res HK.out (1 + aft b 4 x) (.bool true) (by simp; omega)
          have HP := hide (HK.out.put (1 + aft b 4 x) (.bool true))
          rw [setA_put ht6] at HP
          have i6 : (aft b 4 x : Int) < 6 := by omega
          have ik : (4 : Int) < (n : Int) := by omega
          clear hr1 hbk hbr hl1 hl2
          rcases hx with rfl | rfl
          all_goals
            generalize hga : aft b 4 0 = a0 at *
            generalize hgb : aft b 4 1 = a1 at *
            go_wp2_with fail
            go_roundw
            case rel => exact ⟨5, by omega, by go_num, by rw [HC4.out, if_pos rfl]; first | (rw [hga]; exact HP) | (rw [hgb]; exact HP) | exact HP, hide (Below.setCell HBL.out (Nat.le_refl _) _)⟩
            case measure => simp [intOf]
      · cases c5
        · go_wp2_with fail
          go_roundw
          case rel => exact ⟨6, by omega, by go_num, by rw [HC5.out]; exact HK, HBL⟩
          case measure => simp [intOf]
        · have hkl := HL5.out rfl
          have HTL := hide (HOK.out.aft_lt hkl x)
          have ht6 : aft b 5 x < 6 := Nat.lt_of_lt_of_le HTL.out HOK.out.n6
          obtain ⟨A, n, c, A', n', c', hbk, hbr⟩ := HX.out
          obtain ⟨b1, o1, hr1⟩ := hbr.nx
          have hl1 := hr1.len
          have hl2 := HOK.out.len
          have hkn : 5 < n := by omega
          obtain rfl := hr1.at_ (by omega)
          have hcn := cN hr1 hkn
          rw [HOK.out.aft0 hkl, HOK.out.aft1 hkl] at hcn
          have hcb := bk_two hbk
          have hcs := bk_set HK.out
          have hcp := (HK1.out.keep HBL.out (by omega)).at_ 0
          have hfr := HK.out.fr (1 + aft b 5 x)
          obtain ⟨_, u, hu⟩ := bk_res HK.out (1 + aft b 5 x) (.bool true) (by simp; omega)
          have HP := hide (HK.out.put (1 + aft b 5 x) (.bool true))
          rw [setA_put ht6] at HP
          have i6 : (aft b 5 x : Int) < 6 := by omega
          have ik : (5 : Int) < (n : Int) := by omega
          clear hr1 hbk hbr hl1 hl2
          rcases hx with rfl | rfl
          all_goals
            generalize hga : aft b 5 0 = a0 at *
            generalize hgb : aft b 5 1 = a1 at *
            go_wp2_with fail
            go_roundw
            case rel => exact ⟨6, by omega, by go_num, by rw [HC5.out, if_pos rfl]; first | (rw [hga]; exact HP) | (rw [hgb]; exact HP) | exact HP, hide (Below.setCell HBL.out (Nat.le_refl _) _)⟩
            case measure => simp [intOf]
    · obtain rfl : k = 6 := by omega
      have hcs := bk_set HK.out
      have HK2' := hide (HK2.out.keep HBL.out (by omega))
      have hk2 := bk_sev HK2'.out
      have hk2f := fun i => HK2'.out.fr i
      have f0 := hk2f 0
      have f1 := hk2f 1
      have f2 := hk2f 2
      have f3 := hk2f 3
      have f4 := hk2f 4
      have f5 := hk2f 5
      have f6 := hk2f 6
      clear hk2f
      go_wp2_with fail
      have HF := hide (((((((HK2'.out.put 0 (.pointer (some ⟨g, 0, none⟩))).put 1 (.bool (bt (aftTo b x m 6) 0))).put 2 (.bool (bt (aftTo b x m 6) 1))).put 3 (.bool (bt (aftTo b x m 6) 2))).put 4 (.bool (bt (aftTo b x m 6) 3))).put 5 (.bool (bt (aftTo b x m 6) 4))).put 6 (.bool (bt (aftTo b x m 6) 5)))
      have HFB := hide (Below.setCell (Below.setCell (Below.setCell (Below.setCell (Below.setCell (Below.setCell (Below.setCell (HB0.out.trans (HBL.out.mono (by omega))) (p := ⟨w.heap.size + 1, 0, none⟩) (by simp) (.pointer (some ⟨g, 0, none⟩))) (p := ⟨w.heap.size + 1, 1, none⟩) (by simp) (.bool (bt (aftTo b x m 6) 0))) (p := ⟨w.heap.size + 1, 2, none⟩) (by simp) (.bool (bt (aftTo b x m 6) 1))) (p := ⟨w.heap.size + 1, 3, none⟩) (by simp) (.bool (bt (aftTo b x m 6) 2))) (p := ⟨w.heap.size + 1, 4, none⟩) (by simp) (.bool (bt (aftTo b x m 6) 3))) (p := ⟨w.heap.size + 1, 5, none⟩) (by simp) (.bool (bt (aftTo b x m 6) 4))) (p := ⟨w.heap.size + 1, 6, none⟩) (by simp) (.bool (bt (aftTo b x m 6) 5)))
      have hf := bk_sev HF.out
      rw [HE.out]
      refine bodyPost_ret (v := setV g (aftTo b x m 6)) ?_ rfl ⟨rfl, HFB.out⟩
      simp [results, Try.results83, go_sem, hf]
end Go.Proofs.Ytkjnhdkbojcojaa
