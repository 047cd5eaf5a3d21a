/- Walks: numbers from one on; a box whose states have other numbers. -/
import Derived.Test.YtkjnhdkbojcojaaWalkS
import Derived.Test.YtkjnhdkbojcojaaMk
import Derived.Test.YtkjnhdkbojcojaaMR
import Derived.Deep.Cut
import Derived.Deep.CutRange
namespace Go.Proofs.Ytkjnhdkbojcojaa
open Go.RowKit Go.Shelf
attribute [local go_sem] Oper.semAt_some

set_option maxRecDepth 100000 in
set_option maxHeartbeats 4000000 in
theorem numbersFrom_any (a : Int) (c : Nat) (w : World) (ha : 0 ≤ a ∧ a ≤ 1) (hc : c ≤ 1000) :
    Calls Try.prog 85 #[.int .i64 a, .int .i64 (c : Int)] w (IntsPost (numV a c) w) := by
  have ha0 := ha.1
  have ha1 := ha.2
  clear ha
  go_enter Try.func85, Try.ntmps85
  go_wp2_with (refine wpList_mkE (E := E1) w rfl (.tmp 7) (.tmp 7) 23 3 rfl Try.underlying23 (.int .i64 0) 0 8 info_int (by decide) rfl rfl rfl w.heap.size c rfl rfl (by omega) (Nat.le_refl _) ?_; intro w2 hown hbw hlt2)
  have HO2 := hide (show Own E1 w2 w.heap.size 3 (some ⟨w.heap.size, 0, none⟩) c c (numTo a c 0) from by rw [numTo_zero]; exact hown)
  have HB2 := hide hbw
  clear hown hbw hlt2
  go_loopw [11] (fun i wr => ∃ k : Nat, k ≤ c ∧ i = .int .i64 k ∧ Hid (Own E1 wr w.heap.size 3 (some ⟨w.heap.size, 0, none⟩) c c (numTo a c k)) ∧ Hid (Below w.heap.size w wr)) (fun i _ => c - (intOf i).toNat)
  case atStart => exact ⟨0, Nat.zero_le _, rfl, HO2, HB2⟩
  case round =>
    obtain ⟨k, hk, rfl, HO, HBL⟩ := hrel
    by_cases hlt : k < c
    · have ho := own1 HO.out hlt
      have hf := HO.out.frozen k
      have HS := hide (numTo_set (a := a) hlt)
      have HST := hide (HO.out.stored1 hlt (a + k))
      have i1 : (k : Int) < (c : Int) := by omega
      go_wp2_with fail
      go_roundw
      case rel => exact ⟨k + 1, by omega, by go_num, hide (by rw [← HS.out]; exact HST.out), hide (Below.setCell HBL.out (Nat.le_refl _) _)⟩
      case measure => simp [intOf]; omega
    · obtain rfl : k = c := by omega
      go_wp2_with fail
      go_ret
      exact ⟨_, k, k, rfl, HO.out, HBL.out⟩
def mN (cnt : Nat) : Array Value := (EN.cells (List.replicate cnt (0, 0))).toArray
def mI (cnt : Nat) : Array Value := (E1.cells (List.replicate cnt 0)).toArray
theorem mk22 (cnt : Nat) (h : cnt ≤ 1000) (W : World) : (Instr.makeSlice 22 (.int .i64 (cnt : Int)) (.int .i64 (cnt : Int))).run Try.prog W = .ok (.slice (some ⟨W.heap.size, 0, none⟩) cnt cnt) (W.alloc (.cells (mN cnt) 59)) := by
  obtain ⟨i0, hi, hz0, hz1, hz2⟩ := info_parts info_two
  have hr := run_make (P := Try.prog) W 22 59 i0 _ Try.underlying22 hi hz0 .i64 .i64 cnt cnt (by omega) (Int.le_refl _) (by rw [hz2]; omega) (by omega)
  simp only [Int.toNat_natCast, hz1] at hr
  rw [hr]
  have e := madeE EN (0, 0) (.agg #[.int .i64 0, .int .i64 0]) rfl (by decide) cnt
  have e2 : madeCells (Value.agg #[.int .i64 0, .int .i64 0]).cells (cnt * 2) = mN cnt := by
    apply Array.toList_inj.1
    rw [show cnt * 2 = cnt * EN.size from rfl, e]
    simp [mN]
  rw [e2]
theorem mk23 (cnt : Nat) (h : cnt ≤ 1000) (W : World) : (Instr.makeSlice 23 (.int .i64 (cnt : Int)) (.int .i64 (cnt : Int))).run Try.prog W = .ok (.slice (some ⟨W.heap.size, 0, none⟩) cnt cnt) (W.alloc (.cells (mI cnt) 3)) := by
  obtain ⟨i0, hi, hz0, hz1, hz2⟩ := info_parts info_int
  have hr := run_make (P := Try.prog) W 23 3 i0 _ Try.underlying23 hi hz0 .i64 .i64 cnt cnt (by omega) (Int.le_refl _) (by rw [hz2]; omega) (by omega)
  simp only [Int.toNat_natCast, hz1] at hr
  rw [hr]
  have e := madeE E1 0 (.int .i64 0) rfl (by decide) cnt
  have e2 : madeCells (Value.int .i64 0).cells (cnt * 1) = mI cnt := by
    apply Array.toList_inj.1
    rw [show cnt * 1 = cnt * E1.size from rfl, e]
    simp [mI]
  rw [e2]
theorem own_of_bk {α : Type} {E : Enc α} {w : World} {B g n : Nat} {e : TypeId} {l : List α} (h : Bk w g e (E.cells l).toArray) (hl : l.length = n) (hB : B ≤ g) (hn : n ≤ maxLen) : Own E w B e (some ⟨g, 0, none⟩) n n l :=
  ⟨hl, by rw [E.cells_len, hl], .inr ⟨g, n, (E.cells l).toArray, rfl, hB, h, Nat.le_refl _, hn, by simp [E.cells_len, hl], by simp [List.take_of_length_le, E.cells_len, hl]⟩⟩
theorem bk3 (W : World) (o1 o2 o3 : Obj) : (((W.alloc o1).alloc o2).alloc o3).heap[W.heap.size]? = some o1 ∧ (((W.alloc o1).alloc o2).alloc o3).heap[W.heap.size + 1]? = some o2 ∧ (((W.alloc o1).alloc o2).alloc o3).heap[W.heap.size + 1 + 1]? = some o3 := by
  have e1 : (W.alloc o1).heap.size = W.heap.size + 1 := by simp
  have e2 : ((W.alloc o1).alloc o2).heap.size = W.heap.size + 1 + 1 := by simp
  have h2 := heap_alloc_new (W.alloc o1) o2
  have h3 := heap_alloc_new ((W.alloc o1).alloc o2) o3
  rw [e1] at h2
  rw [e2] at h3
  exact ⟨(Below.heap_alloc _ o3 _ (by omega)).trans ((Below.heap_alloc _ o2 _ (by omega)).trans (heap_alloc_new W o1)), (Below.heap_alloc _ o3 _ (by omega)).trans h2, h3⟩
set_option maxRecDepth 100000 in
set_option maxHeartbeats 8000000 in
theorem renumber_any (A : Option Addr) (n c : Nat) (A' : Option Addr) (n' c' : Nat) (b : Bx) (T : Option Addr) (d cnt : Nat) (ts : List Int) (w : World) (h : BxR w A n c A' n' c' b) (hb : Okx b) (ht : R E1 w T n' d ts) (hts : ∀ k, k < n' → 0 ≤ ts.getD k 0 ∧ ts.getD k 0 < cnt) (hcnt : cnt ≤ 1000) :
    Calls Try.prog 86 #[bV A n c A' n' c', .slice T n' d, .int .i64 (cnt : Int)] w fun e w' => ∃ A1 c1 A2 c2, e = .returned (bV A1 cnt c1 A2 cnt c2) ∧ OwnBox w' w.heap.size A1 cnt c1 A2 cnt c2 (rnTo b ts cnt n') ∧ Below w.heap.size w w' := by
  have HB0 := hide (show Below w.heap.size w ((w.alloc (.cells #[.slice A n c, .slice A' n' c'] 25)).alloc (.cells #[.slice none 0 0, .slice none 0 0] 25)) from le_two (le_two (Below.refl _ _) _) _)
  have HK1 := hide ((Bk.born w 25 #[.slice A n c, .slice A' n' c']).more (.cells #[.slice none 0 0, .slice none 0 0] 25))
  have HK2 := hide (Bk.born (w.alloc (.cells #[.slice A n c, .slice A' n' c'] 25)) 25 #[.slice none 0 0, .slice none 0 0])
  rw [show (w.alloc (.cells #[.slice A n c, .slice A' n' c'] 25)).heap.size = w.heap.size + 1 from by simp] at HK2
  have HR := hide (h.below HB0.out (Nat.le_refl _))
  have HT := hide (ht.below HB0.out (Nat.le_refl _))
  have HNL := hide h.nx.length
  have HOL := hide h.ou.length
  have HTL := hide ht.length
  have HTS := hide hts
  have HOK := hide hb
  have hn6' : n' ≤ 6 := by rw [← HOL.out]; exact hb.n6
  have HNN := hide (show n = n' from by rw [← HNL.out, hb.len, HOL.out])
  clear h ht hts hb
  go_enter Try.func86, Try.ntmps86
  go_upto_region 1 with fail
  generalize (w.alloc (.cells #[.slice A n c, .slice A' n' c'] 25)).alloc (.cells #[.slice none 0 0, .slice none 0 0] 25) = W at *
  have m22 := mk22 cnt hcnt
  have m23 := mk23 cnt hcnt
  go_cut [7] from 10 (fun v wx => ∃ gp gN gI : Nat, v = .pointer (some ⟨gp, 0, none⟩) ∧ Hid (Bk wx gp 25 #[.slice (some ⟨gN, 0, none⟩) cnt cnt, .slice (some ⟨gI, 0, none⟩) cnt cnt]) ∧ Hid (Bk wx gN 59 (mN cnt)) ∧ Hid (Bk wx gI 3 (mI cnt)) ∧ Hid (Below W.heap.size W wx) ∧ Hid (gp ≠ gN ∧ gp ≠ gI ∧ gN ≠ gI ∧ W.heap.size ≤ gp ∧ W.heap.size ≤ gN ∧ W.heap.size ≤ gI))
  case first =>
    go_region
    all_goals
      go_wp2_with fail
      go_meet
      first
        | exact ⟨(W.heap.size + 1 + 1), W.heap.size, (W.heap.size + 1), rfl, hide ((bk3 W _ _ _).2.2), hide ((bk3 W _ _ _).1), hide ((bk3 W _ _ _).2.1), hide (by (repeat' (first | exact Below.refl _ _ | exact Nat.le_refl _ | refine Below.drew ?_ | refine below_drewN ?_ _ | refine Below.alloc ?_ ?_ _ | refine Below.setCell ?_ ?_ _)); all_goals (first | (simp; done) | (simp; omega))), hide (by omega)⟩
        | exact ⟨(W.heap.size + 1), W.heap.size, (W.heap.size + 1 + 1), rfl, hide ((bk3 W _ _ _).2.1), hide ((bk3 W _ _ _).1), hide ((bk3 W _ _ _).2.2), hide (by (repeat' (first | exact Below.refl _ _ | exact Nat.le_refl _ | refine Below.drew ?_ | refine below_drewN ?_ _ | refine Below.alloc ?_ ?_ _ | refine Below.setCell ?_ ?_ _)); all_goals (first | (simp; done) | (simp; omega))), hide (by omega)⟩
        | exact ⟨(W.heap.size + 1 + 1), (W.heap.size + 1), W.heap.size, rfl, hide ((bk3 W _ _ _).2.2), hide ((bk3 W _ _ _).2.1), hide ((bk3 W _ _ _).1), hide (by (repeat' (first | exact Below.refl _ _ | exact Nat.le_refl _ | refine Below.drew ?_ | refine below_drewN ?_ _ | refine Below.alloc ?_ ?_ _ | refine Below.setCell ?_ ?_ _)); all_goals (first | (simp; done) | (simp; omega))), hide (by omega)⟩
        | exact ⟨W.heap.size, (W.heap.size + 1), (W.heap.size + 1 + 1), rfl, hide ((bk3 W _ _ _).1), hide ((bk3 W _ _ _).2.1), hide ((bk3 W _ _ _).2.2), hide (by (repeat' (first | exact Below.refl _ _ | exact Nat.le_refl _ | refine Below.drew ?_ | refine below_drewN ?_ _ | refine Below.alloc ?_ ?_ _ | refine Below.setCell ?_ ?_ _)); all_goals (first | (simp; done) | (simp; omega))), hide (by omega)⟩
        | exact ⟨(W.heap.size + 1), (W.heap.size + 1 + 1), W.heap.size, rfl, hide ((bk3 W _ _ _).2.1), hide ((bk3 W _ _ _).2.2), hide ((bk3 W _ _ _).1), hide (by (repeat' (first | exact Below.refl _ _ | exact Nat.le_refl _ | refine Below.drew ?_ | refine below_drewN ?_ _ | refine Below.alloc ?_ ?_ _ | refine Below.setCell ?_ ?_ _)); all_goals (first | (simp; done) | (simp; omega))), hide (by omega)⟩
        | exact ⟨W.heap.size, (W.heap.size + 1 + 1), (W.heap.size + 1), rfl, hide ((bk3 W _ _ _).1), hide ((bk3 W _ _ _).2.2), hide ((bk3 W _ _ _).2.1), hide (by (repeat' (first | exact Below.refl _ _ | exact Nat.le_refl _ | refine Below.drew ?_ | refine below_drewN ?_ _ | refine Below.alloc ?_ ?_ _ | refine Below.setCell ?_ ?_ _)); all_goals (first | (simp; done) | (simp; omega))), hide (by omega)⟩
  case rest =>
  obtain ⟨gp, gN, gI, rfl, KP, KN, KI, BX, HD⟩ := hcut
  have ON0 := hide (show Own EN wc W.heap.size 59 (some ⟨gN, 0, none⟩) cnt cnt (rnTo b ts cnt 0).1 from own_of_bk (l := List.replicate cnt (0, 0)) KN.out List.length_replicate HD.out.2.2.2.2.1 (by unfold maxLen; omega))
  have OI0 := hide (show Own E1 wc W.heap.size 3 (some ⟨gI, 0, none⟩) cnt cnt (rnTo b ts cnt 0).2 from own_of_bk (l := List.replicate cnt 0) KI.out List.length_replicate HD.out.2.2.2.2.2 (by unfold maxLen; omega))
  clear m22 m23
  go_wp2_with fail
  go_loopw [17] (fun i wr => ∃ k : Nat, k ≤ n' ∧ i = .int .i64 k ∧ Hid (Own EN wr W.heap.size 59 (some ⟨gN, 0, none⟩) cnt cnt (rnTo b ts cnt k).1) ∧ Hid (Own E1 wr W.heap.size 3 (some ⟨gI, 0, none⟩) cnt cnt (rnTo b ts cnt k).2) ∧ Hid (Bk wr gp 25 #[.slice (some ⟨gN, 0, none⟩) cnt cnt, .slice (some ⟨gI, 0, none⟩) cnt cnt]) ∧ Hid (Below W.heap.size W wr)) (fun i _ => n' - (intOf i).toNat)
  case atStart => exact ⟨0, Nat.zero_le _, rfl, ON0, OI0, KP, BX⟩
  case round =>
    obtain ⟨k, hk, rfl, ON, OI, KB, BL⟩ := hrel
    by_cases hlt : k < n'
    · obtain ⟨b1, o1, hr1⟩ := HR.out.nx
      obtain ⟨b2, o2, hr2⟩ := HR.out.ou
      obtain ⟨bt, ot, hrt⟩ := HT.out
      have hkn : k < n := by rw [HNN.out]; exact hlt
      obtain rfl := hr1.at_ (by omega)
      obtain rfl := hr2.at_ (by omega)
      obtain rfl := hrt.at_ (by omega)
      have HLT := hide (show k < b.2.length by rw [HOL.out]; exact hlt)
      have HX := hide (show aft b k 0 < n' by rw [← HOL.out]; exact HOK.out.aft_lt HLT.out 0)
      have HY := hide (show aft b k 1 < n' by rw [← HOL.out]; exact HOK.out.aft_lt HLT.out 1)
      have HC1 := hide (fun x (hx : Below W.heap.size W x) => cN (hr1.below hx (Nat.le_refl _)) hkn)
      rw [HOK.out.aft0 HLT.out, HOK.out.aft1 HLT.out] at HC1
      have HC2 := hide (fun x (hx : Below W.heap.size W x) => c1 (hr2.below hx (Nat.le_refl _)) hlt)
      have HCT := hide (fun x (hx : Below W.heap.size W x) q (hq : q < n') => c1 (hrt.below hx (Nat.le_refl _)) hq)
      have HCB := hide (fun x (hx : Below W.heap.size W x) => bk_two (HK1.out.keep hx HK1.out.in_))
      obtain ⟨hp0, hp1⟩ := HTS.out k hlt
      obtain ⟨p, hp⟩ : ∃ p : Nat, ts.getD k 0 = (p : Int) := ⟨(ts.getD k 0).toNat, by omega⟩
      have HPC := hide (show p < cnt by omega)
      have HN1 := hide (show (rnTo b ts cnt (k + 1)).1 = (rnTo b ts cnt k).1.set p (ts.getD (aft b k 0) 0, ts.getD (aft b k 1) 0) from by rw [rnTo, hp]; rfl)
      have HN2 := hide (show (rnTo b ts cnt (k + 1)).2 = (rnTo b ts cnt k).2.set p (b.2.getD k 0) from by rw [rnTo, hp]; rfl)
      have hctk := HCT.out _ BL.out k hlt
      have hctx := HCT.out _ BL.out _ HX.out
      have hcty := HCT.out _ BL.out _ HY.out
      rw [hp] at hctk
      have hc1 := HC1.out _ BL.out
      have hcb := HCB.out _ BL.out
      have hcp := bk_two KB.out
      have hno := own2 ON.out HPC.out
      have hf := ON.out.frozen (p * 2)
      have hf2 := ON.out.frozen (p * 2 + 1)
      have ik : (k : Int) < (n' : Int) := by omega
      have ikn : (k : Int) < (n : Int) := by omega
      have ip : (p : Int) < (cnt : Int) := by have := HPC.out; omega
      have ix : (aft b k 0 : Int) < (n' : Int) := by have := HX.out; omega
      have iy : (aft b k 1 : Int) < (n' : Int) := by have := HY.out; omega
      clear hr1 hr2 hrt hp hp0 hp1
      generalize aft b k 0 = x at *
      generalize aft b k 1 = y at *
      generalize ts.getD x 0 = u at *
      generalize ts.getD y 0 = v at *
      go_wp2_with fail
      go_region
      have HGB := hide (show wr.grownBy (World.drew ((wr.setCell ⟨gN, p * 2, none⟩ (.int .i64 u)).setCell ⟨gN, p * 2 + 1, none⟩ (.int .i64 v))) (some gN) from gb_drewN (gb_set (gb_set (gb_refl wr (some gN)) _ _) _ _) 1)
      have ON5 := hide (show Own EN (World.drew ((wr.setCell ⟨gN, p * 2, none⟩ (.int .i64 u)).setCell ⟨gN, p * 2 + 1, none⟩ (.int .i64 v))) W.heap.size 59 (some ⟨gN, 0, none⟩) cnt cnt (rnTo b ts cnt (k + 1)).1 from by rw [HN1.out]; exact (ON.out.stored2 HPC.out u v).drew)
      have OI5 := hide (OI.out.kept HGB.out (own_ne OI.out ON.out (by decide)))
      have KB5 := hide (gb_bk HGB.out KB.out HD.out.1)
      have BL5 := hide (show Below W.heap.size W (World.drew ((wr.setCell ⟨gN, p * 2, none⟩ (.int .i64 u)).setCell ⟨gN, p * 2 + 1, none⟩ (.int .i64 v))) from (Below.setCell (Below.setCell BL.out (p := ⟨gN, p * 2, none⟩) HD.out.2.2.2.2.1 _) (p := ⟨gN, p * 2 + 1, none⟩) HD.out.2.2.2.2.1 _).drew)
      generalize World.drew ((wr.setCell ⟨gN, p * 2, none⟩ (.int .i64 u)).setCell ⟨gN, p * 2 + 1, none⟩ (.int .i64 v)) = w5 at *
      have hc2 := HC2.out _ BL5.out
      have hcb5 := HCB.out _ BL5.out
      have hcp5 := bk_two KB5.out
      have hio := own1 OI5.out HPC.out
      have hfi := OI5.out.frozen p
      clear hctk hctx hcty hc1 hcb hcp hno hf hf2
      generalize b.2.getD k 0 = s at *
      go_wp2_with fail
      go_region
      have HGB2 := hide (show w5.grownBy (World.drew (w5.setCell ⟨gI, p, none⟩ (.int .i64 s))) (some gI) from gb_drewN (gb_set (gb_refl w5 (some gI)) _ _) 1)
      go_wp2_with fail
      go_roundw
      case rel => exact ⟨k + 1, by omega, by go_num, hide (ON5.out.kept HGB2.out (own_ne ON5.out OI5.out (by decide))), hide (by rw [HN2.out]; exact (OI5.out.stored1 HPC.out s).drew), hide (gb_bk HGB2.out KB5.out HD.out.2.1), hide (Below.setCell BL5.out (p := ⟨gI, p, none⟩) HD.out.2.2.2.2.2 _).drew⟩
      case measure => simp [intOf]; omega
    · obtain rfl : k = n' := by omega
      have hcp := bk_two KB.out
      have HK2z := hide (HK2.out.keep BL.out HK2.out.in_)
      have hk2 := bk_two HK2z.out
      have hf0 := HK2z.out.fr 0
      have hf1 := HK2z.out.fr 1
      go_wp2_with fail
      have HF := hide ((HK2z.out.put 0 (.slice (some ⟨gN, 0, none⟩) cnt cnt)).put 1 (.slice (some ⟨gI, 0, none⟩) cnt cnt))
      have hf := bk_two HF.out
      have hin := HK2.out.in_
      have OA := hide (own_other (own_other ON.out hin 0 (.slice (some ⟨gN, 0, none⟩) cnt cnt)) hin 1 (.slice (some ⟨gI, 0, none⟩) cnt cnt))
      have OB := hide (own_other (own_other OI.out hin 0 (.slice (some ⟨gN, 0, none⟩) cnt cnt)) hin 1 (.slice (some ⟨gI, 0, none⟩) cnt cnt))
      have hs2 := HB0.out.size
      have hbl := HB0.out.trans (BL.out.mono hs2)
      refine bodyPost_ret (v := bV (some ⟨gN, 0, none⟩) cnt cnt (some ⟨gI, 0, none⟩) cnt cnt) (by simp [results, Try.results86, go_sem, hf]) rfl ⟨_, cnt, _, cnt, rfl, ⟨OA.out.more hs2, OB.out.more hs2⟩, Below.setCell (Below.setCell hbl (by simp) _) (by simp) _⟩
end Go.Proofs.Ytkjnhdkbojcojaa
