/- Walks of the document's side: a box whose states have other numbers. -/
import Derived.Test.YtkjnhdkbojcojaaWalkU
import Derived.StillTailTactics
namespace Go.Proofs.Ytkjnhdkbojcojaa
open Go.RowKit Go.Shelf
attribute [local go_sem] Oper.semAt_some

set_option maxRecDepth 100000 in
set_option maxHeartbeats 8000000 in
theorem rrename_any (A : Option Addr) (n c : Nat) (A' : Option Addr) (n' c' : Nat) (b : Bx) (T : Option Addr) (d : Nat) (ts : List Int) (w : World) (h : BxR w A n c A' n' c' b) (hb : Okx b) (ht : R E1 w T n' d ts) (hts : ∀ k, k < n' → 0 ≤ ts.getD k 0 ∧ ts.getD k 0 < n') :
    Calls Try.prog 91 #[bV A n c A' n' c', .slice T n' d] w fun e w' => ∃ A1 c1 A2 c2, e = .returned (bV A1 n' c1 A2 n' c2) ∧ OwnBox w' w.heap.size A1 n' c1 A2 n' c2 (rnTo b ts n' n') ∧ Below w.heap.size w w' := by
  have HB0 := hide (show Below w.heap.size w ((w.alloc (.cells #[.slice A n c, .slice A' n' c'] 25)).alloc (.cells #[.slice none 0 0, .slice none 0 0] 25)) from le_two (le_two (Below.refl _ _) _) _)
  have HK1 := hide ((Bk.born w 25 #[.slice A n c, .slice A' n' c']).more (.cells #[.slice none 0 0, .slice none 0 0] 25))
  have HK2 := hide (Bk.born (w.alloc (.cells #[.slice A n c, .slice A' n' c'] 25)) 25 #[.slice none 0 0, .slice none 0 0])
  rw [show (w.alloc (.cells #[.slice A n c, .slice A' n' c'] 25)).heap.size = w.heap.size + 1 from by simp] at HK2
  have HR := hide (h.below HB0.out (Nat.le_refl _))
  have HT := hide (ht.below HB0.out (Nat.le_refl _))
  have HNL := hide h.nx.length
  have HOL := hide h.ou.length
  have HTL := hide ht.length
  have HTS := hide hts
  have HOK := hide hb
  have hn6' : n' ≤ 6 := by rw [← HOL.out]; exact hb.n6
  have HNN := hide (show n = n' from by rw [← HNL.out, hb.len, HOL.out])
  clear h ht hts hb
  go_enter Try.func91, Try.ntmps91
  go_upto_region 1 with fail
  generalize (w.alloc (.cells #[.slice A n c, .slice A' n' c'] 25)).alloc (.cells #[.slice none 0 0, .slice none 0 0] 25) = W at *
  have m22 := mk22 n' (by omega)
  have m23 := mk23 n' (by omega)
  go_cut [5] from 7 (fun v wx => ∃ gp gN gI : Nat, v = .pointer (some ⟨gp, 0, none⟩) ∧ Hid (Bk wx gp 25 #[.slice (some ⟨gN, 0, none⟩) n' n', .slice (some ⟨gI, 0, none⟩) n' n']) ∧ Hid (Bk wx gN 59 (mN n')) ∧ Hid (Bk wx gI 3 (mI n')) ∧ Hid (Below W.heap.size W wx) ∧ Hid (gp ≠ gN ∧ gp ≠ gI ∧ gN ≠ gI ∧ W.heap.size ≤ gp ∧ W.heap.size ≤ gN ∧ W.heap.size ≤ gI))
  case first =>
    go_region
    all_goals
      go_wp2_with fail
      go_meet
      first
        | exact ⟨(W.heap.size + 1 + 1), W.heap.size, (W.heap.size + 1), rfl, hide ((bk3 W _ _ _).2.2), hide ((bk3 W _ _ _).1), hide ((bk3 W _ _ _).2.1), hide (by (repeat' (first | exact Below.refl _ _ | exact Nat.le_refl _ | refine Below.drew ?_ | refine below_drewN ?_ _ | refine Below.alloc ?_ ?_ _ | refine Below.setCell ?_ ?_ _)); all_goals (first | (simp; done) | (simp; omega))), hide (by omega)⟩
        | exact ⟨(W.heap.size + 1), W.heap.size, (W.heap.size + 1 + 1), rfl, hide ((bk3 W _ _ _).2.1), hide ((bk3 W _ _ _).1), hide ((bk3 W _ _ _).2.2), hide (by (repeat' (first | exact Below.refl _ _ | exact Nat.le_refl _ | refine Below.drew ?_ | refine below_drewN ?_ _ | refine Below.alloc ?_ ?_ _ | refine Below.setCell ?_ ?_ _)); all_goals (first | (simp; done) | (simp; omega))), hide (by omega)⟩
        | exact ⟨(W.heap.size + 1 + 1), (W.heap.size + 1), W.heap.size, rfl, hide ((bk3 W _ _ _).2.2), hide ((bk3 W _ _ _).2.1), hide ((bk3 W _ _ _).1), hide (by (repeat' (first | exact Below.refl _ _ | exact Nat.le_refl _ | refine Below.drew ?_ | refine below_drewN ?_ _ | refine Below.alloc ?_ ?_ _ | refine Below.setCell ?_ ?_ _)); all_goals (first | (simp; done) | (simp; omega))), hide (by omega)⟩
        | exact ⟨W.heap.size, (W.heap.size + 1), (W.heap.size + 1 + 1), rfl, hide ((bk3 W _ _ _).1), hide ((bk3 W _ _ _).2.1), hide ((bk3 W _ _ _).2.2), hide (by (repeat' (first | exact Below.refl _ _ | exact Nat.le_refl _ | refine Below.drew ?_ | refine below_drewN ?_ _ | refine Below.alloc ?_ ?_ _ | refine Below.setCell ?_ ?_ _)); all_goals (first | (simp; done) | (simp; omega))), hide (by omega)⟩
        | exact ⟨(W.heap.size + 1), (W.heap.size + 1 + 1), W.heap.size, rfl, hide ((bk3 W _ _ _).2.1), hide ((bk3 W _ _ _).2.2), hide ((bk3 W _ _ _).1), hide (by (repeat' (first | exact Below.refl _ _ | exact Nat.le_refl _ | refine Below.drew ?_ | refine below_drewN ?_ _ | refine Below.alloc ?_ ?_ _ | refine Below.setCell ?_ ?_ _)); all_goals (first | (simp; done) | (simp; omega))), hide (by omega)⟩
        | exact ⟨W.heap.size, (W.heap.size + 1 + 1), (W.heap.size + 1), rfl, hide ((bk3 W _ _ _).1), hide ((bk3 W _ _ _).2.2), hide ((bk3 W _ _ _).2.1), hide (by (repeat' (first | exact Below.refl _ _ | exact Nat.le_refl _ | refine Below.drew ?_ | refine below_drewN ?_ _ | refine Below.alloc ?_ ?_ _ | refine Below.setCell ?_ ?_ _)); all_goals (first | (simp; done) | (simp; omega))), hide (by omega)⟩
  case rest =>
  obtain ⟨gp, gN, gI, rfl, KP, KN, KI, BX, HD⟩ := hcut
  have ON0 := hide (show Own EN wc W.heap.size 59 (some ⟨gN, 0, none⟩) n' n' (rnTo b ts n' 0).1 from own_of_bk (l := List.replicate n' (0, 0)) KN.out List.length_replicate HD.out.2.2.2.2.1 (by unfold maxLen; omega))
  have OI0 := hide (show Own E1 wc W.heap.size 3 (some ⟨gI, 0, none⟩) n' n' (rnTo b ts n' 0).2 from own_of_bk (l := List.replicate n' 0) KI.out List.length_replicate HD.out.2.2.2.2.2 (by unfold maxLen; omega))
  clear m22 m23
  go_wp2_with fail
  go_loopw [6] (fun i wr => ∃ k : Nat, k ≤ n' ∧ i = .int .i64 k ∧ Hid (Own EN wr W.heap.size 59 (some ⟨gN, 0, none⟩) n' n' (rnTo b ts n' k).1) ∧ Hid (Own E1 wr W.heap.size 3 (some ⟨gI, 0, none⟩) n' n' (rnTo b ts n' k).2) ∧ Hid (Bk wr gp 25 #[.slice (some ⟨gN, 0, none⟩) n' n', .slice (some ⟨gI, 0, none⟩) n' n']) ∧ Hid (Below W.heap.size W wr)) (fun i _ => n' - (intOf i).toNat)
  case atStart => exact ⟨0, Nat.zero_le _, rfl, ON0, OI0, KP, BX⟩
  case round =>
    obtain ⟨k, hk, rfl, ON, OI, KB, BL⟩ := hrel
    by_cases hlt : k < n'
    · obtain ⟨b1, o1, hr1⟩ := HR.out.nx
      obtain ⟨b2, o2, hr2⟩ := HR.out.ou
      obtain ⟨bt, ot, hrt⟩ := HT.out
      have hkn : k < n := by rw [HNN.out]; exact hlt
      obtain rfl := hr1.at_ (by omega)
      obtain rfl := hr2.at_ (by omega)
      obtain rfl := hrt.at_ (by omega)
      have HLT := hide (show k < b.2.length by rw [HOL.out]; exact hlt)
      have HX := hide (show aft b k 0 < n' by rw [← HOL.out]; exact HOK.out.aft_lt HLT.out 0)
      have HY := hide (show aft b k 1 < n' by rw [← HOL.out]; exact HOK.out.aft_lt HLT.out 1)
      have HC1 := hide (fun x (hx : Below W.heap.size W x) => cN (hr1.below hx (Nat.le_refl _)) hkn)
      rw [HOK.out.aft0 HLT.out, HOK.out.aft1 HLT.out] at HC1
      have HC2 := hide (fun x (hx : Below W.heap.size W x) => c1 (hr2.below hx (Nat.le_refl _)) hlt)
      have HCT := hide (fun x (hx : Below W.heap.size W x) q (hq : q < n') => c1 (hrt.below hx (Nat.le_refl _)) hq)
      have HCB := hide (fun x (hx : Below W.heap.size W x) => bk_two (HK1.out.keep hx HK1.out.in_))
      obtain ⟨hp0, hp1⟩ := HTS.out k hlt
      obtain ⟨p, hp⟩ : ∃ p : Nat, ts.getD k 0 = (p : Int) := ⟨(ts.getD k 0).toNat, by omega⟩
      have HPC := hide (show p < n' by omega)
      have HN1 := hide (show (rnTo b ts n' (k + 1)).1 = (rnTo b ts n' k).1.set p (ts.getD (aft b k 0) 0, ts.getD (aft b k 1) 0) from by rw [rnTo, hp]; rfl)
      have HN2 := hide (show (rnTo b ts n' (k + 1)).2 = (rnTo b ts n' k).2.set p (b.2.getD k 0) from by rw [rnTo, hp]; rfl)
      have hctk := HCT.out _ BL.out k hlt
      have hctx := HCT.out _ BL.out _ HX.out
      have hcty := HCT.out _ BL.out _ HY.out
      rw [hp] at hctk
      have hc1 := HC1.out _ BL.out
      have hcb := HCB.out _ BL.out
      have hcp := bk_two KB.out
      have hno := own2 ON.out HPC.out
      have hf := ON.out.frozen (p * 2)
      have hf2 := ON.out.frozen (p * 2 + 1)
      have ik : (k : Int) < (n' : Int) := by omega
      have ikn : (k : Int) < (n : Int) := by omega
      have ip : (p : Int) < (n' : Int) := by have := HPC.out; omega
      have ix : (aft b k 0 : Int) < (n' : Int) := by have := HX.out; omega
      have iy : (aft b k 1 : Int) < (n' : Int) := by have := HY.out; omega
      have HP := hide hp
      clear hr1 hr2 hrt hp hp0 hp1
      generalize aft b k 0 = x at *
      generalize aft b k 1 = y at *
      generalize ts.getD x 0 = u at *
      generalize ts.getD y 0 = v at *
      go_upto_region 5 with fail
      have toR := (show ∀ p v, wr.cell? p = v → World.cell? { heap := wr.heap, tape := wr.tape, drawn := wr.drawn + 1, os := wr.os, output := wr.output } p = v from fun _ _ h => h)
      have d1 := toR _ _ hctk
      have d2 := toR _ _ hctx
      have d3 := toR _ _ hcty
      have d4 := toR _ _ hc1.1
      have d5 := toR _ _ hc1.2
      have d6 := toR _ _ hcb.1
      have d7 := toR _ _ hcb.2
      have d8 := toR _ _ hcp.1
      have d9 := toR _ _ hcp.2
      clear toR
      go_still_tail 26, (by kernel_rfl)
      clear d1 d2 d3 d4 d5 d6 d7 d8 d9
      change wpList _ _ _ _ _ wr.drew
      go_wp2_with fail
      have HGB := hide (show wr.grownBy (World.drew ((wr.setCell ⟨gN, p * 2, none⟩ (.int .i64 u)).setCell ⟨gN, p * 2 + 1, none⟩ (.int .i64 v))) (some gN) from gb_drewN (gb_set (gb_set (gb_refl wr (some gN)) _ _) _ _) 1)
      have ON5 := hide (show Own EN (World.drew ((wr.setCell ⟨gN, p * 2, none⟩ (.int .i64 u)).setCell ⟨gN, p * 2 + 1, none⟩ (.int .i64 v))) W.heap.size 59 (some ⟨gN, 0, none⟩) n' n' (rnTo b ts n' (k + 1)).1 from by rw [HN1.out]; exact (ON.out.stored2 HPC.out u v).drew)
      have OI5 := hide (OI.out.kept HGB.out (own_ne OI.out ON.out (by decide)))
      have KB5 := hide (gb_bk HGB.out KB.out HD.out.1)
      have BL5 := hide (show Below W.heap.size W (World.drew ((wr.setCell ⟨gN, p * 2, none⟩ (.int .i64 u)).setCell ⟨gN, p * 2 + 1, none⟩ (.int .i64 v))) from (Below.setCell (Below.setCell BL.out (p := ⟨gN, p * 2, none⟩) HD.out.2.2.2.2.1 _) (p := ⟨gN, p * 2 + 1, none⟩) HD.out.2.2.2.2.1 _).drew)
      generalize World.drew ((wr.setCell ⟨gN, p * 2, none⟩ (.int .i64 u)).setCell ⟨gN, p * 2 + 1, none⟩ (.int .i64 v)) = w5 at *
      have hc2 := HC2.out _ BL5.out
      have hcb5 := HCB.out _ BL5.out
      have hcp5 := bk_two KB5.out
      have hct5 := HCT.out _ BL5.out k hlt
      rw [HP.out] at hct5
      have hio := own1 OI5.out HPC.out
      have hfi := OI5.out.frozen p
      clear hctk hctx hcty hc1 hcb hcp hno hf hf2
      generalize b.2.getD k 0 = s at *
      go_wp2_with fail
      go_region
      have HGB2 := hide (show w5.grownBy (World.drew (w5.setCell ⟨gI, p, none⟩ (.int .i64 s))) (some gI) from gb_drewN (gb_set (gb_refl w5 (some gI)) _ _) 1)
      go_wp2_with fail
      go_roundw
      case rel => exact ⟨k + 1, by omega, by go_num, hide (ON5.out.kept HGB2.out (own_ne ON5.out OI5.out (by decide))), hide (by rw [HN2.out]; exact (OI5.out.stored1 HPC.out s).drew), hide (gb_bk HGB2.out KB5.out HD.out.2.1), hide (Below.setCell BL5.out (p := ⟨gI, p, none⟩) HD.out.2.2.2.2.2 _).drew⟩
      case measure => simp [intOf]; omega
    · obtain rfl : k = n' := by omega
      have hcp := bk_two KB.out
      have HK2z := hide (HK2.out.keep BL.out HK2.out.in_)
      have hk2 := bk_two HK2z.out
      have hf0 := HK2z.out.fr 0
      have hf1 := HK2z.out.fr 1
      go_wp2_with fail
      have HF := hide ((HK2z.out.put 0 (.slice (some ⟨gN, 0, none⟩) k k)).put 1 (.slice (some ⟨gI, 0, none⟩) k k))
      have hf := bk_two HF.out
      have hin := HK2.out.in_
      have OA := hide (own_other (own_other ON.out hin 0 (.slice (some ⟨gN, 0, none⟩) k k)) hin 1 (.slice (some ⟨gI, 0, none⟩) k k))
      have OB := hide (own_other (own_other OI.out hin 0 (.slice (some ⟨gN, 0, none⟩) k k)) hin 1 (.slice (some ⟨gI, 0, none⟩) k k))
      have hs2 := HB0.out.size
      have hbl := HB0.out.trans (BL.out.mono hs2)
      refine bodyPost_ret (v := bV (some ⟨gN, 0, none⟩) k k (some ⟨gI, 0, none⟩) k k) (by simp [results, Try.results91, go_sem, hf]) rfl ⟨_, k, _, k, rfl, ⟨OA.out.more hs2, OB.out.more hs2⟩, Below.setCell (Below.setCell hbl (by simp) _) (by simp) _⟩
end Go.Proofs.Ytkjnhdkbojcojaa
