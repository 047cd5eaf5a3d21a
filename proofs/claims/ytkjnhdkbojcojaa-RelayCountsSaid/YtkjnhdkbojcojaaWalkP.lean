/- Walks of the document's side: to how many words a signal is the last one. -/
import Derived.Test.YtkjnhdkbojcojaaWalkE
namespace Go.Proofs.Ytkjnhdkbojcojaa
open Go.RowKit Go.Shelf
attribute [local go_sem] Oper.semAt_some

set_option maxRecDepth 100000 in
set_option maxHeartbeats 8000000 in
theorem rCount_any (A : Option Addr) (n c : Nat) (A' : Option Addr) (n' c' : Nat) (b : Bx) (r o : Int) (w : World) (h : BxR w A n c A' n' c' b) :
    Calls Try.prog 47 #[bV A n c A' n' c', .int .i64 r, .int .i64 o] w fun e w' => e = .returned (.tuple #[.int .i64 (cntF b r o), .int .i64 (errT b r o)]) ∧ Below w.heap.size w w' := by
  have HB0 := hide ((Below.refl w.heap.size w).alloc (Nat.le_refl _) (.cells #[.slice A n c, .slice A' n' c'] 25))
  have HR0 := hide (h.below HB0.out (Nat.le_refl _))
  have HK0 := hide (Bk.born w 25 #[.slice A n c, .slice A' n' c'])
  have HBN := hide h.ou.length
  have HNL := hide h.nx.length
  clear h
  by_cases he : errX b = 0
  · have hee : (errX b != 0) = false := by simp [he]
    have HE := hide he
    have hok := okx_of he
    have hn1 : 1 ≤ n' := by rw [← HBN.out]; exact hok.n1
    have hn6 : n' ≤ 6 := by rw [← HBN.out]; exact hok.n6
    have HOK := hide hok
    clear he hok
    by_cases hr : ¬ (0 ≤ r ∧ r ≤ 20)
    · have HT := hide (errT_arg (n := r) (o := o) HE.out (by omega))
      have HW := hide (withinB_false (n := r) (lo := 0) (hi := 20) (by omega))
      clear hr
      go_enter Try.func47, Try.ntmps47
      go_wp2_with (first
        | (go_at_call 26; refine (rValidate_any _ _ _ _ _ _ b _ HR0.out).mono ?_; rintro e w1 ⟨rfl, D1⟩; have D1h := hide D1)
        | (go_at_call 66; refine (within_any r 0 20 _).mono ?_; rintro e w3 ⟨rfl, rfl⟩; rw [HW.out]))
      go_ret2
      exact ⟨by rw [cntF_no (by rw [HT.out]; decide), HT.out]; rfl, le_call HB0.out D1h.out⟩
    have hr0 : 0 ≤ r ∧ r ≤ 20 := Decidable.of_not_not hr
    have hr0' : 0 ≤ r := hr0.1
    have hr20' : r ≤ 20 := hr0.2
    clear hr hr0
    have HW := hide (withinB_true (n := r) (lo := 0) (hi := 20) hr0' hr20')
    cases ho : sigB o with
    | false =>
      have HT := hide (errT_arg (n := r) (o := o) HE.out (by rw [ho]; simp))
      have HO := hide ((sigB_within o).trans ho)
      clear ho
      go_enter Try.func47, Try.ntmps47
      go_wp2_with (first
        | (have hgd := S1; clear hgd; go_at_call 66; refine (within_any o 0 3 _).mono ?_; rintro e w3 ⟨rfl, rfl⟩; rw [HO.out])
        | (go_at_call 26; refine (rValidate_any _ _ _ _ _ _ b _ HR0.out).mono ?_; rintro e w1 ⟨rfl, D1⟩; have D1h := hide D1)
        | (go_at_call 66; refine (within_any r 0 20 _).mono ?_; rintro e w3 ⟨rfl, rfl⟩; rw [HW.out]; have S1 := D1h))
      go_ret2
      exact ⟨by rw [cntF_no (by rw [HT.out]; decide), HT.out]; rfl, le_call HB0.out D1h.out⟩
    | true =>
    have HT := hide (errT_fine (n := r) (o := o) HE.out ⟨hr0', hr20', ho⟩)
    have HO := hide ((sigB_within o).trans ho)
    clear ho
    obtain ⟨N, rfl⟩ : ∃ N : Nat, r = N := ⟨r.toNat, by omega⟩
    have hN : N ≤ 20 := by omega
    go_enter Try.func47, Try.ntmps47
    go_wp2_with (first
      | (have hgd := S1; clear hgd; go_at_call 66; refine (within_any o 0 3 _).mono ?_; rintro e w3 ⟨rfl, rfl⟩; rw [HO.out])
      | (go_at_call 26; refine (rValidate_any _ _ _ _ _ _ b _ HR0.out).mono ?_; rintro e w1 ⟨rfl, D1⟩; have f1 := bk_two (HK0.out.keep D1 HK0.out.in_); have D1h := hide D1)
      | (go_at_call 66; refine (within_any N 0 20 _).mono ?_; rintro e w3 ⟨rfl, rfl⟩; rw [HW.out]; have S1 := D1h)
      | (refine wpList_mkE (E := E1) _ rfl (.tmp 30) (.tmp 30) 23 3 rfl Try.underlying23 (.int .i64 0) 0 8 info_int (by decide) rfl rfl rfl w1.heap.size n' rfl rfl (by omega) (Nat.le_refl _) ?_; intro w2 hown hbw hlt2; have f2 := bk_two ((HK0.out.keep D1h.out HK0.out.in_).keep hbw (Nat.lt_of_lt_of_le HK0.out.in_ D1h.out.size)); have f3 := own1 hown (k := 0) (by omega); have f4 := hown.frozen 0; have HOW := hide (hown.stored1 (k := 0) (by omega) 1)))
    have HBA := hide (show Below w1.heap.size w1 (w2.setCell ⟨w1.heap.size, 0, none⟩ (.int .i64 1)) from Below.setCell hbw (Nat.le_refl _) _)
    have HD1 := hide (le_call HB0.out D1h.out)
    have HR1 := hide (HR0.out.below D1h.out (Nat.le_refl _))
    have HK1 := hide (HK0.out.keep D1h.out HK0.out.in_)
    have HW0 := hide (show (List.replicate n' (0 : Int)).set 0 1 = wds b 0 from by rw [wds, HBN.out])
    rw [HW0.out] at HOW
    clear hown hbw f1 f2 f3 f4 hlt2 D1 S1
    generalize w2.setCell ⟨w1.heap.size, 0, none⟩ (.int .i64 1) = W2 at *
    go_loopw [10, 9] (fun i v wr => ∃ (k : Nat) (Wp : Option Addr) (cp : Nat), k ≤ N ∧ i = .int .i64 k ∧ v = .slice Wp n' cp ∧ Hid (Own E1 wr w1.heap.size 3 Wp n' cp (wds b k)) ∧ Hid (Below w1.heap.size w1 wr)) (fun i _ _ => N - (intOf i).toNat)
    case atStart => exact ⟨0, _, n', Nat.zero_le _, rfl, rfl, HOW, HBA⟩
    case round =>
      obtain ⟨k, Wp, cp, hk, rfl, rfl, HO3, HB3⟩ := hrel
      by_cases hlt : k < N
      · have i1 : (k : Int) < (N : Int) := by omega
        have HPW := hide (wds_pos b k)
        have HSW := hide (show (wds b k).sum ≤ 1048576 from by rw [wds_sum HOK.out]; exact pow_le (by omega))
        have HLW := hide (show (wds b k).length = n' from by rw [wds_len, HBN.out])
        have HLN := hide (show lng b (wds b k) = lngTo b (wds b k) n' from by rw [lng, HLW.out])
        obtain ⟨gw, rfl, hgw1, hgw2, _⟩ := HO3.out.addr hn1
        go_wp2_with (refine wpList_mkE (E := E1) _ rfl (.tmp 40) (.tmp 40) 23 3 rfl Try.underlying23 (.int .i64 0) 0 8 info_int (by decide) rfl rfl rfl wr.heap.size n' rfl rfl (by omega) (Nat.le_refl _) ?_; intro w3 hown3 hbw3 hlt3)
        have HN3 := hide (show Own E1 w3 wr.heap.size 3 (some ⟨wr.heap.size, 0, none⟩) n' n' (lngTo b (wds b k) 0) from by rw [lngTo, HLW.out]; exact hown3)
        have HX3 := hide hbw3
        clear hown3 hbw3 hlt3
        generalize wr = wo at *
        have HSO := hide HB3.out.size
        have HGW := hide hgw2
        clear hgw2 hgw1
        go_loopw [12] (fun i w4 => ∃ q : Nat, q ≤ n' ∧ i = .int .i64 q ∧ Hid (Own E1 w4 wo.heap.size 3 (some ⟨wo.heap.size, 0, none⟩) n' n' (lngTo b (wds b k) q)) ∧ Hid (Below wo.heap.size wo w4)) (fun i _ => n' - (intOf i).toNat)
        case atStart => exact ⟨0, Nat.zero_le _, rfl, HN3, HX3⟩
        case round =>
          obtain ⟨q, hq, rfl, HQ, HBQ⟩ := hrel
          by_cases hlq : q < n'
          · have HLT := hide (show q < b.2.length by rw [HBN.out]; exact hlq)
            have HNN := hide (show n = n' from by rw [← HNL.out, HOK.out.len, HBN.out])
            have HBT := hide (show Below w1.heap.size w1 wr from HB3.out.trans (HBQ.out.mono HSO.out))
            obtain ⟨b1, o1, hr1⟩ := HR1.out.nx
            obtain rfl := hr1.at_ (by rw [HNN.out]; omega)
            have hqn : q < n := by rw [HNN.out]; exact hlq
            have HCN := hide (fun x (hx : Below wo.heap.size wo x) => cN (hr1.below (HB3.out.trans (hx.mono HSO.out)) (Nat.le_refl _)) hqn)
            rw [HOK.out.aft0 HLT.out, HOK.out.aft1 HLT.out] at HCN
            have HCB := hide (fun x (hx : Below wo.heap.size wo x) => bk_two (HK1.out.keep (HB3.out.trans (hx.mono HSO.out)) HK1.out.in_))
            have HCW := hide (fun x (hx : Below wo.heap.size wo x) => own1 (HO3.out.below hx (Nat.le_refl _)) hlq)
            have HA0 := hide (show aft b q 0 < n' by rw [← HBN.out]; exact HOK.out.aft_lt HLT.out 0)
            have HA1 := hide (show aft b q 1 < n' by rw [← HBN.out]; exact HOK.out.aft_lt HLT.out 1)
            have hv0 := HPW.out q
            have hv1 : (wds b k).getD q 0 ≤ 1048576 := Int.le_trans (pos_le HPW.out q) HSW.out
            have HLS := hide (show (lngTo b (wds b k) q).sum ≤ 2097152 from by
              have h1 := lngTo_sum HOK.out (ws := wds b k) (by rw [HLW.out, HBN.out]) q (by rw [HLW.out]; omega)
              have h2 := take_sum_le HPW.out q
              have h3 := HSW.out
              omega)
            have HLL := hide (show (lngTo b (wds b k) q).length = n' from (lngTo_len b _ q).trans HLW.out)
            have HLP := hide (lngTo_pos (b := b) HPW.out q)
            have HNX := hide (show lngTo b (wds b k) (q + 1) = addAt (addAt (lngTo b (wds b k) q) (aft b q 0) ((wds b k).getD q 0)) (aft b q 1) ((wds b k).getD q 0) from rfl)
            clear hr1
            have iq : (q : Int) < (n' : Int) := by omega
            have iqn : (q : Int) < (n : Int) := by omega
            generalize lngTo b (wds b k) q = V at *
            generalize aft b q 0 = a at *
            generalize aft b q 1 = z at *
            generalize (wds b k).getD q 0 = v at *
            have hc1 := HCN.out _ HBQ.out
            have hcb := HCB.out _ HBQ.out
            have hcw := HCW.out _ HBQ.out
            have ho := own1 HQ.out (k := a) HA0.out
            have hf := HQ.out.frozen a
            have ia : (a : Int) < (n' : Int) := by have := HA0.out; omega
            have iz : (z : Int) < (n' : Int) := by have := HA1.out; omega
            have hp0 : 0 ≤ V.getD a 0 := HLP.out a
            have hp1 : V.getD a 0 ≤ 2097152 := Int.le_trans (pos_le HLP.out a) HLS.out
            have HV1 := hide (show V.set a (V.getD a 0 + v) = addAt V a v from rfl)
            have HQ1 := hide (fun (y : Int) => HQ.out.stored1 (k := a) HA0.out y)
            have HPA := hide (addAt_pos (k := a) HLP.out hv0)
            have HSA := hide (show (addAt V a v).sum ≤ 3145728 from by rw [addAt_sum (by rw [HLL.out]; exact HA0.out)]; have := HLS.out; omega)
            generalize V.getD a 0 = p at *
            go_wp2_with fail
            go_region
            have HQX := hide (show Own E1 (World.drew (wr.setCell ⟨wo.heap.size, a, none⟩ (.int .i64 (p + v)))) wo.heap.size 3 (some ⟨wo.heap.size, 0, none⟩) n' n' (addAt V a v) from by rw [← HV1.out]; exact (HQ1.out (p + v)).drew)
            have HBX := hide (show Below wo.heap.size wo (World.drew (wr.setCell ⟨wo.heap.size, a, none⟩ (.int .i64 (p + v)))) from (Below.setCell HBQ.out (Nat.le_refl _) _).drew)
            generalize World.drew (wr.setCell ⟨wo.heap.size, a, none⟩ (.int .i64 (p + v))) = w5 at *
            have hc1' := HCN.out _ HBX.out
            have hcb' := HCB.out _ HBX.out
            have hcw' := HCW.out _ HBX.out
            have ho' := own1 HQX.out (k := z) HA1.out
            have hf' := HQX.out.frozen z
            have hp0' : 0 ≤ (addAt V a v).getD z 0 := HPA.out z
            have hp1' : (addAt V a v).getD z 0 ≤ 3145728 := Int.le_trans (pos_le HPA.out z) HSA.out
            have HV2 := hide (show (addAt V a v).set z ((addAt V a v).getD z 0 + v) = addAt (addAt V a v) z v from rfl)
            have HQ2 := hide (fun (y : Int) => HQX.out.stored1 (k := z) HA1.out y)
            clear hc1 hcb hcw ho hf
            generalize (addAt V a v).getD z 0 = p2 at *
            go_wp2_with fail
            go_region
            go_wp2_with fail
            go_roundw
            case rel => exact ⟨q + 1, by omega, by go_num, hide (by rw [HNX.out, ← HV2.out]; exact (HQ2.out (p2 + v)).drew), hide (Below.setCell HBX.out (Nat.le_refl _) _).drew⟩
            case measure => simp [intOf]; omega
          · obtain rfl : q = n' := by omega
            go_wp2_with fail
            go_roundw
            case rel => exact ⟨k + 1, _, q, by omega, by go_num, rfl, hide (by rw [show wds b (k + 1) = lng b (wds b k) from rfl, HLN.out]; exact HQ.out.more HSO.out), hide (HB3.out.trans (HBQ.out.mono HSO.out))⟩
            case measure => simp [intOf]; omega
      · obtain rfl : k = N := by omega
        have HPW := hide (wds_pos b k)
        have HSW := hide (show (wds b k).sum ≤ 1048576 from by rw [wds_sum HOK.out]; exact pow_le (by omega))
        have HLW := hide (show (wds b k).length = n' from by rw [wds_len, HBN.out])
        have HCI := hide (fun q (hq : q ≤ n') => cntTo_in (b := b) HPW.out o q (by rw [HLW.out]; exact hq))
        have HTS := hide (fun q => take_sum_le HPW.out q)
        have hcb := bk_two (HK1.out.keep HB3.out HK1.out.in_)
        obtain ⟨b2, o2, hr2⟩ := (HR1.out.below HB3.out (Nat.le_refl _)).ou
        obtain ⟨g3, rfl, _⟩ := HO3.out.addr hn1
        obtain rfl := hr2.at_ (by omega)
        have HR2 := hide hr2
        clear hr2
        go_wp2_with fail
        go_loop [14, 13] (fun i v => ∃ q : Nat, q ≤ n' ∧ i = .int .i64 q ∧ v = .int .i64 (cntTo b (wds b k) o q)) (fun i _ => n' - (intOf i).toNat)
        case atStart => exact ⟨0, Nat.zero_le _, rfl, rfl⟩
        case round =>
          obtain ⟨q, hq, rfl, rfl⟩ := hrel
          by_cases hlq : q < n'
          · have i1 : (q : Int) < (n' : Int) := by omega
            have hc2 := c1 HR2.out hlq
            have hcw := own1 HO3.out hlq
            have hx := HCI.out q hq
            have hy := HTS.out q
            have hz := HSW.out
            have hp0 := HPW.out q
            have hp1 := pos_le HPW.out q
            have b1 : 0 ≤ cntTo b (wds b k) o q := hx.1
            have b2 : cntTo b (wds b k) o q ≤ 1048576 := by omega
            have b3 : (wds b k).getD q 0 ≤ 1048576 := by omega
            have HNX := hide (show cntTo b (wds b k) o (q + 1) = cntTo b (wds b k) o q + (if b.2.getD q 0 = o then (wds b k).getD q 0 else 0) from rfl)
            clear hx hy hz hp1
            generalize cntTo b (wds b k) o q = u at *
            generalize (wds b k).getD q 0 = v at *
            by_cases hso : b.2.getD q 0 = o
            · rw [if_pos hso] at HNX
              rw [hso] at hc2
              clear hso
              have hoo : (o == o) = true := by simp
              go_wp2_with fail
              go_round
              case rel => exact ⟨q + 1, by omega, by go_num, by rw [HNX.out]⟩
              case measure => simp [intOf]; omega
            · rw [if_neg hso, Int.add_zero] at HNX
              have hoo : (b.2.getD q 0 == o) = false := beq_eq_false_iff_ne.2 hso
              clear hso
              generalize b.2.getD q 0 = y at *
              go_wp2_with fail
              go_round
              case rel => exact ⟨q + 1, by omega, by go_num, by rw [HNX.out]⟩
              case measure => simp [intOf]; omega
          · obtain rfl : q = n' := by omega
            go_wp2_with fail
            go_ret2
            refine ⟨?_, HD1.out.trans (HB3.out.mono HD1.out.size)⟩
            rw [cntF_ok HT.out, HT.out]
            unfold cntV
            rw [HBN.out]
            rfl
  · have hee : (errX b != 0) = true := by simp [he]
    have HT := hide (errT_bad he r o)
    have HNE := hide (show ¬ errT b r o = 0 from by rw [HT.out]; exact he)
    clear he
    go_enter Try.func47, Try.ntmps47
    go_wp2_with (go_at_call 26; refine (rValidate_any _ _ _ _ _ _ b _ HR0.out).mono ?_; rintro e w1 ⟨rfl, D1⟩; have D1h := hide D1)
    go_ret2
    exact ⟨by rw [cntF_no HNE.out, HT.out]; rfl, le_call HB0.out D1h.out⟩
end Go.Proofs.Ytkjnhdkbojcojaa
