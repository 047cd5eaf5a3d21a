/- Walks: to how many words a signal is the last one. -/
import Derived.Test.YtkjnhdkbojcojaaWalkA
import Derived.Test.YtkjnhdkbojcojaaRow
import Derived.Test.YtkjnhdkbojcojaaMC
namespace Go.Proofs.Ytkjnhdkbojcojaa
open Go.RowKit Go.Shelf
attribute [local go_sem] Oper.semAt_some

/-- In the midst of a state. -/
def lngM (L : List Int) (a z : Nat) (v : Int) : Nat → List Int
  | 0 => L
  | 1 => addAt L a v
  | _ => addAt (addAt L a v) z v
theorem lngM_pos {L : List Int} {a z : Nat} {v : Int} (h : Pos L) (hv : 0 ≤ v) : ∀ j, Pos (lngM L a z v j)
  | 0 => h
  | 1 => addAt_pos h hv
  | j + 2 => addAt_pos (addAt_pos h hv) hv
theorem lngM_len (L : List Int) (a z : Nat) (v : Int) : ∀ j, (lngM L a z v j).length = L.length
  | 0 => rfl
  | 1 => addAt_len ..
  | j + 2 => by simp [lngM, addAt_len]
theorem lngM_sum {L : List Int} {a z : Nat} {v : Int} (ha : a < L.length) (hz : z < L.length) (hv : 0 ≤ v) : ∀ j, (lngM L a z v j).sum ≤ L.sum + 2 * v
  | 0 => by simp only [lngM]; omega
  | 1 => by simp only [lngM]; rw [addAt_sum ha]; omega
  | j + 2 => by simp only [lngM]; rw [addAt_sum (by rw [addAt_len]; exact hz), addAt_sum ha]; omega
set_option maxHeartbeats 4000000 in
theorem longer_any (A : Option Addr) (n c : Nat) (A' : Option Addr) (n' c' : Nat) (b : Bx) (W : Option Addr) (d : Nat) (ws : List Int) (w : World) (h : BxR w A n c A' n' c' b) (hb : Okx b) (hw : R E1 w W n' d ws) (hp : Pos ws) (hs : ws.sum ≤ 1048576) :
    Calls Try.prog 87 #[bV A n c A' n' c', .slice W n' d] w (IntsPost (lng b ws) w) := by
  have HWL := hide hw.length
  have HB0 := hide ((Below.refl w.heap.size w).alloc (Nat.le_refl _) (.cells #[.slice A n c, .slice A' n' c'] 25))
  have HR0 := hide (h.below HB0.out (Nat.le_refl _))
  have HW0 := hide (hw.below HB0.out (Nat.le_refl _))
  have HK0 := hide (Bk.born w 25 #[.slice A n c, .slice A' n' c'])
  have HBN := hide h.ou.length
  have hnn : n = n' := h.nx.length.symm.trans (hb.len.trans h.ou.length)
  subst hnn
  have hn6 : n ≤ 6 := by rw [← HBN.out]; exact hb.n6
  have hn1 : 1 ≤ n := by rw [← HBN.out]; exact hb.n1
  have HOK := hide hb
  have HP := hide hp
  have HS := hide hs
  have HZ0 := hide (show (w.alloc (.cells #[.slice A n c, .slice A' n c'] 25)).heap.size = w.heap.size + 1 from by simp)
  clear h hw hb hp hs
  go_enter Try.func87, Try.ntmps87
  go_wp2_with (refine wpList_mkE (E := E1) _ rfl (.tmp 11) (.tmp 11) 23 3 rfl Try.underlying23 (.int .i64 0) 0 8 info_int (by decide) rfl rfl rfl (w.heap.size + 1) n rfl rfl (by omega) (Nat.le_of_eq HZ0.out.symm) ?_; intro w2 hown hbw hlt2; have f1 := bk_two (HK0.out.keep hbw HK0.out.in_))
  generalize w.alloc (.cells #[.slice A n c, .slice A' n c'] 25) = W0 at *
  rw [HZ0.out] at hown hbw hlt2
  have HO2 := hide hown
  have HB2 := hide hbw
  clear f1 hown hbw
  have HZ2 := hide hlt2
  clear hlt2
  go_loopw [16] (fun i wr => ∃ k : Nat, k ≤ n ∧ i = .int .i64 k ∧ Hid (Own E1 wr (w.heap.size + 1) 3 (some ⟨w.heap.size + 1, 0, none⟩) n n (lngTo b ws k)) ∧ Hid (Below (w.heap.size + 1) W0 wr)) (fun i _ => n - (intOf i).toNat)
  case atStart => exact ⟨0, Nat.zero_le _, rfl, by rw [lngTo, HWL.out]; exact HO2, HB2⟩
  case round =>
    obtain ⟨k, hk, rfl, HO, HBL⟩ := hrel
    by_cases hlt : k < n
    · obtain ⟨b1, o1, hr1⟩ := (HR0.out.below HBL.out (Nat.le_of_eq HZ0.out)).nx
      obtain ⟨b2, o2, hr2⟩ := HW0.out
      obtain rfl := hr1.at_ (by omega)
      obtain rfl := hr2.at_ (by omega)
      have HR2 := hide hr2
      have hc1 := cN hr1 hlt
      have HLT := hide (show k < b.2.length by rw [HBN.out]; exact hlt)
      rw [HOK.out.aft0 HLT.out, HOK.out.aft1 HLT.out] at hc1
      have HA0 := hide (show aft b k 0 < n by rw [← HBN.out]; exact HOK.out.aft_lt HLT.out 0)
      have HA1 := hide (show aft b k 1 < n by rw [← HBN.out]; exact HOK.out.aft_lt HLT.out 1)
      have HV0 := hide (HP.out k)
      have hLS := hide (show (lngTo b ws k).sum ≤ 2097152 from by
        have h1 := lngTo_sum HOK.out (ws := ws) (by rw [HWL.out, HBN.out]) k (by rw [HWL.out]; omega)
        have h2 := take_sum_le HP.out k
        have h3 := HS.out
        omega)
      have HVS := hide (show ws.getD k 0 ≤ 1048576 from Int.le_trans (pos_le HP.out k) HS.out)
      have HLL := hide (show (lngTo b ws k).length = n from (lngTo_len b ws k).trans HWL.out)
      have HLP := hide (lngTo_pos (b := b) HP.out k)
      have HNX := hide (show lngTo b ws (k + 1) = lngM (lngTo b ws k) (aft b k 0) (aft b k 1) (ws.getD k 0) 2 from rfl)
      have HWK := hide (fun (x : World) (hx : Below (w.heap.size + 1) W0 x) => c1 (HR2.out.below hx (Nat.le_of_eq HZ0.out)) hlt)
      clear hr1 hr2
      have i1 : (k : Int) < (n : Int) := by omega
      have HSZ := hide (Nat.le_trans (Nat.le_of_eq HZ0.out.symm) HBL.out.size)
      generalize lngTo b ws k = L at *
      generalize aft b k 0 = a at *
      generalize aft b k 1 = z at *
      generalize ws.getD k 0 = v at *
      go_wp2_with fail
      go_loopw [22] (fun i w3 => ∃ j : Nat, j ≤ 2 ∧ i = .int .i64 j ∧ Hid (Own E1 w3 (w.heap.size + 1) 3 (some ⟨w.heap.size + 1, 0, none⟩) n n (lngM L a z v j)) ∧ Hid (Below (w.heap.size + 1) W0 w3)) (fun i _ => 2 - (intOf i).toNat)
      case atStart => exact ⟨0, by omega, rfl, hide (HO.out.alloc _), hide (HBL.out.alloc HSZ.out _)⟩
      case round =>
        obtain ⟨j, hj, rfl, HO3, HB3⟩ := hrel
        by_cases hlj : j < 2
        · have hws := HWK.out _ HB3.out
          have HSM := lngM_sum (L := L) (a := a) (z := z) (v := v) (by rw [HLL.out]; exact HA0.out) (by rw [HLL.out]; exact HA1.out) HV0.out j
          have HPJ := lngM_pos (L := L) (a := a) (z := z) (v := v) HLP.out HV0.out j
          have hv0 := HV0.out
          have hv1 := HVS.out
          have hfr := fun q => HO3.out.frozen q
          have x0 : ∀ w, (Instr.index 59 (.agg #[.int .i64 a, .int .i64 z]) (.int .i64 0)).run Try.prog w = .ok (.int .i64 a) w := fun _ => by kernel_rfl
          have x1 : ∀ w, (Instr.index 59 (.agg #[.int .i64 a, .int .i64 z]) (.int .i64 1)).run Try.prog w = .ok (.int .i64 z) w := fun _ => by kernel_rfl
          obtain rfl | rfl : j = 0 ∨ j = 1 := by omega
          · have ho := own1 HO3.out (k := a) HA0.out
            have h1 := HPJ a
            have h2 := pos_le HPJ a
            have hf := hfr a
            have ia : (a : Int) < (n : Int) := by have := HA0.out; omega
            have hp0 : 0 ≤ (lngM L a z v 0).getD a 0 := h1
            have hp1 : (lngM L a z v 0).getD a 0 ≤ 8388608 := by (have := hLS.out; omega)
            have HST := hide (fun (y : Int) => HO3.out.stored1 (k := a) HA0.out y)
            have HNN := hide (show (lngM L a z v 0).set a ((lngM L a z v 0).getD a 0 + v) = lngM L a z v 1 from rfl)
            clear HSM HPJ hfr h1 h2
            generalize (lngM L a z v 0).getD a 0 = p at *
            go_wp2_with fail
            go_region
            go_wp2_with fail
            go_roundw
            case rel => exact ⟨1, by omega, by go_num, hide (by rw [← HNN.out]; exact (HST.out (p + v)).drew), hide (Below.setCell HB3.out (Nat.le_refl _) _).drew⟩
            case measure => simp [intOf]
          · have ho := own1 HO3.out (k := z) HA1.out
            have h1 := HPJ z
            have h2 := pos_le HPJ z
            have hf := hfr z
            have ia : (z : Int) < (n : Int) := by have := HA1.out; omega
            have hp0 : 0 ≤ (lngM L a z v 1).getD z 0 := h1
            have hp1 : (lngM L a z v 1).getD z 0 ≤ 8388608 := by (have := hLS.out; omega)
            have HST := hide (fun (y : Int) => HO3.out.stored1 (k := z) HA1.out y)
            have HNN := hide (show (lngM L a z v 1).set z ((lngM L a z v 1).getD z 0 + v) = lngM L a z v 2 from rfl)
            clear HSM HPJ hfr h1 h2
            generalize (lngM L a z v 1).getD z 0 = p at *
            go_wp2_with fail
            go_region
            go_wp2_with fail
            go_roundw
            case rel => exact ⟨2, by omega, by go_num, hide (by rw [← HNN.out]; exact (HST.out (p + v)).drew), hide (Below.setCell HB3.out (Nat.le_refl _) _).drew⟩
            case measure => simp [intOf]
        · obtain rfl : j = 2 := by omega
          go_wp2_with fail
          go_roundw
          case rel => exact ⟨k + 1, by omega, by go_num, by rw [HNX.out]; exact HO3, HB3⟩
          case measure => simp [intOf]; omega
    · obtain rfl : k = n := by omega
      go_wp2_with fail
      go_ret
      exact ⟨_, k, k, rfl, by rw [show lng b ws = lngTo b ws k from by rw [lng, HWL.out]]; exact HO.out.more (by omega), HB0.out.trans (HBL.out.mono (by omega))⟩
theorem cntF_no {b : Bx} {n o : Int} (h : ¬ errT b n o = 0) : cntF b n o = 0 := if_neg h
theorem cntF_ok {b : Bx} {n o : Int} (h : errT b n o = 0) : cntF b n o = cntV b n.toNat o := if_pos h
set_option maxHeartbeats 4000000 in
theorem Count_any (A : Option Addr) (n c : Nat) (A' : Option Addr) (n' c' : Nat) (b : Bx) (r o : Int) (w : World) (h : BxR w A n c A' n' c' b) :
    Calls Try.prog 46 #[bV A n c A' n' c', .int .i64 r, .int .i64 o] w fun e w' => e = .returned (.tuple #[.int .i64 (cntF b r o), .int .i64 (errT b r o)]) ∧ Below w.heap.size w w' := by
  have HB0 := hide ((Below.refl w.heap.size w).alloc (Nat.le_refl _) (.cells #[.slice A n c, .slice A' n' c'] 25))
  have HR0 := hide (h.below HB0.out (Nat.le_refl _))
  have HK0 := hide (Bk.born w 25 #[.slice A n c, .slice A' n' c'])
  have HBN := hide h.ou.length
  clear h
  by_cases he : errX b = 0
  · have hee : (errX b != 0) = false := by simp [he]
    have HE := hide he
    have hok := okx_of he
    have hn1 : 1 ≤ n' := by rw [← HBN.out]; exact hok.n1
    have hn6 : n' ≤ 6 := by rw [← HBN.out]; exact hok.n6
    have HOK := hide hok
    clear he hok
    by_cases hr0 : r < 0
    · have HT := hide (errT_arg (n := r) (o := o) HE.out (by omega))
      go_enter Try.func46, Try.ntmps46
      go_wp2_with (go_at_call 25; refine (Validate_any _ _ _ _ _ _ b _ HR0.out).mono ?_; rintro e w1 ⟨rfl, D1⟩; have D1h := hide D1)
      go_ret2
      exact ⟨by rw [cntF_no (by rw [HT.out]; decide), HT.out]; rfl, le_call HB0.out D1h.out⟩
    have hr0' : 0 ≤ r := by omega
    clear hr0
    by_cases hr20 : 20 < r
    · have HT := hide (errT_arg (n := r) (o := o) HE.out (by omega))
      go_enter Try.func46, Try.ntmps46
      go_wp2_with (go_at_call 25; refine (Validate_any _ _ _ _ _ _ b _ HR0.out).mono ?_; rintro e w1 ⟨rfl, D1⟩; have D1h := hide D1)
      go_ret2
      exact ⟨by rw [cntF_no (by rw [HT.out]; decide), HT.out]; rfl, le_call HB0.out D1h.out⟩
    have hr20' : r ≤ 20 := by omega
    clear hr20
    cases ho : sigB o with
    | false =>
      have HT := hide (errT_arg (n := r) (o := o) HE.out (by rw [ho]; simp))
      have HO := hide ho
      clear ho
      go_enter Try.func46, Try.ntmps46
      go_wp2_with (first | (go_at_call 25; refine (Validate_any _ _ _ _ _ _ b _ HR0.out).mono ?_; rintro e w1 ⟨rfl, D1⟩; have D1h := hide D1) | (go_at_call 65; refine (isSignal_any o _).mono ?_; rintro e w3 ⟨rfl, rfl⟩; rw [HO.out]))
      go_ret2
      exact ⟨by rw [cntF_no (by rw [HT.out]; decide), HT.out]; rfl, le_call HB0.out D1h.out⟩
    | true =>
    have HT := hide (errT_fine (n := r) (o := o) HE.out ⟨hr0', hr20', ho⟩)
    have HO := hide ho
    clear ho
    obtain ⟨N, rfl⟩ : ∃ N : Nat, r = N := ⟨r.toNat, by omega⟩
    have hN : N ≤ 20 := by omega
    go_enter Try.func46, Try.ntmps46
    go_wp2_with (first
      | (go_at_call 25; refine (Validate_any _ _ _ _ _ _ b _ HR0.out).mono ?_; rintro e w1 ⟨rfl, D1⟩; have f1 := bk_two (HK0.out.keep D1 HK0.out.in_); have D1h := hide D1)
      | (go_at_call 65; refine (isSignal_any o _).mono ?_; rintro e w3 ⟨rfl, rfl⟩; rw [HO.out])
      | (refine wpList_mkE (E := E1) _ rfl (.tmp 31) (.tmp 31) 23 3 rfl Try.underlying23 (.int .i64 0) 0 8 info_int (by decide) rfl rfl rfl w1.heap.size n' rfl rfl (by omega) (Nat.le_refl _) ?_; intro w2 hown hbw hlt2; have f2 := bk_two ((HK0.out.keep D1h.out HK0.out.in_).keep hbw (Nat.lt_of_lt_of_le HK0.out.in_ D1h.out.size)); have f3 := own1 hown (k := 0) (by omega); have f4 := hown.frozen 0; have HOW := hide (hown.stored1 (k := 0) (by omega) 1)))
    have HBA := hide (show Below w1.heap.size w1 (w2.setCell ⟨w1.heap.size, 0, none⟩ (.int .i64 1)) from Below.setCell hbw (Nat.le_refl _) _)
    have HD1 := hide (le_call HB0.out D1h.out)
    have HR1 := hide (HR0.out.below D1h.out (Nat.le_refl _))
    have HK1 := hide (HK0.out.keep D1h.out HK0.out.in_)
    have HW0 := hide (show (List.replicate n' (0 : Int)).set 0 1 = wds b 0 from by rw [wds, HBN.out])
    rw [HW0.out] at HOW
    clear hown hbw f1 f2 f3 f4 hlt2 D1
    generalize w2.setCell ⟨w1.heap.size, 0, none⟩ (.int .i64 1) = W2 at *
    go_loopw [36, 9] (fun i v wr => ∃ (k : Nat) (Wp : Option Addr) (cp : Nat), k ≤ N ∧ i = .int .i64 k ∧ v = .slice Wp n' cp ∧ Hid (Own E1 wr w1.heap.size 3 Wp n' cp (wds b k)) ∧ Hid (Below w1.heap.size w1 wr)) (fun i _ _ => N - (intOf i).toNat)
    case atStart => exact ⟨0, _, n', Nat.zero_le _, rfl, rfl, HOW, HBA⟩
    case round =>
      obtain ⟨k, Wp, cp, hk, rfl, rfl, HO3, HB3⟩ := hrel
      have hcb := bk_two (HK1.out.keep HB3.out HK1.out.in_)
      by_cases hlt : k < N
      · have i1 : (k : Int) < (N : Int) := by omega
        have HLG := hide (fun x => longer_any A n c A' n' c' b Wp cp (wds b k) x)
        have HPW := hide (wds_pos b k)
        have HSW := hide (show (wds b k).sum ≤ 1048576 from by rw [wds_sum HOK.out]; exact pow_le (by omega))
        have HLW := hide (show (lng b (wds b k)).length = n' from by rw [lng_len, wds_len, HBN.out])
        go_wp2_with (go_at_call 87; refine (HLG.out _ (HR1.out.below HB3.out (Nat.le_refl _)) HOK.out HO3.out.row HPW.out HSW.out).mono ?_; rintro e w5 ⟨A5, n5, c5, rfl, ho5, D5⟩; obtain rfl : n' = n5 := HLW.out.symm.trans ho5.len; have HO5 := hide (ho5.more HB3.out.size); have HB5 := hide (HB3.out.trans (D5.mono HB3.out.size)); clear ho5 D5)
        go_roundw
        case rel => exact ⟨k + 1, A5, c5, by omega, by go_num, rfl, HO5, HB5⟩
        case measure => simp [intOf]; omega
      · obtain rfl : k = N := by omega
        have HPW := hide (wds_pos b k)
        have HSW := hide (show (wds b k).sum ≤ 1048576 from by rw [wds_sum HOK.out]; exact pow_le (by omega))
        have HLW := hide (show (wds b k).length = n' from by rw [wds_len, HBN.out])
        have HCI := hide (fun q (hq : q ≤ n') => cntTo_in (b := b) HPW.out o q (by rw [HLW.out]; exact hq))
        have HTS := hide (fun q => take_sum_le HPW.out q)
        obtain ⟨b2, o2, hr2⟩ := (HR1.out.below HB3.out (Nat.le_refl _)).ou
        obtain ⟨g3, rfl, _⟩ := HO3.out.addr hn1
        obtain rfl := hr2.at_ (by omega)
        have HR2 := hide hr2
        clear hr2
        go_wp2_with fail
        go_loop [45, 10] (fun i v => ∃ q : Nat, q ≤ n' ∧ i = .int .i64 q ∧ v = .int .i64 (cntTo b (wds b k) o q)) (fun i _ => n' - (intOf i).toNat)
        case atStart => exact ⟨0, Nat.zero_le _, rfl, rfl⟩
        case round =>
          obtain ⟨q, hq, rfl, rfl⟩ := hrel
          by_cases hlq : q < n'
          · have i1 : (q : Int) < (n' : Int) := by omega
            have hc2 := c1 HR2.out hlq
            have hcw := own1 HO3.out hlq
            have hx := HCI.out q hq
            have hy := HTS.out q
            have hz := HSW.out
            have hp0 := HPW.out q
            have hp1 := pos_le HPW.out q
            have b1 : 0 ≤ cntTo b (wds b k) o q := hx.1
            have b2 : cntTo b (wds b k) o q ≤ 1048576 := by omega
            have b3 : (wds b k).getD q 0 ≤ 1048576 := by omega
            have HNX := hide (show cntTo b (wds b k) o (q + 1) = cntTo b (wds b k) o q + (if b.2.getD q 0 = o then (wds b k).getD q 0 else 0) from rfl)
            clear hx hy hz hp1
            generalize cntTo b (wds b k) o q = u at *
            generalize (wds b k).getD q 0 = v at *
            by_cases hso : b.2.getD q 0 = o
            · rw [if_pos hso] at HNX
              rw [hso] at hc2
              clear hso
              have hoo : (o == o) = true := by simp
              go_wp2_with fail
              go_round
              case rel => exact ⟨q + 1, by omega, by go_num, by rw [HNX.out]⟩
              case measure => simp [intOf]; omega
            · rw [if_neg hso, Int.add_zero] at HNX
              have hoo : (b.2.getD q 0 == o) = false := beq_eq_false_iff_ne.2 hso
              clear hso
              generalize b.2.getD q 0 = y at *
              go_wp2_with fail
              go_round
              case rel => exact ⟨q + 1, by omega, by go_num, by rw [HNX.out]⟩
              case measure => simp [intOf]; omega
          · obtain rfl : q = n' := by omega
            go_wp2_with fail
            go_ret2
            refine ⟨?_, HD1.out.trans (HB3.out.mono HD1.out.size)⟩
            rw [cntF_ok HT.out, HT.out]
            unfold cntV
            rw [HBN.out]
            rfl
  · have hee : (errX b != 0) = true := by simp [he]
    have HT := hide (errT_bad he r o)
    have HNE := hide (show ¬ errT b r o = 0 from by rw [HT.out]; exact he)
    clear he
    go_enter Try.func46, Try.ntmps46
    go_wp2_with (go_at_call 25; refine (Validate_any _ _ _ _ _ _ b _ HR0.out).mono ?_; rintro e w1 ⟨rfl, D1⟩; have D1h := hide D1)
    go_ret2
    exact ⟨by rw [cntF_no HNE.out, HT.out]; rfl, le_call HB0.out D1h.out⟩
end Go.Proofs.Ytkjnhdkbojcojaa
