/- Walks: the box that begins in another state, on both sides. -/
import Derived.Test.YtkjnhdkbojcojaaWalkW
namespace Go.Proofs.Ytkjnhdkbojcojaa
open Go.RowKit Go.Shelf
attribute [local go_sem] Oper.semAt_some

def fromF (b : Bx) (s : Int) : Bx := if errS b s = 0 then fromB b s.toNat else ([], [])
theorem fromF_ok {b : Bx} {s : Int} (h : errS b s = 0) : fromF b s = fromB b s.toNat := if_pos h
theorem fromF_no {b : Bx} {s : Int} (h : ¬ errS b s = 0) : fromF b s = ([], []) := if_neg h
theorem swap_own {w : World} {B n c g s : Nat} (h : Own E1 w B 3 (some ⟨g, 0, none⟩) n c (numV 0 n)) (hs : s < n) : Own E1 ((w.setCell ⟨g, 0, none⟩ (.int .i64 (s : Int))).setCell ⟨g, s, none⟩ (.int .i64 0)) B 3 (some ⟨g, 0, none⟩) n c (swpL n s) :=
  (h.stored1 (k := 0) (by omega) (s : Int)).stored1 hs 0
set_option maxRecDepth 100000 in
set_option maxHeartbeats 4000000 in
theorem From_any (A : Option Addr) (n c : Nat) (A' : Option Addr) (n' c' : Nat) (b : Bx) (s : Int) (w : World) (h : BxR w A n c A' n' c' b) :
    Calls Try.prog 45 #[bV A n c A' n' c', .int .i64 s] w (BoxPost (errS b s) (fromF b s) w) := by
  have HB0 := hide (show Below w.heap.size w ((w.alloc (.cells #[.slice A n c, .slice A' n' c'] 25)).alloc (.cells #[.slice none 0 0, .slice none 0 0] 25)) from le_two (le_two (Below.refl _ _) _) _)
  have HK1 := hide ((Bk.born w 25 #[.slice A n c, .slice A' n' c']).more (.cells #[.slice none 0 0, .slice none 0 0] 25))
  have HK2 := hide (Bk.born (w.alloc (.cells #[.slice A n c, .slice A' n' c'] 25)) 25 #[.slice none 0 0, .slice none 0 0])
  rw [show (w.alloc (.cells #[.slice A n c, .slice A' n' c'] 25)).heap.size = w.heap.size + 1 from by simp] at HK2
  have HR := hide (h.below HB0.out (Nat.le_refl _))
  have HOL := hide h.ou.length
  clear h
  by_cases he : errS b s = 0
  · have hee : (errS b s != 0) = false := by simp [he]
    have HE := hide he
    have hok := (errS_ok he).1
    have hs0 := (errS_ok he).2.1
    have hsn := (errS_ok he).2.2
    have hn6' : n' ≤ 6 := by rw [← HOL.out]; exact hok.n6
    obtain ⟨q, rfl⟩ : ∃ q : Nat, s = (q : Int) := ⟨s.toNat, by omega⟩
    have hq : q < n' := by rw [← HOL.out]; omega
    have HOK := hide hok
    have HQ := hide hq
    have HIN := hide (swp_inj hq).in_
    clear he hok hs0 hsn
    have iq : (q : Int) < (n' : Int) := by omega
    have i0 : (0 : Int) < (n' : Int) := by omega
    go_enter Try.func45, Try.ntmps45
    go_wp2_with (first
      | (go_at_call 69; refine (validateState_any _ _ _ _ _ _ b (q : Int) _ HR.out).mono ?_; rintro e w1 ⟨rfl, b1⟩; rw [HE.out]; have f1 := bk_two (HK1.out.keep b1 HK1.out.in_); have B1 := hide b1; clear b1)
      | (go_at_call 85; refine (numbersFrom_any 0 n' _ (by omega) (by omega)).mono ?_; rintro e w2 ⟨A2, n2, c2, rfl, o2, b2⟩; obtain rfl : n2 = n' := (by rw [← o2.len, numV_len]); obtain ⟨g2, rfl, hg2, _⟩ := o2.addr (by omega); have k1 := own1 o2 (k := 0) (by omega); have k2 := own1 (o2.stored1 (k := 0) (by omega) (q : Int)) HQ.out; have k3 := o2.frozen 0; have k4 := (o2.stored1 (k := 0) (by omega) (q : Int)).frozen q; have O5 := hide (swap_own o2 HQ.out); have B2 := hide (Below.setCell (Below.setCell (le_call B1.out b2) (p := ⟨g2, 0, none⟩) (Nat.le_trans B1.out.size hg2) (.int .i64 (q : Int))) (p := ⟨g2, q, none⟩) (Nat.le_trans B1.out.size hg2) (.int .i64 0)); have f2 := bk_two (HK1.out.keep B2.out HK1.out.in_); clear o2 b2 f1)
      | (go_at_call 86; refine (renumber_any _ _ _ _ _ _ b _ _ n2 (swpL n2 q) _ (HR.out.below B2.out (Nat.le_refl _)) HOK.out O5.out.row HIN.out (by omega)).mono ?_; rintro e w6 ⟨A6, c6, B6, d6, rfl, o6, b6⟩; have O6 := hide o6; have D6 := hide (le_call B2.out b6); have KR := hide (HK2.out.keep D6.out HK2.out.in_); have m0 := KR.out.fr 0; have m1 := KR.out.fr 1; have m2 := bk_two KR.out; clear o6 b6))
    have HF := hide ((KR.out.put 0 (.slice A6 n2 c6)).put 1 (.slice B6 n2 d6))
    have hf := bk_two HF.out
    have hin := HK2.out.in_
    have hs6 := Nat.le_trans HB0.out.size B2.out.size
    have OA := hide (own_other (own_other O6.out.1 (Nat.lt_of_lt_of_le hin B2.out.size) 0 (.slice A6 n2 c6)) (Nat.lt_of_lt_of_le hin B2.out.size) 1 (.slice B6 n2 d6))
    have OB := hide (own_other (own_other O6.out.2 (Nat.lt_of_lt_of_le hin B2.out.size) 0 (.slice A6 n2 c6)) (Nat.lt_of_lt_of_le hin B2.out.size) 1 (.slice B6 n2 d6))
    have hbl := le_call HB0.out D6.out
    rw [HE.out, fromF_ok HE.out]
    refine bodyPost_ret (v := .tuple #[bV A6 n2 c6 B6 n2 d6, .int .i64 0]) (by simp [results, Try.results45, go_sem, hf]) rfl ⟨A6, n2, c6, B6, n2, d6, rfl, ⟨by rw [fromB, HOL.out]; exact OA.out.more hs6, by rw [fromB, HOL.out]; exact OB.out.more hs6⟩, Below.setCell (Below.setCell hbl (by simp) _) (by simp) _⟩
  · have hee : (errS b s != 0) = true := by simp [he]
    have HE := hide (fromF_no he)
    clear he
    go_enter Try.func45, Try.ntmps45
    go_wp2_with (go_at_call 69; refine (validateState_any _ _ _ _ _ _ b s _ HR.out).mono ?_; rintro e w1 ⟨rfl, b1⟩; have B1 := hide b1; have HK2r := hide (HK2.out.keep b1 HK2.out.in_); have hk2 := bk_two HK2r.out; have hf0 := HK2r.out.fr 0; have hf1 := HK2r.out.fr 1; clear b1)
    have HF := hide ((HK2r.out.put 0 (.slice none 0 0)).put 1 (.slice none 0 0))
    have hf := bk_two HF.out
    have hbl := le_call HB0.out B1.out
    rw [HE.out]
    refine bodyPost_ret (v := .tuple #[bV none 0 0 none 0 0, .int .i64 (errS b s)]) (by simp [results, Try.results45, go_sem, hf]) rfl ⟨none, 0, 0, none, 0, 0, rfl, OwnBox.nil _ _, Below.setCell (Below.setCell hbl (by simp) _) (by simp) _⟩
theorem numV_succ (k : Nat) : numV 0 (k + 1) = numV 0 k ++ [(k : Int)] := by
  refine getD_eq (d := 0) (by simp [numV_len]) fun i hi => ?_
  rw [numV_len] at hi
  rw [numV_get hi, List.getD_eq_getElem?_getD]
  by_cases e : i < k
  · rw [List.getElem?_append_left (by rw [numV_len]; exact e), ← List.getD_eq_getElem?_getD, numV_get e]
  · obtain rfl : i = k := by omega
    rw [List.getElem?_append_right (by rw [numV_len]; exact Nat.le_refl _), numV_len]
    simp
set_option maxRecDepth 100000 in
set_option maxHeartbeats 4000000 in
theorem rFrom_any (A : Option Addr) (n c : Nat) (A' : Option Addr) (n' c' : Nat) (b : Bx) (s : Int) (w : World) (h : BxR w A n c A' n' c' b) :
    Calls Try.prog 51 #[bV A n c A' n' c', .int .i64 s] w (BoxPost (errS b s) (fromF b s) w) := by
  have HB0 := hide (show Below w.heap.size w ((w.alloc (.cells #[.slice A n c, .slice A' n' c'] 25)).alloc (.cells #[.slice none 0 0, .slice none 0 0] 25)) from le_two (le_two (Below.refl _ _) _) _)
  have HK1 := hide ((Bk.born w 25 #[.slice A n c, .slice A' n' c']).more (.cells #[.slice none 0 0, .slice none 0 0] 25))
  have HK2 := hide (Bk.born (w.alloc (.cells #[.slice A n c, .slice A' n' c'] 25)) 25 #[.slice none 0 0, .slice none 0 0])
  rw [show (w.alloc (.cells #[.slice A n c, .slice A' n' c'] 25)).heap.size = w.heap.size + 1 from by simp] at HK2
  have HR := hide (h.below HB0.out (Nat.le_refl _))
  have HOL := hide h.ou.length
  clear h
  by_cases he : errS b s = 0
  · have hee : (errS b s != 0) = false := by simp [he]
    have HE := hide he
    have hok := (errS_ok he).1
    have hs0 := (errS_ok he).2.1
    have hsn := (errS_ok he).2.2
    have hn6' : n' ≤ 6 := by rw [← HOL.out]; exact hok.n6
    obtain ⟨q, rfl⟩ : ∃ q : Nat, s = (q : Int) := ⟨s.toNat, by omega⟩
    have hq : q < n' := by rw [← HOL.out]; omega
    have HOK := hide hok
    have HQ := hide hq
    have HIN := hide (swp_inj hq).in_
    clear he hok hs0 hsn
    have iq : (q : Int) < (n' : Int) := by omega
    have i0 : (0 : Int) < (n' : Int) := by omega
    go_enter Try.func51, Try.ntmps51
    go_wp2_with (go_at_call 70; refine (rstate_any _ _ _ _ _ _ b (q : Int) _ HR.out).mono ?_; rintro e w1 ⟨rfl, b1⟩; rw [HE.out]; have f1 := bk_two (HK1.out.keep b1 HK1.out.in_); have B1 := hide b1; clear b1)
    have HSB := hide (fun x (hx : Below w1.heap.size w1 x) => bk_two ((HK1.out.keep B1.out HK1.out.in_).keep hx (Nat.lt_of_lt_of_le HK1.out.in_ B1.out.size)))
    clear f1
    go_loopw [8, 7] (fun i v wr => ∃ (k : Nat) (A3 : Option Addr) (c3 : Nat), k ≤ n' ∧ i = .int .i64 k ∧ v = .slice A3 k c3 ∧ Hid (Own E1 wr w1.heap.size 3 A3 k c3 (numV 0 k)) ∧ Hid (Below w1.heap.size w1 wr)) (fun i _ _ => n' - (intOf i).toNat)
    case atStart => exact ⟨0, none, 0, Nat.zero_le _, rfl, rfl, hide (Own.nil _ _ _ _), hide (Below.refl _ _)⟩
    case round =>
      obtain ⟨k, A3, c3, hk, rfl, rfl, HO, HBL⟩ := hrel
      have hcb := HSB.out _ HBL.out
      by_cases hlt : k < n'
      · have hsz := HBL.out.size
        have i1 : (k : Int) < (n' : Int) := by omega
        go_wp2_with (at_builtin; refine wpList_app1 (E := E1) _ (.int .i64 0) 8 rfl (.tmp 23) (.tmp 25) 23 3 rfl Try.underlying23 info_int rfl (by decide) (by omega) w1.heap.size k c3 A3 (numV 0 k) (k : Int) _ rfl rfl rfl HO.out (by omega) hsz ?_; intro A7 c7 w7 hown hbb hg)
        go_roundw
        case rel => exact ⟨k + 1, A7, c7, by omega, by go_num, rfl, hide (by rw [numV_succ]; exact hown), hide (HBL.out.trans hbb)⟩
        case measure => simp [intOf]; omega
      · obtain rfl : k = n' := by omega
        obtain ⟨g2, rfl, hg2, _⟩ := HO.out.addr (by omega)
        have k1 := own1 HO.out (k := 0) (by omega)
        have k2 := own1 (HO.out.stored1 (k := 0) (by omega) (q : Int)) HQ.out
        have k3 := HO.out.frozen 0
        have k4 := (HO.out.stored1 (k := 0) (by omega) (q : Int)).frozen q
        have O5 := hide (swap_own HO.out HQ.out)
        have B2 := hide (Below.setCell (Below.setCell (le_call B1.out HBL.out) (p := ⟨g2, 0, none⟩) (Nat.le_trans B1.out.size hg2) (.int .i64 (q : Int))) (p := ⟨g2, q, none⟩) (Nat.le_trans B1.out.size hg2) (.int .i64 0))
        have f2 := bk_two (HK1.out.keep B2.out HK1.out.in_)
        go_wp2_with (go_at_call 91; refine (rrename_any _ _ _ _ _ _ b _ c3 (swpL k q) _ (HR.out.below B2.out (Nat.le_refl _)) HOK.out O5.out.row HIN.out).mono ?_; rintro e w6 ⟨A6, c6, B6, d6, rfl, o6, b6⟩; have O6 := hide o6; have D6 := hide (le_call B2.out b6); have KR := hide (HK2.out.keep D6.out HK2.out.in_); have m0 := KR.out.fr 0; have m1 := KR.out.fr 1; have m2 := bk_two KR.out; clear o6 b6)
        have HF := hide ((KR.out.put 0 (.slice A6 k c6)).put 1 (.slice B6 k d6))
        have hf := bk_two HF.out
        have hin := HK2.out.in_
        have hs6 := Nat.le_trans HB0.out.size B2.out.size
        have OA := hide (own_other (own_other O6.out.1 (Nat.lt_of_lt_of_le hin B2.out.size) 0 (.slice A6 k c6)) (Nat.lt_of_lt_of_le hin B2.out.size) 1 (.slice B6 k d6))
        have OB := hide (own_other (own_other O6.out.2 (Nat.lt_of_lt_of_le hin B2.out.size) 0 (.slice A6 k c6)) (Nat.lt_of_lt_of_le hin B2.out.size) 1 (.slice B6 k d6))
        have hbl := le_call HB0.out D6.out
        rw [HE.out, fromF_ok HE.out]
        refine bodyPost_ret (v := .tuple #[bV A6 k c6 B6 k d6, .int .i64 0]) (by simp [results, Try.results51, go_sem, hf]) rfl ⟨A6, k, c6, B6, k, d6, rfl, ⟨by rw [fromB, HOL.out]; exact OA.out.more hs6, by rw [fromB, HOL.out]; exact OB.out.more hs6⟩, Below.setCell (Below.setCell hbl (by simp) _) (by simp) _⟩
  · have hee : (errS b s != 0) = true := by simp [he]
    have HE := hide (fromF_no he)
    clear he
    go_enter Try.func51, Try.ntmps51
    go_wp2_with (go_at_call 70; refine (rstate_any _ _ _ _ _ _ b s _ HR.out).mono ?_; rintro e w1 ⟨rfl, b1⟩; have B1 := hide b1; have HK2r := hide (HK2.out.keep b1 HK2.out.in_); have hk2 := bk_two HK2r.out; have hf0 := HK2r.out.fr 0; have hf1 := HK2r.out.fr 1; clear b1)
    have HF := hide ((HK2r.out.put 0 (.slice none 0 0)).put 1 (.slice none 0 0))
    have hf := bk_two HF.out
    have hbl := le_call HB0.out B1.out
    rw [HE.out]
    refine bodyPost_ret (v := .tuple #[bV none 0 0 none 0 0, .int .i64 (errS b s)]) (by simp [results, Try.results51, go_sem, hf]) rfl ⟨none, 0, 0, none, 0, 0, rfl, OwnBox.nil _ _, Below.setCell (Below.setCell hbl (by simp) _) (by simp) _⟩
end Go.Proofs.Ytkjnhdkbojcojaa
