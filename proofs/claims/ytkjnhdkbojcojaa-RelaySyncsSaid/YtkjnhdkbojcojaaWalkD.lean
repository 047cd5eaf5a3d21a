/- Walks of the document's side: the state behind a word, the answer. -/
import Derived.Test.YtkjnhdkbojcojaaWalkC
import Derived.Deep.RegionHeldLaw
namespace Go.Proofs.Ytkjnhdkbojcojaa
open Go.RowKit Go.Shelf
attribute [local go_sem] Oper.semAt_some

set_option maxHeartbeats 2000000 in
theorem rEnd_any (A : Option Addr) (n c : Nat) (A' : Option Addr) (n' c' : Nat) (b : Bx) (s : Nat) (L : Option Addr) (m d : Nat) (l : List Int) (w : World) (h : BxR w A n c A' n' c' b) (hb : Okx b) (hs : s < b.2.length) (hw : R E1 w L m d l) (hi : ∀ i, i < l.length → inpB (l.getD i 0) = true) :
    Calls Try.prog 63 #[bV A n c A' n' c', .int .i64 (s : Int), .slice L m d] w fun e w' => e = .returned (.int .i64 (endV b s l : Nat)) ∧ Below w.heap.size w w' := by
  have HML := hide hw.length
  have hle := hw.le
  have HI := hide hi
  have HOK := hide hb
  have HS := hide hs
  have HB0 := hide ((Below.refl w.heap.size w).alloc (Nat.le_refl _) (.cells #[.slice A n c, .slice A' n' c'] 25))
  have HR0 := hide (h.below HB0.out (Nat.le_refl _))
  have HW0 := hide (hw.below HB0.out (Nat.le_refl _))
  have HK0 := hide (Bk.born w 25 #[.slice A n c, .slice A' n' c'])
  have HLN := hide (h.nx.length.symm.trans hb.len)
  clear h hw hi hb hs
  go_enter Try.func63, Try.ntmps63
  go_wp2_with fail
  generalize w.alloc (.cells #[.slice A n c, .slice A' n' c'] 25) = W1 at *
  go_loopw [7, 1] (fun i v wr => ∃ k q : Nat, k ≤ m ∧ i = .int .i64 k ∧ v = .int .i64 (endV b s (l.take k) : Nat) ∧ wr = W1.drewN q) (fun i _ _ => m - (intOf i).toNat)
  case atStart => exact ⟨0, 0, Nat.zero_le _, rfl, rfl, rfl⟩
  case round =>
    obtain ⟨k, q, hk, rfl, rfl, rfl⟩ := hrel
    by_cases hlt : k < m
    · obtain ⟨b2, o2, hr2⟩ := HW0.out
      obtain ⟨b1, o1, hr1⟩ := HR0.out.nx
      have hsl := HOK.out.end_lt (l.take k) HS.out
      have hsn : endV b s (l.take k) < n := by rw [HLN.out]; exact hsl
      obtain rfl := hr2.at_ (by omega)
      obtain rfl := hr1.at_ (by omega)
      have hc2 := c1 hr2 hlt
      have hc1 := cN hr1 hsn
      rw [HOK.out.aft0 hsl, HOK.out.aft1 hsl] at hc1
      have hcb := bk_two HK0.out
      have HX := inp_two (HI.out k (by rw [HML.out]; exact hlt))
      have HT := take_succ_getD (l := l) (k := k) (by rw [HML.out]; exact hlt)
      have HES := hide (show endV b s (l.take (k + 1)) = aft b (endV b s (l.take k)) (l.getD k 0) from by rw [HT, end_app]; rfl)
      clear hr2 hr1 hsl HT
      generalize l.getD k 0 = x at *
      generalize endV b s (l.take k) = t at *
      have i1 : (k : Int) < (m : Int) := by omega
      have i2 : (t : Int) < (n : Int) := by omega
      rcases HX with rfl | rfl
      all_goals
        go_wp2_with fail
        go_quiet (fail)
        go_wp2_with fail
        go_roundw
        case rel => exact ⟨k + 1, q + nq, by omega, by go_num, by rw [HES.out], by first | rfl | (rw [World.drewN_drewN])⟩
        case measure => simp [intOf]; omega
    · obtain rfl : k = m := by omega
      have HTK := hide (show l.take k = l from List.take_of_length_le (by rw [HML.out]; exact Nat.le_refl _))
      rw [HTK.out]
      go_wp2_with fail
      go_ret
      exact ⟨rfl, below_drewN HB0.out _⟩
set_option maxHeartbeats 2000000 in
theorem worded_any (A : Option Addr) (n c : Nat) (A' : Option Addr) (n' c' : Nat) (b : Bx) (L : Option Addr) (m d : Nat) (l : List Int) (w : World) (h : BxR w A n c A' n' c' b) (hw : R E1 w L m d l) :
    Calls Try.prog 62 #[bV A n c A' n' c', .slice L m d] w fun e w' => e = .returned (.int .i64 (errW b l)) ∧ Below w.heap.size w w' := by
  have HML := hide hw.length
  have HW := hide hw
  have hle := hw.le
  have HB0 := hide ((Below.refl w.heap.size w).alloc (Nat.le_refl _) (.cells #[.slice A n c, .slice A' n' c'] 25))
  have HR0 := hide (h.below HB0.out (Nat.le_refl _))
  clear h hw
  by_cases he : errX b = 0
  · have hee : (errX b != 0) = false := by simp [he]
    have HE := hide he
    clear he
    by_cases h40 : 40 < m
    · have h40i : (40 : Int) < m := by omega
      go_enter Try.func62, Try.ntmps62
      go_wp2_with (go_at_call 26; refine (rValidate_any _ _ _ _ _ _ b _ HR0.out).mono ?_; rintro e w1 ⟨rfl, D1⟩)
      go_ret
      exact ⟨ret_i64 (errW_long HE.out (by rw [HML.out]; exact h40)).symm, le_call HB0.out D1⟩
    · have h40j : (m : Int) ≤ 40 := by omega
      clear h40
      go_enter Try.func62, Try.ntmps62
      go_wp2_with (go_at_call 26; refine (rValidate_any _ _ _ _ _ _ b _ HR0.out).mono ?_; rintro e w1 ⟨rfl, D1⟩)
      have HD := hide (le_call HB0.out D1)
      go_loop [6] (fun i => ∃ k : Nat, k ≤ m ∧ i = .int .i64 k ∧ Hid (InpTo l k)) (fun i => m - (intOf i).toNat)
      case atStart => exact ⟨0, Nat.zero_le _, rfl, hide (inpTo_zero _)⟩
      case round =>
        obtain ⟨k, hk, rfl, HS⟩ := hrel
        by_cases hlt : k < m
        · obtain ⟨b2, o2, hr2⟩ := HW.out.below HD.out (Nat.le_refl _)
          obtain rfl := hr2.at_ (by omega)
          have hc1 := c1 hr2 hlt
          have HA := hide (errW_arg (l := l) (k := k) HE.out (by rw [HML.out]; omega) (by rw [HML.out]; exact hlt))
          have HN := hide (inpTo_succ HS.out)
          have HQ := hide (inB_within 2 (l.getD k 0))
          clear hr2
          generalize l.getD k 0 = x at *
          have i1 : (k : Int) < (m : Int) := by omega
          cases hx : inpB x with
          | false =>
            have HX := hide (show withinB x 0 1 = false from HQ.out.trans hx)
            have HG := hide (HA.out hx)
            clear hx
            go_wp2_with (go_at_call 66; refine (within_any x 0 1 _).mono ?_; rintro e w3 ⟨rfl, rfl⟩; rw [HX.out])
            go_ret
            exact ⟨ret_i64 HG.out.symm, HD.out⟩
          | true =>
            have HX := hide (show withinB x 0 1 = true from HQ.out.trans hx)
            have HG := hide (HN.out hx)
            clear hx
            go_wp2_with (go_at_call 66; refine (within_any x 0 1 _).mono ?_; rintro e w3 ⟨rfl, rfl⟩; rw [HX.out])
            go_round
            case rel => exact ⟨k + 1, by omega, by go_num, HG⟩
            case measure => simp [intOf]; omega
        · obtain rfl : k = m := by omega
          go_wp2_with fail
          go_ret
          exact ⟨ret_i64 (errW_fine HE.out (by rw [HML.out]; omega) (by rw [HML.out]; exact HS.out)).symm, HD.out⟩
  · have hee : (errX b != 0) = true := by simp [he]
    have HE := hide (errW_bad he l)
    clear he
    go_enter Try.func62, Try.ntmps62
    go_wp2_with (go_at_call 26; refine (rValidate_any _ _ _ _ _ _ b _ HR0.out).mono ?_; rintro e w1 ⟨rfl, D1⟩)
    go_ret
    exact ⟨ret_i64 HE.out.symm, le_call HB0.out D1⟩
set_option maxHeartbeats 2000000 in
theorem rState_any (A : Option Addr) (n c : Nat) (A' : Option Addr) (n' c' : Nat) (b : Bx) (L : Option Addr) (m d : Nat) (l : List Int) (w : World) (h : BxR w A n c A' n' c' b) (hw : R E1 w L m d l) :
    Calls Try.prog 24 #[bV A n c A' n' c', .slice L m d] w (NumPost (endF b l) (errW b l) w) := by
  have HML := hide hw.length
  have hle := hw.le
  have HB0 := hide ((Below.refl w.heap.size w).alloc (Nat.le_refl _) (.cells #[.slice A n c, .slice A' n' c'] 25))
  have HR0 := hide (h.below HB0.out (Nat.le_refl _))
  have HW0 := hide (hw.below HB0.out (Nat.le_refl _))
  have HK0 := hide (Bk.born w 25 #[.slice A n c, .slice A' n' c'])
  clear h hw
  by_cases he : errW b l = 0
  · have hee : (errW b l != 0) = false := by simp [he]
    have HE := hide he
    obtain ⟨ok, hl, hi⟩ := errW_ok he
    have HI := hide hi
    clear he hi
    have HOK := hide ok
    go_enter Try.func24, Try.ntmps24
    go_wp2_with (first
      | (go_at_call 62; refine (worded_any _ _ _ _ _ _ b _ _ _ l _ HR0.out HW0.out).mono ?_; rintro e w1 ⟨rfl, D1⟩; have f1 := bk_two (HK0.out.keep D1 HK0.out.in_))
      | (go_at_call 63; refine (rEnd_any _ _ _ _ _ _ b 0 _ _ _ l _ (HR0.out.below D1 (Nat.le_refl _)) ok (by have := HOK.out.n1; omega) (HW0.out.below D1 (Nat.le_refl _)) HI.out).mono ?_; rintro e w2 ⟨rfl, D2⟩))
    go_ret2
    exact ⟨by rw [endF_ok HE.out, HE.out]; rfl, le_call (le_call HB0.out D1) D2⟩
  · have hee : (errW b l != 0) = true := by simp [he]
    have HE := hide (endF_no he)
    clear he
    go_enter Try.func24, Try.ntmps24
    go_wp2_with (go_at_call 62; refine (worded_any _ _ _ _ _ _ b _ _ _ l _ HR0.out HW0.out).mono ?_; rintro e w1 ⟨rfl, D1⟩)
    go_ret2
    exact ⟨by rw [HE.out]; rfl, le_call HB0.out D1⟩
theorem R.front {α : Type} {E : Enc α} {w : World} {A : Option Addr} {n c : Nat} {xs : List α} (h : R E w A n c xs) {k : Nat} (hk : k ≤ n) : R E w A k c (xs.take k) := by
  obtain ⟨b, off, hr⟩ := h
  refine ⟨b, off, by rw [List.length_take, hr.len]; omega, Nat.le_trans hk hr.cap, hr.max, fun hn => hr.at_ (by omega), fun hn => hr.lt (by omega), fun j hj q hq => ?_⟩
  rw [hr.cell j (by omega) q hq]
  have e : (xs.take k).getD j E.d = xs.getD j E.d := by simp [List.getD_eq_getElem?_getD, hj]
  rw [e]
set_option maxHeartbeats 4000000 in
theorem rRun_any (A : Option Addr) (n c : Nat) (A' : Option Addr) (n' c' : Nat) (b : Bx) (L : Option Addr) (m d : Nat) (l : List Int) (w : World) (h : BxR w A n c A' n' c' b) (hw : R E1 w L m d l) :
    Calls Try.prog 22 #[bV A n c A' n' c', .slice L m d] w (RowPost (errW b l) (runF b l) w) := by
  have HML := hide hw.length
  have hle := hw.le
  have HB0 := hide ((Below.refl w.heap.size w).alloc (Nat.le_refl _) (.cells #[.slice A n c, .slice A' n' c'] 25))
  have HR0 := hide (h.below HB0.out (Nat.le_refl _))
  have HW0 := hide (hw.below HB0.out (Nat.le_refl _))
  have HK0 := hide (Bk.born w 25 #[.slice A n c, .slice A' n' c'])
  have HN' := hide h.ou.length
  have hmd : m ≤ d := by
    obtain ⟨b2, o2, hr⟩ := hw
    exact hr.cap
  clear h hw
  by_cases he : errW b l = 0
  · have hee : (errW b l != 0) = false := by simp [he]
    have HE := hide he
    obtain ⟨ok, hl, hi⟩ := errW_ok he
    rw [HML.out] at hl hi
    have HI := hide hi
    clear he hi
    have HOK := hide ok
    go_enter Try.func22, Try.ntmps22
    go_wp2_with (go_at_call 62; refine (worded_any _ _ _ _ _ _ b _ _ _ l _ HR0.out HW0.out).mono ?_; rintro e w1 ⟨rfl, D1⟩; have f1 := bk_two (HK0.out.keep D1 HK0.out.in_))
    have HD := hide (le_call HB0.out D1)
    have HR1 := hide (HR0.out.below D1 (Nat.le_refl _))
    have HW1 := hide (HW0.out.below D1 (Nat.le_refl _))
    have HK1 := hide (HK0.out.keep D1 HK0.out.in_)
    have hwz := HD.out.size
    obtain ⟨b2, o2, hr2⟩ := HR1.out.ou
    obtain rfl := hr2.at_ (by have := HN'.out; have := ok.n1; omega)
    have HR2 := hide hr2
    clear hr2 f1 D1 ok
    go_loopw [8, 7] (fun i o wr => ∃ (k : Nat) (A6 : Option Addr) (c6 : Nat), k ≤ m + 1 ∧ i = .int .i64 k ∧ o = .slice A6 k c6 ∧ Own E1 wr w1.heap.size 3 A6 k c6 ((runV b l).take k) ∧ Below w1.heap.size w1 wr) (fun i _ _ => m + 1 - (intOf i).toNat)
    case atStart => exact ⟨0, none, 0, Nat.zero_le _, rfl, rfl, Own.nil _ _ _ _, Below.refl _ _⟩
    case round =>
      obtain ⟨k, A6, c6, hk, rfl, rfl, how, hbl⟩ := hrel
      have HOW := hide how
      have HBL := hide hbl
      by_cases hlt : k < m + 1
      · have HT := hide (take_succ_getD (l := runV b l) (k := k) (by rw [run_len, HML.out]; exact hlt))
        have HRG := hide (run_get b l (k := k) (by rw [HML.out]; omega))
        have HSL := hide (HOK.out.end_lt (l.take k) (s := 0) (by have := HOK.out.n1; omega))
        rw [HRG.out] at HT
        have HWK := hide (show R E1 wr.drew L k d (l.take k) from ((HW1.out.below hbl (Nat.le_refl _)).drewN 1).front (by omega))
        have HIK := hide (show ∀ i, i < (l.take k).length → inpB ((l.take k).getD i 0) = true from fun i hi => by
          rw [List.length_take] at hi
          have e : (l.take k).getD i 0 = l.getD i 0 := by rw [List.getD_eq_getElem?_getD, List.getD_eq_getElem?_getD, List.getElem?_take, if_pos (by omega)]
          rw [e]
          exact HI.out i (by have := HML.out; omega))
        have HRB := hide (show BxR wr.drew A n c (some ⟨b2, o2, none⟩) n' c' b from (HR1.out.below hbl (Nat.le_refl _)).below (below_drewN (Below.refl _ _) 1) (Nat.le_refl _))
        have hbk := HK1.out.keep hbl HK1.out.in_
        have HKR := hide hbk
        have hcb := bk_two hbk
        have hws := hbl.size
        have HC := hide (fun x (hx : Below w1.heap.size w1 x) => c1 (HR2.out.below hx (Nat.le_refl _)) (show endV b 0 (l.take k) < n' by rw [← HN'.out]; exact HSL.out))
        have HSN := hide (show endV b 0 (l.take k) < n' by rw [← HN'.out]; exact HSL.out)
        have HCV := hide (show b.2.getD (endV b 0 (l.take k)) 0 = sgl b (endV b 0 (l.take k)) from rfl)
        rw [HCV.out] at HC
        have hr := HC.out wr hbl
        clear how hbl HRG hbk HCV
        have i1 : (k : Int) < ((m + 1 : Nat) : Int) := by omega
        have i2 : (k : Int) ≤ (m : Int) := by omega
        have i3 : (k : Int) ≤ (d : Int) := by omega
        have HER := hide (fun w3 => rEnd_any A n c (some ⟨b2, o2, none⟩) n' c' b 0 L k d (l.take k) w3)
        generalize endV b 0 (l.take k) = s at *
        have i4 : (s : Int) < (n' : Int) := by have := HSN.out; omega
        cases L
        all_goals
          go_wp2_with fail
          go_region_held_law (fun w' => w'.cell? ⟨w.heap.size, 0, none⟩ = some (.slice A n c) ∧ w'.cell? ⟨w.heap.size, 1, none⟩ = some (.slice (some ⟨b2, o2, none⟩) n' c') ∧ w'.cell? ⟨b2, o2 + s, none⟩ = some (.int .i64 (sgl b s)))
            (first
              | exact K7.out
              | exact K5.out
              | exact ⟨hcb.1, hcb.2, hr⟩
              | go_keep)
            (first
              | (have hgd := K5; clear hgd; refine step_app1 (E := E1) w5 (.int .i64 0) 8 rfl (.tmp 21) (.tmp 31) 23 3 rfl Try.underlying23 info_int rfl (by decide) (by omega) w1.heap.size k c6 A6 ((runV b l).take k) (sgl b s) _ rfl rfl rfl O5.out (by omega) B5.out.size ?_; intro A7 c7 w7 o7 b7; have O7 := hide o7; have B7 := hide (B5.out.trans b7); have K7 := hide (show _ ∧ _ ∧ _ from ⟨(bk_two (HK1.out.keep B7.out HK1.out.in_)).1, (bk_two (HK1.out.keep B7.out HK1.out.in_)).2, HC.out w7 B7.out⟩); clear o7 b7)
              | (go_at_call 63; refine (HER.out wr.drew HRB.out HOK.out (by have := HOK.out.n1; omega) HWK.out HIK.out).mono ?_; rintro e5 w5 ⟨rfl, b5⟩; have O5 := hide (HOW.out.drew.below b5 (Nat.le_refl _)); have B5 := hide (HBL.out.drew.trans (b5.mono hws)); have K5 := hide (show _ ∧ _ ∧ _ from ⟨(bk_two (HK1.out.keep B5.out HK1.out.in_)).1, (bk_two (HK1.out.keep B5.out HK1.out.in_)).2, HC.out w5 B5.out⟩); clear b5))
        all_goals
          go_wp2_with fail
          go_roundw
          case rel => exact ⟨k + 1, A7, c7, by omega, by go_num, rfl, by rw [HT.out]; exact O7.out, B7.out⟩
          case measure => simp [intOf]; omega
      · obtain rfl : k = m + 1 := by omega
        go_wp2_with fail
        go_ret2
        refine ⟨A6, m + 1, c6, by rw [HE.out]; rfl, ?_, HD.out.trans (HBL.out.mono hwz)⟩
        rw [runF_ok HE.out]
        have h1 := HOW.out
        rw [List.take_of_length_le (by rw [run_len, HML.out]; exact Nat.le_refl _)] at h1
        exact h1.more hwz
  · have hee : (errW b l != 0) = true := by simp [he]
    have HE := hide (runF_no he)
    clear he
    go_enter Try.func22, Try.ntmps22
    go_wp2_with (go_at_call 62; refine (worded_any _ _ _ _ _ _ b _ _ _ l _ HR0.out HW0.out).mono ?_; rintro e w1 ⟨rfl, D1⟩)
    go_ret2
    rw [HE.out]
    exact row_no _ (le_call HB0.out D1) rfl
end Go.Proofs.Ytkjnhdkbojcojaa
