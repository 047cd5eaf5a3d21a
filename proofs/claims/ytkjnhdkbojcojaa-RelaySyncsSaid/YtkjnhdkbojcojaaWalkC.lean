/- Walks: the answer to a word, and the state after it. -/
import Derived.Test.YtkjnhdkbojcojaaWalkB
namespace Go.Proofs.Ytkjnhdkbojcojaa
open Go.RowKit Go.Shelf
attribute [local go_sem] Oper.semAt_some

theorem inpB_lo {x : Int} (h : x < 0) : inpB x = false := inB_false (.inl h)
theorem inpB_hi {x : Int} (h : 2 ≤ x) : inpB x = false := inB_false (.inr (by omega))
theorem inpB_in {x : Int} (h : 0 ≤ x) (h2 : x < 2) : inpB x = true := inB_true h (by omega)
set_option maxHeartbeats 2000000 in
theorem validateWord_any (A : Option Addr) (n c : Nat) (A' : Option Addr) (n' c' : Nat) (b : Bx) (L : Option Addr) (m d : Nat) (l : List Int) (w : World) (h : BxR w A n c A' n' c' b) (hw : R E1 w L m d l) :
    Calls Try.prog 59 #[bV A n c A' n' c', .slice L m d] w fun e w' => e = .returned (.int .i64 (errW b l)) ∧ Below w.heap.size w w' := by
  have HML := hide hw.length
  have HW := hide hw
  have hle := hw.le
  have HB0 := hide ((Below.refl w.heap.size w).alloc (Nat.le_refl _) (.cells #[.slice A n c, .slice A' n' c'] 25))
  have HR0 := hide (h.below HB0.out (Nat.le_refl _))
  clear h hw
  by_cases he : errX b = 0
  · have hee : (errX b != 0) = false := by simp [he]
    have HE := hide he
    clear he
    by_cases h40 : 40 < m
    · have h40i : (40 : Int) < m := by omega
      go_enter Try.func59, Try.ntmps59
      go_wp2_with (go_at_call 25; refine (Validate_any _ _ _ _ _ _ b _ HR0.out).mono ?_; rintro e w1 ⟨rfl, D1⟩)
      go_ret
      exact ⟨ret_i64 (errW_long HE.out (by rw [HML.out]; exact h40)).symm, le_call HB0.out D1⟩
    · have h40i : ¬ (40 : Int) < m := by omega
      clear h40
      have h40j : (m : Int) ≤ 40 := by omega
      go_enter Try.func59, Try.ntmps59
      go_wp2_with (go_at_call 25; refine (Validate_any _ _ _ _ _ _ b _ HR0.out).mono ?_; rintro e w1 ⟨rfl, D1⟩)
      have HD := hide (le_call HB0.out D1)
      go_loop [18] (fun i => ∃ k : Nat, k ≤ m ∧ i = .int .i64 k ∧ Hid (InpTo l k)) (fun i => m - (intOf i).toNat)
      case atStart => exact ⟨0, Nat.zero_le _, rfl, hide (inpTo_zero _)⟩
      case round =>
        obtain ⟨k, hk, rfl, HS⟩ := hrel
        by_cases hlt : k < m
        · obtain ⟨b2, o2, hr2⟩ := HW.out.below HD.out (Nat.le_refl _)
          obtain rfl := hr2.at_ (by omega)
          have hc1 := c1 hr2 hlt
          have HA := hide (errW_arg (l := l) (k := k) HE.out (by rw [HML.out]; omega) (by rw [HML.out]; exact hlt))
          have HN := hide (inpTo_succ HS.out)
          clear hr2
          generalize l.getD k 0 = x at *
          have i1 : (k : Int) < (m : Int) := by omega
          by_cases hx0 : x < 0
          · go_wp2_with fail
            go_ret
            exact ⟨ret_i64 (HA.out (inpB_lo hx0)).symm, HD.out⟩
          · have hx0' : 0 ≤ x := by omega
            clear hx0
            by_cases hx2 : 2 ≤ x
            · go_wp2_with fail
              go_ret
              exact ⟨ret_i64 (HA.out (inpB_hi hx2)).symm, HD.out⟩
            · have hx2' : x < 2 := by omega
              clear hx2
              go_wp2_with fail
              go_round
              case rel => exact ⟨k + 1, by omega, by go_num, hide (HN.out (inpB_in hx0' hx2'))⟩
              case measure => simp [intOf]; omega
        · obtain rfl : k = m := by omega
          go_wp2_with fail
          go_ret
          exact ⟨ret_i64 (errW_fine HE.out (by rw [HML.out]; omega) (by rw [HML.out]; exact HS.out)).symm, HD.out⟩
  · have hee : (errX b != 0) = true := by simp [he]
    have HE := hide (errW_bad he l)
    clear he
    go_enter Try.func59, Try.ntmps59
    go_wp2_with (go_at_call 25; refine (Validate_any _ _ _ _ _ _ b _ HR0.out).mono ?_; rintro e w1 ⟨rfl, D1⟩)
    go_ret
    exact ⟨ret_i64 HE.out.symm, le_call HB0.out D1⟩
def endF (b : Bx) (l : List Int) : Int := if errW b l = 0 then (endV b 0 l : Int) else 0
def runF (b : Bx) (l : List Int) : List Int := if errW b l = 0 then runV b l else []
theorem endF_ok {b : Bx} {l : List Int} (h : errW b l = 0) : endF b l = endV b 0 l := if_pos h
theorem endF_no {b : Bx} {l : List Int} (h : ¬ errW b l = 0) : endF b l = 0 := if_neg h
theorem runF_ok {b : Bx} {l : List Int} (h : errW b l = 0) : runF b l = runV b l := if_pos h
theorem runF_no {b : Bx} {l : List Int} (h : ¬ errW b l = 0) : runF b l = [] := if_neg h
/-- A number and an error. -/
def NumPost (v er : Int) (w : World) (e : Ending) (w' : World) : Prop := e = .returned (.tuple #[.int .i64 v, .int .i64 er]) ∧ Below w.heap.size w w'
set_option maxHeartbeats 2000000 in
theorem State_any (A : Option Addr) (n c : Nat) (A' : Option Addr) (n' c' : Nat) (b : Bx) (L : Option Addr) (m d : Nat) (l : List Int) (w : World) (h : BxR w A n c A' n' c' b) (hw : R E1 w L m d l) :
    Calls Try.prog 23 #[bV A n c A' n' c', .slice L m d] w (NumPost (endF b l) (errW b l) w) := by
  have HML := hide hw.length
  have hle := hw.le
  have HB0 := hide ((Below.refl w.heap.size w).alloc (Nat.le_refl _) (.cells #[.slice A n c, .slice A' n' c'] 25))
  have HR0 := hide (h.below HB0.out (Nat.le_refl _))
  have HW0 := hide (hw.below HB0.out (Nat.le_refl _))
  have HK0 := hide (Bk.born w 25 #[.slice A n c, .slice A' n' c'])
  clear h hw
  by_cases he : errW b l = 0
  · have hee : (errW b l != 0) = false := by simp [he]
    have HE := hide he
    obtain ⟨ok, hl, hi⟩ := errW_ok he
    rw [HML.out] at hl hi
    have HI := hide hi
    clear he hi
    have HV := hide (path_get b l 0 m (by rw [HML.out]; exact Nat.le_refl _))
    rw [show l.take m = l from List.take_of_length_le (by rw [HML.out]; exact Nat.le_refl _)] at HV
    go_enter Try.func23, Try.ntmps23
    go_wp2_with (first
      | (go_at_call 59; refine (validateWord_any _ _ _ _ _ _ b _ _ _ l _ HR0.out HW0.out).mono ?_; rintro e w1 ⟨rfl, D1⟩; have f1 := bk_two (HK0.out.keep D1 HK0.out.in_))
      | (go_at_call 60; refine (path_any _ _ _ _ _ _ b _ _ _ l _ (HR0.out.below D1 (Nat.le_refl _)) ok (HW0.out.below D1 (Nat.le_refl _)) hl (by rw [HML.out]; exact HI.out)).mono ?_; rintro e w2 ⟨g, A2, c2, rfl, ho, _, D2⟩; rw [HML.out] at ho ⊢; obtain ⟨g2, rfl, _⟩ := ho.addr (by omega); have f2 := cS ho.rowAt (k := m) (by omega); rw [HV.out] at f2; simp only [Nat.zero_add] at f2; clear ho))
    go_ret2
    exact ⟨by rw [endF_ok HE.out, HE.out]; rfl, le_call (le_call HB0.out D1) D2⟩
  · have hee : (errW b l != 0) = true := by simp [he]
    have HE := hide (endF_no he)
    clear he
    go_enter Try.func23, Try.ntmps23
    go_wp2_with (go_at_call 59; refine (validateWord_any _ _ _ _ _ _ b _ _ _ l _ HR0.out HW0.out).mono ?_; rintro e w1 ⟨rfl, D1⟩)
    go_ret2
    exact ⟨by rw [HE.out]; rfl, le_call HB0.out D1⟩
theorem row_no (er : Int) {w w' : World} {e : Ending} (h : Below w.heap.size w w') (he : e = .returned (.tuple #[.slice none 0 0, .int .i64 er])) : RowPost er [] w e w' := ⟨none, 0, 0, he, Own.nil _ _ _ _, h⟩
set_option maxHeartbeats 2000000 in
theorem Run_any (A : Option Addr) (n c : Nat) (A' : Option Addr) (n' c' : Nat) (b : Bx) (L : Option Addr) (m d : Nat) (l : List Int) (w : World) (h : BxR w A n c A' n' c' b) (hw : R E1 w L m d l) :
    Calls Try.prog 21 #[bV A n c A' n' c', .slice L m d] w (RowPost (errW b l) (runF b l) w) := by
  have HML := hide hw.length
  have hle := hw.le
  have HB0 := hide ((Below.refl w.heap.size w).alloc (Nat.le_refl _) (.cells #[.slice A n c, .slice A' n' c'] 25))
  have HR0 := hide (h.below HB0.out (Nat.le_refl _))
  have HW0 := hide (hw.below HB0.out (Nat.le_refl _))
  have HK0 := hide (Bk.born w 25 #[.slice A n c, .slice A' n' c'])
  clear h hw
  by_cases he : errW b l = 0
  · have hee : (errW b l != 0) = false := by simp [he]
    have HE := hide he
    obtain ⟨ok, hl, hi⟩ := errW_ok he
    rw [HML.out] at hl hi
    have HI := hide hi
    clear he hi
    have HOK := hide ok
    have HPL := hide (path_len b l 0)
    rw [HML.out] at HPL
    go_enter Try.func21, Try.ntmps21
    go_wp2_with (first
      | (go_at_call 59; refine (validateWord_any _ _ _ _ _ _ b _ _ _ l _ HR0.out HW0.out).mono ?_; rintro e w1 ⟨rfl, D1⟩; have f1 := bk_two (HK0.out.keep D1 HK0.out.in_))
      | (go_at_call 60; refine (path_any _ _ _ _ _ _ b _ _ _ l _ (HR0.out.below D1 (Nat.le_refl _)) ok (HW0.out.below D1 (Nat.le_refl _)) hl (by rw [HML.out]; exact HI.out)).mono ?_; rintro e w2 ⟨g, A2, c2, rfl, ho, hbx, D2⟩; rw [HML.out] at ho ⊢; obtain ⟨g2, rfl, _⟩ := ho.addr (by omega); have HO := hide ho; have HBX := hide hbx; clear ho hbx))
    have HD := hide (le_call (le_call HB0.out D1) D2)
    have hwz := HD.out.size
    go_loopw [20, 7] (fun i o wr => ∃ (k : Nat) (A6 : Option Addr) (c6 : Nat), k ≤ m + 1 ∧ i = .int .i64 k ∧ o = .slice A6 k c6 ∧ Own E1 wr w2.heap.size 3 A6 k c6 ((runV b l).take k) ∧ Below w2.heap.size w2 wr) (fun i _ _ => m + 1 - (intOf i).toNat)
    case atStart => exact ⟨0, none, 0, Nat.zero_le _, rfl, rfl, Own.nil _ _ _ _, Below.refl _ _⟩
    case round =>
      obtain ⟨k, A6, c6, hk, rfl, rfl, how, hbl⟩ := hrel
      have HOW := hide how
      have HBL := hide hbl
      by_cases hlt : k < m + 1
      · have f2 := cS (HO.out.rowAt.below hbl (Nat.le_refl _)) hlt
        simp only [Nat.zero_add] at f2
        have HG := hide (path_get b l 0 k (by rw [HML.out]; omega))
        have HT := hide (take_succ_getD (l := runV b l) (k := k) (by rw [run_len, HML.out]; exact hlt))
        have HRG := hide (run_get b l (k := k) (by rw [HML.out]; omega))
        have HSL := hide (HOK.out.end_lt (l.take k) (s := 0) (by have := HOK.out.n1; omega))
        rw [HG.out] at f2
        rw [HRG.out] at HT
        have HB2 := hide (fun o => HBX.out.below (le_two hbl o) (Nat.le_refl _))
        have hws := hbl.size
        clear how hbl HG HRG
        generalize endV b 0 (l.take k) = s at *
        have i1 : (k : Int) < ((m + 1 : Nat) : Int) := by omega
        have FB := hide (fun w1 (D : Below (wr.alloc (.cells #[.pointer (some ⟨g, 0, none⟩), .int .i64 (s : Int)] 68)).heap.size (wr.alloc (.cells #[.pointer (some ⟨g, 0, none⟩), .int .i64 (s : Int)] 68)) w1) => le_call (le_two (Below.refl wr.heap.size wr) _) D)
        go_wp2_with (first
          | (go_at_call 61; refine (signal_any g b s _ (HB2.out _) HOK.out HSL.out).mono ?_; rintro e w3 ⟨rfl, D3⟩; have D4 := hide (FB.out w3 D3))
          | (at_builtin; refine wpList_app1 (E := E1) _ (.int .i64 0) 8 rfl (.tmp 24) (.tmp 27) 23 3 rfl Try.underlying23 info_int rfl (by decide) (by omega) w2.heap.size k c6 A6 ((runV b l).take k) (sgl b s) _ rfl rfl rfl (HOW.out.below D4.out (Nat.le_refl _)) (by omega) (by have := D4.out.size; omega) ?_; intro A7 c7 w5 hown hbb hg))
        go_roundw
        case rel =>
          refine ⟨k + 1, A7, c7, by omega, by go_num, rfl, by rw [HT.out]; exact hown, ?_⟩
          exact (HBL.out.trans (D4.out.mono hws)).trans hbb
        case measure => simp [intOf]; omega
      · obtain rfl : k = m + 1 := by omega
        go_wp2_with fail
        go_ret2
        refine ⟨A6, m + 1, c6, by rw [HE.out]; rfl, ?_, HD.out.trans (HBL.out.mono hwz)⟩
        rw [runF_ok HE.out]
        have h1 := HOW.out
        rw [List.take_of_length_le (by rw [run_len, HML.out]; exact Nat.le_refl _)] at h1
        exact h1.more hwz
  · have hee : (errW b l != 0) = true := by simp [he]
    have HE := hide (runF_no he)
    clear he
    go_enter Try.func21, Try.ntmps21
    go_wp2_with (go_at_call 59; refine (validateWord_any _ _ _ _ _ _ b _ _ _ l _ HR0.out HW0.out).mono ?_; rintro e w1 ⟨rfl, D1⟩)
    go_ret2
    rw [HE.out]
    exact row_no _ (le_call HB0.out D1) rfl
end Go.Proofs.Ytkjnhdkbojcojaa
