/- What RelayTurns does at any box and word. -/
import Derived.Test.YtkjnhdkbojcojaaWkRuns
import Derived.Test.YtkjnhdkbojcojaaWalkS
namespace Go.Proofs.Ytkjnhdkbojcojaa
open Go.RowKit Go.Shelf
attribute [local go_sem] Oper.semAt_some

def flipL (l : List Int) : List Int := l.map fun x => 1 - x
theorem turn_get (b : Bx) (s : Nat) : (turnB b).1.getD s (0, 0) = ((b.1.getD s (0, 0)).2, (b.1.getD s (0, 0)).1) := by
  unfold turnB
  rw [List.getD_eq_getElem?_getD, List.getD_eq_getElem?_getD, List.getElem?_map]
  cases b.1[s]? <;> rfl
theorem turn_ok {b : Bx} (h : Okx b) : Okx (turnB b) :=
  ⟨h.n1, h.n6, by simp [turnB, h.len], fun i hi => by rw [turn_get]; exact ⟨(h.nx i hi).2, (h.nx i hi).1⟩, h.ou⟩
theorem turn_aft (b : Bx) (s : Nat) {x : Int} (h : inpB x = true) : aft (turnB b) s (1 - x) = aft b s x := by
  unfold aft
  rw [turn_get]
  rcases inp_two h with rfl | rfl <;> simp
theorem turn_path (b : Bx) : ∀ (l : List Int) (s : Nat), (∀ i, i < l.length → inpB (l.getD i 0) = true) → pathV (turnB b) s (flipL l) = pathV b s l
  | [], _, _ => rfl
  | x :: l, s, h => by
    have h0 : inpB x = true := h 0 (by simp)
    show s :: pathV (turnB b) (aft (turnB b) s (1 - x)) (flipL l) = s :: pathV b (aft b s x) l
    rw [turn_aft b s h0, turn_path b l _ fun i hi => h (i + 1) (by simpa using hi)]
theorem turn_run {b : Bx} {l : List Int} (h : errW b l = 0) : errW (turnB b) (flipL l) = 0 ∧ runF (turnB b) (flipL l) = runF b l := by
  obtain ⟨ok, hl, hi⟩ := errW_ok h
  have h1 : errW (turnB b) (flipL l) = 0 := by
    refine errW_fine (errX_ok (turn_ok ok)) (by simp [flipL]; omega) fun i hi' => ?_
    have hi2 : i < l.length := by simpa [flipL] using hi'
    have h2 := hi i hi2
    have e : (flipL l).getD i 0 = 1 - l.getD i 0 := by
      rw [List.getD_eq_getElem?_getD, List.getD_eq_getElem?_getD]
      simp [flipL, hi2]
    rw [e]
    rcases inp_two h2 with h3 | h3 <;> rw [h3] <;> decide
  refine ⟨h1, ?_⟩
  rw [runF_ok h1, runF_ok h, runV, runV, turn_path b l 0 hi]
  rfl
theorem flip_take {l : List Int} {k : Nat} (h : k < l.length) : flipL (l.take (k + 1)) = flipL (l.take k) ++ [1 - l.getD k 0] := by
  rw [take_succ_getD h]; simp [flipL]
set_option maxRecDepth 100000 in
set_option maxHeartbeats 8000000 in
theorem RelayTurns_walk (A : Option Addr) (n c : Nat) (A' : Option Addr) (n' c' : Nat) (b : Bx) (L : Option Addr) (m d : Nat) (l : List Int) (w : World) (h : BxR w A n c A' n' c' b) (hw : R E1 w L m d l) :
    Calls Try.prog 16 #[bV A n c A' n' c', .slice L m d] w fun e w' => e = .returned (.bool true) ∧ Below w.heap.size w w' := by
  have D0 := hide ((Below.refl w.heap.size w).alloc (Nat.le_refl _) (.cells #[.slice A n c, .slice A' n' c'] 25))
  have HK0 := hide (Bk.born w 25 #[.slice A n c, .slice A' n' c'])
  have HB := hide (h.below D0.out (Nat.le_refl _))
  have hle := h.nx.le
  have hle' := h.ou.le
  have HW := hide (hw.below D0.out (Nat.le_refl _))
  have HML := hide hw.length
  have HH1 := hide (show R EH ((w.alloc (.cells #[.slice A n c, .slice A' n' c'] 25)).alloc (.cells #[.slice L m d] 23)) (some ⟨w.heap.size + 1, 0, none⟩) 1 1 [(L, m, d)] from by
    have := hd_one (w.alloc (.cells #[.slice A n c, .slice A' n' c'] 25)) (L, m, d)
    rwa [show (w.alloc (.cells #[.slice A n c, .slice A' n' c'] 25)).heap.size = w.heap.size + 1 from by simp] at this)
  clear h hw
  cases hlg : longB n n' [(L, m, d)] with
  | true =>
    have HLG := hide hlg
    clear hlg
    go_enter Try.func16, Try.ntmps16
    go_wp2_with (first
      | (have hgd := D1; clear hgd; go_at_call 20; refine (sane_any _).mono ?_; rintro e2 w2 ⟨rfl, b2⟩; have D2 := hide b2; clear b2; have f20 := bk_two (HK0.out.keep (show Below (w.alloc (.cells #[.slice A n c, .slice A' n' c'] 25)).heap.size (w.alloc (.cells #[.slice A n c, .slice A' n' c'] 25)) w2 from (le_call (le_call (Below.refl _ _) D1.out) D2.out)) HK0.out.in_))
      | (have hgd := D0; clear hgd; go_at_call 19; refine (Long_any A n c A' n' c' _ 1 1 [(L, m, d)] _ HH1.out hle hle').mono ?_; rintro e1 w1 ⟨rfl, b1⟩; rw [HLG.out]; have D1 := hide (show Below (w.alloc (.cells #[.slice A n c, .slice A' n' c'] 25)).heap.size (w.alloc (.cells #[.slice A n c, .slice A' n' c'] 25)) w1 from le_call (le_two (Below.refl _ _) _) b1); clear b1; have f10 := bk_two (HK0.out.keep (show Below (w.alloc (.cells #[.slice A n c, .slice A' n' c'] 25)).heap.size (w.alloc (.cells #[.slice A n c, .slice A' n' c'] 25)) w1 from (le_call (Below.refl _ _) D1.out)) HK0.out.in_)))
    go_ret
    exact ⟨rfl, (le_call (le_call D0.out D1.out) D2.out)⟩
  | false =>
    have HLG := hide hlg
    have hm : m ≤ 100 := (longB_no hlg).2.2 (L, m, d) (by simp)
    have hn50 := (longB_no hlg).1
    have hn50' := (longB_no hlg).2.1
    clear hlg
    have q1 : (errX b != errX b) = false := bne_self_eq_false _
    have HTL := hide (show (turnF b).1.length ≤ 50 ∧ (turnF b).2.length ≤ 50 from by
      have h1 := HB.out.nx.length
      have h2 := HB.out.ou.length
      by_cases e : errX b = 0
      · rw [turnF_ok e]; simp [turnB]; omega
      · rw [turnF_no e]; simp)
    by_cases he : errW b l = 0
    · have hx0 := errX_ok (errW_ok he).1
      have HX0 := hide hx0
      have hee : (errX b != 0) = false := by simp [hx0]
      have hew : (errW b l != 0) = false := by simp [he]
      have HE := hide he
      obtain ⟨hr1, hr2⟩ := turn_run he
      have HR1 := hide hr1
      have HR2 := hide hr2
      have HTF := hide (turnF_ok hx0)
      have HM40 := hide (errW_ok he).2.1
      have HINP := hide (errW_ok he).2.2
      clear he hx0 hr1 hr2
      go_enter Try.func16, Try.ntmps16
      go_wp2_with (first
        | (have hgd := D4; clear hgd; go_at_call 21; refine (Run_any _ _ _ _ _ _ b _ _ _ l _ (HB.out.below H4.out (Nat.le_refl _)) (HW.out.below H4.out (Nat.le_refl _))).mono ?_; rintro e5 w5 ⟨A5, n5, c5, rfl, o5, b5⟩; have O5 := hide o5; have D5 := hide b5; clear o5 b5; have H5 := hide (H4.out.trans (D5.out.mono H4.out.size)))
        | (have hgd := D3; clear hgd; go_at_call 36; refine (SameBox_any A2 n2 c2 B2 m2 d2 A3 n3 c3 B3 m3 d3 (turnF b) _ (O23.out.below (le_two (Below.refl _ _) _) (Nat.le_refl _)).row (O3.out.below (le_two (Below.refl _ _) _) (Nat.le_refl _)).row (by have h1 := O2.out.1.len; have h2 := HTL.out.1; omega) (by have h1 := O2.out.2.len; have h2 := HTL.out.2; omega)).mono ?_; rintro e4 w4 ⟨rfl, b4⟩; have D4 := hide b4; clear b4; have H4 := hide (H3a.out.trans (D4.out.mono H3a.out.size)); have f4 := bk_two (HK0.out.keep H4.out HK0.out.in_))
        | (have hgd := D2; clear hgd; go_at_call 55; refine (rTurn_any _ _ _ _ _ _ b _ (HB.out.below H2a.out (Nat.le_refl _))).mono ?_; rintro e3 w3 ⟨A3, n3, c3, B3, m3, d3, rfl, ob3, b3⟩; have O3 := hide ob3; have D3 := hide b3; clear ob3 b3; have H3 := hide (H2a.out.trans (D3.out.mono H2a.out.size)); have H3a := hide (show Below (w.alloc (.cells #[.slice A n c, .slice A' n' c'] 25)).heap.size (w.alloc (.cells #[.slice A n c, .slice A' n' c'] 25)) (w3.alloc (.cells #[.slice A3 n3 c3, .slice B3 m3 d3] 25)) from le_two H3.out _); have KP2b := hide ((KP2.out.keep D3.out KP2.out.in_).more (.cells #[.slice A3 n3 c3, .slice B3 m3 d3] 25)); have KP3 := hide (Bk.born w3 25 #[.slice A3 n3 c3, .slice B3 m3 d3]); have f3 := bk_two KP2b.out; have f3b := bk_two KP3.out; have O23 := hide ((O2.out.below (le_two (Below.refl _ _) (.cells #[.slice A2 n2 c2, .slice B2 m2 d2] 25)) (Nat.le_refl _)).below D3.out (Nat.le_refl _)))
        | (have hgd := D1; clear hgd; go_at_call 54; refine (Turn_any _ _ _ _ _ _ b _ (HB.out.below D1.out (Nat.le_refl _))).mono ?_; rintro e2 w2 ⟨A2, n2, c2, B2, m2, d2, rfl, ob2, b2⟩; have O2 := hide ob2; have D2 := hide b2; clear ob2 b2; have H2 := hide (le_call D1.out D2.out); have H2a := hide (show Below (w.alloc (.cells #[.slice A n c, .slice A' n' c'] 25)).heap.size (w.alloc (.cells #[.slice A n c, .slice A' n' c'] 25)) (w2.alloc (.cells #[.slice A2 n2 c2, .slice B2 m2 d2] 25)) from le_two H2.out _); have f2 := bk_two (HK0.out.keep H2a.out HK0.out.in_); have KP2 := hide (Bk.born w2 25 #[.slice A2 n2 c2, .slice B2 m2 d2]))
        | (have hgd := D0; clear hgd; go_at_call 19; refine (Long_any A n c A' n' c' _ 1 1 [(L, m, d)] _ HH1.out hle hle').mono ?_; rintro e1 w1 ⟨rfl, b1⟩; rw [HLG.out]; have D1 := hide (show Below (w.alloc (.cells #[.slice A n c, .slice A' n' c'] 25)).heap.size (w.alloc (.cells #[.slice A n c, .slice A' n' c'] 25)) w1 from le_call (le_two (Below.refl _ _) _) b1); clear b1; have f10 := bk_two (HK0.out.keep (show Below (w.alloc (.cells #[.slice A n c, .slice A' n' c'] 25)).heap.size (w.alloc (.cells #[.slice A n c, .slice A' n' c'] 25)) w1 from (le_call (Below.refl _ _) D1.out)) HK0.out.in_)))
      have KP5 := hide (show Bk w5 w2.heap.size 25 #[.slice A2 n2 c2, .slice B2 m2 d2] from (KP2b.out.keep D4.out KP2b.out.in_).keep D5.out (by have := (KP2b.out.keep D4.out KP2b.out.in_).in_; exact this))
      have O5b := hide (((O23.out.below (le_two (Below.refl _ _) (.cells #[.slice A3 n3 c3, .slice B3 m3 d3] 25)) (Nat.le_refl _)).below D4.out (Nat.le_refl _)).below D5.out (Nat.le_refl _))
      rw [HTF.out] at O5b
      have HB5 := hide (HB.out.below H5.out (Nat.le_refl _))
      have HW5 := hide (HW.out.below H5.out (Nat.le_refl _))
      have HRL := hide (show (runF b l).length ≤ 41 from by rw [runF_ok HE.out, run_len]; have := HM40.out; omega)
      go_loopw [12, 11] (fun i v wr => ∃ (k : Nat) (A6 : Option Addr) (c6 : Nat), k ≤ m ∧ i = .int .i64 k ∧ v = .slice A6 k c6 ∧ Hid (Own E1 wr w5.heap.size 3 A6 k c6 (flipL (l.take k))) ∧ Hid (Below w5.heap.size w5 wr)) (fun i _ _ => m - (intOf i).toNat)
      case atStart => exact ⟨0, none, 0, Nat.zero_le _, rfl, rfl, hide (Own.nil _ _ _ _), hide (Below.refl _ _)⟩
      case round =>
        obtain ⟨k, A6, c6, hk, rfl, rfl, HO, HBL⟩ := hrel
        by_cases hlt : k < m
        · obtain ⟨b2, o2, hr2⟩ := HW5.out.below HBL.out (Nat.le_refl _)
          obtain rfl := hr2.at_ (by omega)
          have hc1 := c1 hr2 hlt
          have HX2 := inp_two (HINP.out k (by rw [HML.out]; exact hlt))
          have HFT := hide (flip_take (l := l) (k := k) (by rw [HML.out]; exact hlt))
          have i1 : (k : Int) < (m : Int) := by omega
          have hsz := HBL.out.size
          clear hr2
          generalize l.getD k 0 = x at *
          rcases HX2 with rfl | rfl
          · go_wp2_with (at_builtin; refine wpList_app1 (E := E1) _ (.int .i64 0) 8 rfl (.tmp 58) (.tmp 64) 23 3 rfl Try.underlying23 info_int rfl (by decide) (by omega) w5.heap.size k c6 A6 (flipL (l.take k)) (1 : Int) _ rfl rfl rfl HO.out (by omega) hsz ?_; intro A7 c7 w7 hown hbb hg)
            go_roundw
            case rel => exact ⟨k + 1, A7, c7, by omega, by go_num, rfl, hide (by rw [HFT.out]; exact hown), hide (HBL.out.trans hbb)⟩
            case measure => simp [intOf]; omega
          · go_wp2_with (at_builtin; refine wpList_app1 (E := E1) _ (.int .i64 0) 8 rfl (.tmp 58) (.tmp 64) 23 3 rfl Try.underlying23 info_int rfl (by decide) (by omega) w5.heap.size k c6 A6 (flipL (l.take k)) (0 : Int) _ rfl rfl rfl HO.out (by omega) hsz ?_; intro A7 c7 w7 hown hbb hg)
            go_roundw
            case rel => exact ⟨k + 1, A7, c7, by omega, by go_num, rfl, hide (by rw [HFT.out]; exact hown), hide (HBL.out.trans hbb)⟩
            case measure => simp [intOf]; omega
        · obtain rfl : k = m := by omega
          have HTK := hide (show l.take k = l from List.take_of_length_le (by rw [HML.out]; exact Nat.le_refl _))
          rw [HTK.out] at HO
          have f6 := bk_two (KP5.out.keep HBL.out KP5.out.in_)
          go_wp2_with (first
            | (have hgd := B8; clear hgd; go_at_call 20; refine (sane_any _).mono ?_; rintro e9 w9 ⟨rfl, b9⟩; have B9 := hide (le_call B8.out b9); clear b9)
            | (have hgd := B7; clear hgd; go_at_call 27; refine (SameInts_any A5 n5 c5 A7 n7 c7 (runF b l) (runF b l) _ ((O5.out.row.below HBL.out (Nat.le_refl _)).below D7.out (Nat.le_refl _)) O7.out.row (by have h1 := O5.out.len; have h2 := HRL.out; omega) (by have h1 := O7.out.len; have h2 := HRL.out; omega)).mono ?_; rintro e8 w8 ⟨rfl, q8, hw8⟩; have B8 := hide (show Below w5.heap.size w5 w8 from (by rw [hw8]; exact below_drewN B7.out q8)); clear hw8; rw [beq_self_eq_true])
            | (go_at_call 21; refine (Run_any A2 n2 c2 B2 m2 d2 (turnB b) _ _ _ (flipL l) _ (O5b.out.below HBL.out (Nat.le_refl _)).row HO.out.row).mono ?_; rw [HR1.out, HR2.out]; rintro e7 w7 ⟨A7, n7, c7, rfl, o7, b7⟩; have O7 := hide o7; have D7 := hide b7; have B7 := hide (HBL.out.trans (b7.mono HBL.out.size)); clear o7 b7))
          go_ret
          exact ⟨rfl, (le_call D0.out H5.out).trans (B9.out.mono (le_call D0.out H5.out).size)⟩
    · have HNE := hide he
      have hew : (errW b l != 0) = true := by simp [he]
      clear he
      by_cases hx : errX b = 0
      · have hee : (errX b != 0) = false := by simp [hx]
        clear hx
        go_enter Try.func16, Try.ntmps16
        go_wp2_with (first
        | (have hgd := D5; clear hgd; go_at_call 20; refine (sane_any _).mono ?_; rintro e6 w6 ⟨rfl, b6⟩; have D6 := hide b6; clear b6)
        | (have hgd := D4; clear hgd; go_at_call 21; refine (Run_any _ _ _ _ _ _ b _ _ _ l _ (HB.out.below H4.out (Nat.le_refl _)) (HW.out.below H4.out (Nat.le_refl _))).mono ?_; rintro e5 w5 ⟨A5, n5, c5, rfl, o5, b5⟩; have O5 := hide o5; have D5 := hide b5; clear o5 b5; have H5 := hide (H4.out.trans (D5.out.mono H4.out.size)))
        | (have hgd := D3; clear hgd; go_at_call 36; refine (SameBox_any A2 n2 c2 B2 m2 d2 A3 n3 c3 B3 m3 d3 (turnF b) _ (O23.out.below (le_two (Below.refl _ _) _) (Nat.le_refl _)).row (O3.out.below (le_two (Below.refl _ _) _) (Nat.le_refl _)).row (by have h1 := O2.out.1.len; have h2 := HTL.out.1; omega) (by have h1 := O2.out.2.len; have h2 := HTL.out.2; omega)).mono ?_; rintro e4 w4 ⟨rfl, b4⟩; have D4 := hide b4; clear b4; have H4 := hide (H3a.out.trans (D4.out.mono H3a.out.size)); have f4 := bk_two (HK0.out.keep H4.out HK0.out.in_))
        | (have hgd := D2; clear hgd; go_at_call 55; refine (rTurn_any _ _ _ _ _ _ b _ (HB.out.below H2a.out (Nat.le_refl _))).mono ?_; rintro e3 w3 ⟨A3, n3, c3, B3, m3, d3, rfl, ob3, b3⟩; have O3 := hide ob3; have D3 := hide b3; clear ob3 b3; have H3 := hide (H2a.out.trans (D3.out.mono H2a.out.size)); have H3a := hide (show Below (w.alloc (.cells #[.slice A n c, .slice A' n' c'] 25)).heap.size (w.alloc (.cells #[.slice A n c, .slice A' n' c'] 25)) (w3.alloc (.cells #[.slice A3 n3 c3, .slice B3 m3 d3] 25)) from le_two H3.out _); have KP2b := hide ((KP2.out.keep D3.out KP2.out.in_).more (.cells #[.slice A3 n3 c3, .slice B3 m3 d3] 25)); have KP3 := hide (Bk.born w3 25 #[.slice A3 n3 c3, .slice B3 m3 d3]); have f3 := bk_two KP2b.out; have f3b := bk_two KP3.out; have O23 := hide ((O2.out.below (le_two (Below.refl _ _) (.cells #[.slice A2 n2 c2, .slice B2 m2 d2] 25)) (Nat.le_refl _)).below D3.out (Nat.le_refl _)))
        | (have hgd := D1; clear hgd; go_at_call 54; refine (Turn_any _ _ _ _ _ _ b _ (HB.out.below D1.out (Nat.le_refl _))).mono ?_; rintro e2 w2 ⟨A2, n2, c2, B2, m2, d2, rfl, ob2, b2⟩; have O2 := hide ob2; have D2 := hide b2; clear ob2 b2; have H2 := hide (le_call D1.out D2.out); have H2a := hide (show Below (w.alloc (.cells #[.slice A n c, .slice A' n' c'] 25)).heap.size (w.alloc (.cells #[.slice A n c, .slice A' n' c'] 25)) (w2.alloc (.cells #[.slice A2 n2 c2, .slice B2 m2 d2] 25)) from le_two H2.out _); have f2 := bk_two (HK0.out.keep H2a.out HK0.out.in_); have KP2 := hide (Bk.born w2 25 #[.slice A2 n2 c2, .slice B2 m2 d2]))
        | (have hgd := D0; clear hgd; go_at_call 19; refine (Long_any A n c A' n' c' _ 1 1 [(L, m, d)] _ HH1.out hle hle').mono ?_; rintro e1 w1 ⟨rfl, b1⟩; rw [HLG.out]; have D1 := hide (show Below (w.alloc (.cells #[.slice A n c, .slice A' n' c'] 25)).heap.size (w.alloc (.cells #[.slice A n c, .slice A' n' c'] 25)) w1 from le_call (le_two (Below.refl _ _) _) b1); clear b1; have f10 := bk_two (HK0.out.keep (show Below (w.alloc (.cells #[.slice A n c, .slice A' n' c'] 25)).heap.size (w.alloc (.cells #[.slice A n c, .slice A' n' c'] 25)) w1 from (le_call (Below.refl _ _) D1.out)) HK0.out.in_)))
        go_ret
        exact ⟨rfl, le_call (le_call D0.out H5.out) D6.out⟩
      · have hee : (errX b != 0) = true := by simp [hx]
        clear hx
        go_enter Try.func16, Try.ntmps16
        go_wp2_with (first
        | (have hgd := D5; clear hgd; go_at_call 20; refine (sane_any _).mono ?_; rintro e6 w6 ⟨rfl, b6⟩; have D6 := hide b6; clear b6)
        | (have hgd := D4; clear hgd; go_at_call 21; refine (Run_any _ _ _ _ _ _ b _ _ _ l _ (HB.out.below H4.out (Nat.le_refl _)) (HW.out.below H4.out (Nat.le_refl _))).mono ?_; rintro e5 w5 ⟨A5, n5, c5, rfl, o5, b5⟩; have O5 := hide o5; have D5 := hide b5; clear o5 b5; have H5 := hide (H4.out.trans (D5.out.mono H4.out.size)))
        | (have hgd := D3; clear hgd; go_at_call 36; refine (SameBox_any A2 n2 c2 B2 m2 d2 A3 n3 c3 B3 m3 d3 (turnF b) _ (O23.out.below (le_two (Below.refl _ _) _) (Nat.le_refl _)).row (O3.out.below (le_two (Below.refl _ _) _) (Nat.le_refl _)).row (by have h1 := O2.out.1.len; have h2 := HTL.out.1; omega) (by have h1 := O2.out.2.len; have h2 := HTL.out.2; omega)).mono ?_; rintro e4 w4 ⟨rfl, b4⟩; have D4 := hide b4; clear b4; have H4 := hide (H3a.out.trans (D4.out.mono H3a.out.size)); have f4 := bk_two (HK0.out.keep H4.out HK0.out.in_))
        | (have hgd := D2; clear hgd; go_at_call 55; refine (rTurn_any _ _ _ _ _ _ b _ (HB.out.below H2a.out (Nat.le_refl _))).mono ?_; rintro e3 w3 ⟨A3, n3, c3, B3, m3, d3, rfl, ob3, b3⟩; have O3 := hide ob3; have D3 := hide b3; clear ob3 b3; have H3 := hide (H2a.out.trans (D3.out.mono H2a.out.size)); have H3a := hide (show Below (w.alloc (.cells #[.slice A n c, .slice A' n' c'] 25)).heap.size (w.alloc (.cells #[.slice A n c, .slice A' n' c'] 25)) (w3.alloc (.cells #[.slice A3 n3 c3, .slice B3 m3 d3] 25)) from le_two H3.out _); have KP2b := hide ((KP2.out.keep D3.out KP2.out.in_).more (.cells #[.slice A3 n3 c3, .slice B3 m3 d3] 25)); have KP3 := hide (Bk.born w3 25 #[.slice A3 n3 c3, .slice B3 m3 d3]); have f3 := bk_two KP2b.out; have f3b := bk_two KP3.out; have O23 := hide ((O2.out.below (le_two (Below.refl _ _) (.cells #[.slice A2 n2 c2, .slice B2 m2 d2] 25)) (Nat.le_refl _)).below D3.out (Nat.le_refl _)))
        | (have hgd := D1; clear hgd; go_at_call 54; refine (Turn_any _ _ _ _ _ _ b _ (HB.out.below D1.out (Nat.le_refl _))).mono ?_; rintro e2 w2 ⟨A2, n2, c2, B2, m2, d2, rfl, ob2, b2⟩; have O2 := hide ob2; have D2 := hide b2; clear ob2 b2; have H2 := hide (le_call D1.out D2.out); have H2a := hide (show Below (w.alloc (.cells #[.slice A n c, .slice A' n' c'] 25)).heap.size (w.alloc (.cells #[.slice A n c, .slice A' n' c'] 25)) (w2.alloc (.cells #[.slice A2 n2 c2, .slice B2 m2 d2] 25)) from le_two H2.out _); have f2 := bk_two (HK0.out.keep H2a.out HK0.out.in_); have KP2 := hide (Bk.born w2 25 #[.slice A2 n2 c2, .slice B2 m2 d2]))
        | (have hgd := D0; clear hgd; go_at_call 19; refine (Long_any A n c A' n' c' _ 1 1 [(L, m, d)] _ HH1.out hle hle').mono ?_; rintro e1 w1 ⟨rfl, b1⟩; rw [HLG.out]; have D1 := hide (show Below (w.alloc (.cells #[.slice A n c, .slice A' n' c'] 25)).heap.size (w.alloc (.cells #[.slice A n c, .slice A' n' c'] 25)) w1 from le_call (le_two (Below.refl _ _) _) b1); clear b1; have f10 := bk_two (HK0.out.keep (show Below (w.alloc (.cells #[.slice A n c, .slice A' n' c'] 25)).heap.size (w.alloc (.cells #[.slice A n c, .slice A' n' c'] 25)) w1 from (le_call (Below.refl _ _) D1.out)) HK0.out.in_)))
        go_ret
        exact ⟨rfl, le_call (le_call D0.out H5.out) D6.out⟩
end Go.Proofs.Ytkjnhdkbojcojaa
