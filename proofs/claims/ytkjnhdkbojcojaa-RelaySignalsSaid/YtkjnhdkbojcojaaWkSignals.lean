/- What RelaySignals does at any box, signals and word. -/
import Derived.Test.YtkjnhdkbojcojaaWkTurns
import Derived.Test.YtkjnhdkbojcojaaWalkT
namespace Go.Proofs.Ytkjnhdkbojcojaa
open Go.RowKit Go.Shelf
attribute [local go_sem] Oper.semAt_some

theorem sig_get (b : Bx) (ts : List Int) {s : Nat} (h : s < b.2.length) : sgl (sigM b ts) s = sgs ts (sgl b s) := by
  unfold sgl sigM
  rw [List.getD_eq_getElem?_getD, List.getD_eq_getElem?_getD]
  simp [h]
theorem sgs_in {ts : List Int} (hs : ∀ i, i < 4 → sigB (ts.getD i 0) = true) {x : Int} (h : 0 ≤ x ∧ x ≤ 3) : sigB (sgs ts x) = true := hs x.toNat (by omega)
theorem sig_ok {b : Bx} (h : Okx b) {ts : List Int} (hs : ∀ i, i < 4 → sigB (ts.getD i 0) = true) : Okx (sigM b ts) :=
  ⟨by simpa [sigM] using h.n1, by simpa [sigM] using h.n6, by simpa [sigM] using h.len, fun i hi => by
    have hi' : i < b.2.length := by simpa [sigM] using hi
    have := h.nx i hi'
    simpa [sigM] using this, fun i hi => by
    have hi' : i < b.2.length := by simpa [sigM] using hi
    have e : (sigM b ts).2.getD i 0 = sgs ts (sgl b i) := sig_get b ts hi'
    rw [e]
    exact sgs_in hs (h.sgl_in hi')⟩
theorem sig_path (b : Bx) (ts : List Int) : ∀ (l : List Int) (s : Nat), pathV (sigM b ts) s l = pathV b s l
  | [], _ => rfl
  | x :: l, s => by
    show s :: pathV (sigM b ts) (aft b s x) l = _
    rw [sig_path b ts l]
    rfl
theorem sig_end (b : Bx) (ts : List Int) (l : List Int) (s : Nat) : endV (sigM b ts) s l = endV b s l := rfl
theorem sig_run {b : Bx} {ts l : List Int} (h : errG b ts = 0) (hw : errW b l = 0) : errW (sigM b ts) l = 0 ∧ ∀ k, k ≤ l.length → (0 ≤ (runF b l).getD k 0 ∧ (runF b l).getD k 0 ≤ 3) ∧ (runF (sigM b ts) l).getD k 0 = sgs ts ((runF b l).getD k 0) := by
  obtain ⟨ok, _, hs⟩ := errG_ok h
  obtain ⟨_, hl, hi⟩ := errW_ok hw
  have h1 : errW (sigM b ts) l = 0 := errW_fine (errX_ok (sig_ok ok hs)) (by omega) hi
  refine ⟨h1, fun k hk => ?_⟩
  rw [runF_ok hw, runF_ok h1, run_get b l hk, run_get (sigM b ts) l hk, sig_end]
  have hlt := ok.end_lt (l.take k) (s := 0) (by have := ok.n1; omega)
  exact ⟨ok.sgl_in hlt, sig_get b ts hlt⟩
/-- A row of two headers. -/
theorem hd_two (w : World) (x y : Hd) : R EH (w.alloc (.cells #[.slice x.1 x.2.1 x.2.2, .slice y.1 y.2.1 y.2.2] 23)) (some ⟨w.heap.size, 0, none⟩) 2 2 [x, y] :=
  (Own.lit (E := EH) (B := w.heap.size) (e := 23) w [x, y] (Nat.le_refl _) (by simp [maxLen])).row
set_option maxRecDepth 100000 in
set_option maxHeartbeats 8000000 in
theorem RelaySignals_walk (A : Option Addr) (n c : Nat) (A' : Option Addr) (n' c' : Nat) (b : Bx) (T : Option Addr) (mt dt : Nat) (ts : List Int) (L : Option Addr) (m d : Nat) (l : List Int) (w : World) (h : BxR w A n c A' n' c' b) (ht : R E1 w T mt dt ts) (hw : R E1 w L m d l) :
    Calls Try.prog 17 #[bV A n c A' n' c', .slice T mt dt, .slice L m d] w fun e w' => e = .returned (.bool true) ∧ Below w.heap.size w w' := by
  have D0 := hide ((Below.refl w.heap.size w).alloc (Nat.le_refl _) (.cells #[.slice A n c, .slice A' n' c'] 25))
  have HK0 := hide (Bk.born w 25 #[.slice A n c, .slice A' n' c'])
  have HB := hide (h.below D0.out (Nat.le_refl _))
  have hle := h.nx.le
  have hle' := h.ou.le
  have HW := hide (hw.below D0.out (Nat.le_refl _))
  have HTS := hide (ht.below D0.out (Nat.le_refl _))
  have HML := hide hw.length
  have HTL4 := hide ht.length
  have HH1 := hide (show R EH ((w.alloc (.cells #[.slice A n c, .slice A' n' c'] 25)).alloc (.cells #[.slice T mt dt, .slice L m d] 23)) (some ⟨w.heap.size + 1, 0, none⟩) 2 2 [(T, mt, dt), (L, m, d)] from by
    have := hd_two (w.alloc (.cells #[.slice A n c, .slice A' n' c'] 25)) (T, mt, dt) (L, m, d)
    rwa [show (w.alloc (.cells #[.slice A n c, .slice A' n' c'] 25)).heap.size = w.heap.size + 1 from by simp] at this)
  clear h hw ht
  cases hlg : longB n n' [(T, mt, dt), (L, m, d)] with
  | true =>
    have HLG := hide hlg
    clear hlg
    go_enter Try.func17, Try.ntmps17
    go_wp2_with (first
      | (have hgd := D1; clear hgd; go_at_call 20; refine (sane_any _).mono ?_; rintro e2 w2 ⟨rfl, b2⟩; have D2 := hide b2; clear b2; have f20 := bk_two (HK0.out.keep (show Below (w.alloc (.cells #[.slice A n c, .slice A' n' c'] 25)).heap.size (w.alloc (.cells #[.slice A n c, .slice A' n' c'] 25)) w2 from (le_call (le_call (Below.refl _ _) D1.out) D2.out)) HK0.out.in_))
      | (have hgd := D0; clear hgd; go_at_call 19; refine (Long_any A n c A' n' c' _ 2 2 [(T, mt, dt), (L, m, d)] _ HH1.out hle hle').mono ?_; rintro e1 w1 ⟨rfl, b1⟩; rw [HLG.out]; have D1 := hide (show Below (w.alloc (.cells #[.slice A n c, .slice A' n' c'] 25)).heap.size (w.alloc (.cells #[.slice A n c, .slice A' n' c'] 25)) w1 from le_call (le_two (Below.refl _ _) _) b1); clear b1; have f10 := bk_two (HK0.out.keep (show Below (w.alloc (.cells #[.slice A n c, .slice A' n' c'] 25)).heap.size (w.alloc (.cells #[.slice A n c, .slice A' n' c'] 25)) w1 from (le_call (Below.refl _ _) D1.out)) HK0.out.in_)))
    go_ret
    exact ⟨rfl, (le_call (le_call D0.out D1.out) D2.out)⟩
  | false =>
    have HLG := hide hlg
    have hm : m ≤ 100 := (longB_no hlg).2.2 (L, m, d) (by simp)
    have hmt : mt ≤ 100 := (longB_no hlg).2.2 (T, mt, dt) (by simp)
    have hn50 := (longB_no hlg).1
    have hn50' := (longB_no hlg).2.1
    clear hlg
    have q1 : (errG b ts != errG b ts) = false := bne_self_eq_false _
    have HTL := hide (show (sigF b ts).1.length ≤ 50 ∧ (sigF b ts).2.length ≤ 50 from by
      have h1 := HB.out.nx.length
      have h2 := HB.out.ou.length
      by_cases e : errG b ts = 0
      · rw [sigF_ok e]; simp [sigM]; omega
      · rw [sigF_no e]; simp)
    by_cases hg : errG b ts = 0
    · have hgg : (errG b ts != 0) = false := by simp [hg]
      by_cases he : errW b l = 0
      · have hew : (errW b l != 0) = false := by simp [he]
        have HE := hide he
        have HG := hide hg
        obtain ⟨hr1, hr2⟩ := sig_run hg he
        have HR1 := hide hr1
        have HR2 := hide hr2
        have HSF := hide (sigF_ok hg)
        have hr1b : (errW (sigM b ts) l != 0) = false := by simp [hr1]
        have HRL := hide (show (runF b l).length = m + 1 from by rw [runF_ok he, run_len, HML.out])
        have HRL2 := hide (show (runF (sigM b ts) l).length = m + 1 from by rw [runF_ok hr1, run_len, HML.out])
        have HT4 := hide (errG_ok hg).2.1
        have HMT4 := hide (show mt = 4 from HTL4.out.symm.trans HT4.out)
        clear he hg hr1 hr2
        go_enter Try.func17, Try.ntmps17
        go_wp2_with (first
        | (have hgd := D5; clear hgd; go_at_call 21; refine (Run_any A2 n2 c2 B2 m2 d2 (sigF b ts) _ _ _ l _ O25.out.row (HW.out.below H5.out (Nat.le_refl _))).mono ?_; rw [HSF.out, HR1.out]; rintro e6 w6 ⟨A6, n6, c6, rfl, o6, b6⟩; obtain rfl : m + 1 = n6 := HRL2.out.symm.trans o6.len; have O6 := hide o6; have D6 := hide b6; clear o6 b6; have H6 := hide (H5.out.trans (D6.out.mono H5.out.size)))
        | (have hgd := D4; clear hgd; go_at_call 21; refine (Run_any _ _ _ _ _ _ b _ _ _ l _ (HB.out.below H4.out (Nat.le_refl _)) (HW.out.below H4.out (Nat.le_refl _))).mono ?_; rintro e5 w5 ⟨A5, n5, c5, rfl, o5, b5⟩; obtain rfl : m + 1 = n5 := HRL.out.symm.trans o5.len; have O5 := hide o5; have D5 := hide b5; clear o5 b5; have H5 := hide (H4.out.trans (D5.out.mono H4.out.size)); have KP5 := hide (KP4.out.keep D5.out KP4.out.in_); have f5 := bk_two KP5.out; have O25 := hide (O24.out.below D5.out (Nat.le_refl _)))
        | (have hgd := D3; clear hgd; go_at_call 36; refine (SameBox_any A2 n2 c2 B2 m2 d2 A3 n3 c3 B3 m3 d3 (sigF b ts) _ (O23.out.below (le_two (Below.refl _ _) _) (Nat.le_refl _)).row (O3.out.below (le_two (Below.refl _ _) _) (Nat.le_refl _)).row (by have h1 := O2.out.1.len; have h2 := HTL.out.1; omega) (by have h1 := O2.out.2.len; have h2 := HTL.out.2; omega)).mono ?_; rintro e4 w4 ⟨rfl, b4⟩; have D4 := hide b4; clear b4; have H4 := hide (H3a.out.trans (D4.out.mono H3a.out.size)); have f4 := bk_two (HK0.out.keep H4.out HK0.out.in_); have KP4 := hide (KP2b.out.keep D4.out KP2b.out.in_); have O24 := hide ((O23.out.below (le_two (Below.refl _ _) (.cells #[.slice A3 n3 c3, .slice B3 m3 d3] 25)) (Nat.le_refl _)).below D4.out (Nat.le_refl _)))
        | (have hgd := D2; clear hgd; go_at_call 57; refine (rSignals_any _ _ _ _ _ _ b _ _ _ ts _ (HB.out.below H2a.out (Nat.le_refl _)) (HTS.out.below H2a.out (Nat.le_refl _))).mono ?_; rintro e3 w3 ⟨A3, n3, c3, B3, m3, d3, rfl, ob3, b3⟩; have O3 := hide ob3; have D3 := hide b3; clear ob3 b3; have H3 := hide (H2a.out.trans (D3.out.mono H2a.out.size)); have H3a := hide (show Below (w.alloc (.cells #[.slice A n c, .slice A' n' c'] 25)).heap.size (w.alloc (.cells #[.slice A n c, .slice A' n' c'] 25)) (w3.alloc (.cells #[.slice A3 n3 c3, .slice B3 m3 d3] 25)) from le_two H3.out _); have KP2b := hide ((KP2.out.keep D3.out KP2.out.in_).more (.cells #[.slice A3 n3 c3, .slice B3 m3 d3] 25)); have KP3 := hide (Bk.born w3 25 #[.slice A3 n3 c3, .slice B3 m3 d3]); have f3 := bk_two KP2b.out; have f3b := bk_two KP3.out; have O23 := hide ((O2.out.below (le_two (Below.refl _ _) (.cells #[.slice A2 n2 c2, .slice B2 m2 d2] 25)) (Nat.le_refl _)).below D3.out (Nat.le_refl _)))
        | (have hgd := D1; clear hgd; go_at_call 56; refine (Signals_any _ _ _ _ _ _ b _ _ _ ts _ (HB.out.below D1.out (Nat.le_refl _)) (HTS.out.below D1.out (Nat.le_refl _))).mono ?_; rintro e2 w2 ⟨A2, n2, c2, B2, m2, d2, rfl, ob2, b2⟩; have O2 := hide ob2; have D2 := hide b2; clear ob2 b2; have H2 := hide (le_call D1.out D2.out); have H2a := hide (show Below (w.alloc (.cells #[.slice A n c, .slice A' n' c'] 25)).heap.size (w.alloc (.cells #[.slice A n c, .slice A' n' c'] 25)) (w2.alloc (.cells #[.slice A2 n2 c2, .slice B2 m2 d2] 25)) from le_two H2.out _); have f2 := bk_two (HK0.out.keep H2a.out HK0.out.in_); have KP2 := hide (Bk.born w2 25 #[.slice A2 n2 c2, .slice B2 m2 d2]))
        | (have hgd := D0; clear hgd; go_at_call 19; refine (Long_any A n c A' n' c' _ 2 2 [(T, mt, dt), (L, m, d)] _ HH1.out hle hle').mono ?_; rintro e1 w1 ⟨rfl, b1⟩; rw [HLG.out]; have D1 := hide (show Below (w.alloc (.cells #[.slice A n c, .slice A' n' c'] 25)).heap.size (w.alloc (.cells #[.slice A n c, .slice A' n' c'] 25)) w1 from le_call (le_two (Below.refl _ _) _) b1); clear b1; have f10 := bk_two (HK0.out.keep (show Below (w.alloc (.cells #[.slice A n c, .slice A' n' c'] 25)).heap.size (w.alloc (.cells #[.slice A n c, .slice A' n' c'] 25)) w1 from (le_call (Below.refl _ _) D1.out)) HK0.out.in_)))
        have HT6 := hide (HTS.out.below H6.out (Nat.le_refl _))
        have O56 := hide (O5.out.below D6.out (Nat.le_refl _))
        obtain ⟨g5, rfl, _⟩ := O56.out.addr (by omega)
        obtain ⟨g6, rfl, _⟩ := O6.out.addr (by omega)
        obtain ⟨bt, ot, hrt⟩ := HT6.out
        obtain rfl := hrt.at_ (by rw [HMT4.out]; decide)
        have HRT := hide hrt
        have hm4 : mt = 4 := HMT4.out
        clear hrt
        go_loopw [15] (fun i wr => ∃ k q : Nat, k ≤ m + 1 ∧ i = .int .i64 k ∧ wr = w6.drewN q) (fun i _ => m + 1 - (intOf i).toNat)
        case atStart => exact ⟨0, 0, Nat.zero_le _, rfl, rfl⟩
        case round =>
          obtain ⟨k, q, hk, rfl, rfl⟩ := hrel
          by_cases hlt : k < m + 1
          · obtain ⟨⟨hx0, hx3⟩, hy⟩ := HR2.out k (by rw [HML.out]; omega)
            have hcx := own1 O56.out hlt
            have hcy := own1 O6.out hlt
            rw [hy] at hcy
            obtain ⟨x, hx⟩ : ∃ x : Nat, (runF b l).getD k 0 = (x : Int) := ⟨((runF b l).getD k 0).toNat, by omega⟩
            rw [hx] at hcx hcy hx0 hx3
            have hx4 : x < mt := by omega
            have hct := c1 HRT.out hx4
            rw [show sgs ts (x : Int) = ts.getD x 0 from rfl] at hcy
            have i1 : (k : Int) < ((m + 1 : Nat) : Int) := by omega
            have i2 : (x : Int) < (mt : Int) := by omega
            have n1 : decide ((x : Int) < 0) = false := by simp
            have n2 : decide ((3 : Int) < (x : Int)) = false := by simp; omega
            generalize ts.getD x 0 = y at *
            have n3 : (y != y) = false := bne_self_eq_false _
            clear hy hx hm4
            go_wp2_with fail
            go_quiet (fail)
            go_wp2_with fail
            go_roundw
            case rel => exact ⟨k + 1, q + nq, by omega, by go_num, by first | rfl | (rw [World.drewN_drewN])⟩
            case measure => simp [intOf]; omega
          · obtain rfl : k = m + 1 := by omega
            go_wp2_with (go_at_call 20; refine (sane_any _).mono ?_; rintro e7 w7 ⟨rfl, b7⟩; have D7 := hide (show Below w6.heap.size w6 w7 from (below_drewN (Below.refl _ _) q).trans b7); clear b7)
            go_ret
            exact ⟨rfl, le_call (le_call D0.out H6.out) D7.out⟩
      · have hew : (errW b l != 0) = true := by simp [he]
        clear he hg
        go_enter Try.func17, Try.ntmps17
        go_wp2_with (first
        | (have hgd := D6; clear hgd; go_at_call 20; refine (sane_any _).mono ?_; rintro e7 w7 ⟨rfl, b7⟩; have D7 := hide b7; clear b7)
        | (have hgd := D5; clear hgd; go_at_call 21; refine (Run_any A2 n2 c2 B2 m2 d2 (sigF b ts) _ _ _ l _ O25.out.row (HW.out.below H5.out (Nat.le_refl _))).mono ?_; rintro e6 w6 ⟨A6, n6, c6, rfl, o6, b6⟩; have O6 := hide o6; have D6 := hide b6; clear o6 b6; have H6 := hide (H5.out.trans (D6.out.mono H5.out.size)))
        | (have hgd := D4; clear hgd; go_at_call 21; refine (Run_any _ _ _ _ _ _ b _ _ _ l _ (HB.out.below H4.out (Nat.le_refl _)) (HW.out.below H4.out (Nat.le_refl _))).mono ?_; rintro e5 w5 ⟨A5, n5, c5, rfl, o5, b5⟩; have O5 := hide o5; have D5 := hide b5; clear o5 b5; have H5 := hide (H4.out.trans (D5.out.mono H4.out.size)); have KP5 := hide (KP4.out.keep D5.out KP4.out.in_); have f5 := bk_two KP5.out; have O25 := hide (O24.out.below D5.out (Nat.le_refl _)))
        | (have hgd := D3; clear hgd; go_at_call 36; refine (SameBox_any A2 n2 c2 B2 m2 d2 A3 n3 c3 B3 m3 d3 (sigF b ts) _ (O23.out.below (le_two (Below.refl _ _) _) (Nat.le_refl _)).row (O3.out.below (le_two (Below.refl _ _) _) (Nat.le_refl _)).row (by have h1 := O2.out.1.len; have h2 := HTL.out.1; omega) (by have h1 := O2.out.2.len; have h2 := HTL.out.2; omega)).mono ?_; rintro e4 w4 ⟨rfl, b4⟩; have D4 := hide b4; clear b4; have H4 := hide (H3a.out.trans (D4.out.mono H3a.out.size)); have f4 := bk_two (HK0.out.keep H4.out HK0.out.in_); have KP4 := hide (KP2b.out.keep D4.out KP2b.out.in_); have O24 := hide ((O23.out.below (le_two (Below.refl _ _) (.cells #[.slice A3 n3 c3, .slice B3 m3 d3] 25)) (Nat.le_refl _)).below D4.out (Nat.le_refl _)))
        | (have hgd := D2; clear hgd; go_at_call 57; refine (rSignals_any _ _ _ _ _ _ b _ _ _ ts _ (HB.out.below H2a.out (Nat.le_refl _)) (HTS.out.below H2a.out (Nat.le_refl _))).mono ?_; rintro e3 w3 ⟨A3, n3, c3, B3, m3, d3, rfl, ob3, b3⟩; have O3 := hide ob3; have D3 := hide b3; clear ob3 b3; have H3 := hide (H2a.out.trans (D3.out.mono H2a.out.size)); have H3a := hide (show Below (w.alloc (.cells #[.slice A n c, .slice A' n' c'] 25)).heap.size (w.alloc (.cells #[.slice A n c, .slice A' n' c'] 25)) (w3.alloc (.cells #[.slice A3 n3 c3, .slice B3 m3 d3] 25)) from le_two H3.out _); have KP2b := hide ((KP2.out.keep D3.out KP2.out.in_).more (.cells #[.slice A3 n3 c3, .slice B3 m3 d3] 25)); have KP3 := hide (Bk.born w3 25 #[.slice A3 n3 c3, .slice B3 m3 d3]); have f3 := bk_two KP2b.out; have f3b := bk_two KP3.out; have O23 := hide ((O2.out.below (le_two (Below.refl _ _) (.cells #[.slice A2 n2 c2, .slice B2 m2 d2] 25)) (Nat.le_refl _)).below D3.out (Nat.le_refl _)))
        | (have hgd := D1; clear hgd; go_at_call 56; refine (Signals_any _ _ _ _ _ _ b _ _ _ ts _ (HB.out.below D1.out (Nat.le_refl _)) (HTS.out.below D1.out (Nat.le_refl _))).mono ?_; rintro e2 w2 ⟨A2, n2, c2, B2, m2, d2, rfl, ob2, b2⟩; have O2 := hide ob2; have D2 := hide b2; clear ob2 b2; have H2 := hide (le_call D1.out D2.out); have H2a := hide (show Below (w.alloc (.cells #[.slice A n c, .slice A' n' c'] 25)).heap.size (w.alloc (.cells #[.slice A n c, .slice A' n' c'] 25)) (w2.alloc (.cells #[.slice A2 n2 c2, .slice B2 m2 d2] 25)) from le_two H2.out _); have f2 := bk_two (HK0.out.keep H2a.out HK0.out.in_); have KP2 := hide (Bk.born w2 25 #[.slice A2 n2 c2, .slice B2 m2 d2]))
        | (have hgd := D0; clear hgd; go_at_call 19; refine (Long_any A n c A' n' c' _ 2 2 [(T, mt, dt), (L, m, d)] _ HH1.out hle hle').mono ?_; rintro e1 w1 ⟨rfl, b1⟩; rw [HLG.out]; have D1 := hide (show Below (w.alloc (.cells #[.slice A n c, .slice A' n' c'] 25)).heap.size (w.alloc (.cells #[.slice A n c, .slice A' n' c'] 25)) w1 from le_call (le_two (Below.refl _ _) _) b1); clear b1; have f10 := bk_two (HK0.out.keep (show Below (w.alloc (.cells #[.slice A n c, .slice A' n' c'] 25)).heap.size (w.alloc (.cells #[.slice A n c, .slice A' n' c'] 25)) w1 from (le_call (Below.refl _ _) D1.out)) HK0.out.in_)))
        go_ret
        exact ⟨rfl, le_call (le_call D0.out H6.out) D7.out⟩
    · have hgg : (errG b ts != 0) = true := by simp [hg]
      clear hg
      go_enter Try.func17, Try.ntmps17
      go_wp2_with (first
        | (have hgd := D6; clear hgd; go_at_call 20; refine (sane_any _).mono ?_; rintro e7 w7 ⟨rfl, b7⟩; have D7 := hide b7; clear b7)
        | (have hgd := D5; clear hgd; go_at_call 21; refine (Run_any A2 n2 c2 B2 m2 d2 (sigF b ts) _ _ _ l _ O25.out.row (HW.out.below H5.out (Nat.le_refl _))).mono ?_; rintro e6 w6 ⟨A6, n6, c6, rfl, o6, b6⟩; have O6 := hide o6; have D6 := hide b6; clear o6 b6; have H6 := hide (H5.out.trans (D6.out.mono H5.out.size)))
        | (have hgd := D4; clear hgd; go_at_call 21; refine (Run_any _ _ _ _ _ _ b _ _ _ l _ (HB.out.below H4.out (Nat.le_refl _)) (HW.out.below H4.out (Nat.le_refl _))).mono ?_; rintro e5 w5 ⟨A5, n5, c5, rfl, o5, b5⟩; have O5 := hide o5; have D5 := hide b5; clear o5 b5; have H5 := hide (H4.out.trans (D5.out.mono H4.out.size)); have KP5 := hide (KP4.out.keep D5.out KP4.out.in_); have f5 := bk_two KP5.out; have O25 := hide (O24.out.below D5.out (Nat.le_refl _)))
        | (have hgd := D3; clear hgd; go_at_call 36; refine (SameBox_any A2 n2 c2 B2 m2 d2 A3 n3 c3 B3 m3 d3 (sigF b ts) _ (O23.out.below (le_two (Below.refl _ _) _) (Nat.le_refl _)).row (O3.out.below (le_two (Below.refl _ _) _) (Nat.le_refl _)).row (by have h1 := O2.out.1.len; have h2 := HTL.out.1; omega) (by have h1 := O2.out.2.len; have h2 := HTL.out.2; omega)).mono ?_; rintro e4 w4 ⟨rfl, b4⟩; have D4 := hide b4; clear b4; have H4 := hide (H3a.out.trans (D4.out.mono H3a.out.size)); have f4 := bk_two (HK0.out.keep H4.out HK0.out.in_); have KP4 := hide (KP2b.out.keep D4.out KP2b.out.in_); have O24 := hide ((O23.out.below (le_two (Below.refl _ _) (.cells #[.slice A3 n3 c3, .slice B3 m3 d3] 25)) (Nat.le_refl _)).below D4.out (Nat.le_refl _)))
        | (have hgd := D2; clear hgd; go_at_call 57; refine (rSignals_any _ _ _ _ _ _ b _ _ _ ts _ (HB.out.below H2a.out (Nat.le_refl _)) (HTS.out.below H2a.out (Nat.le_refl _))).mono ?_; rintro e3 w3 ⟨A3, n3, c3, B3, m3, d3, rfl, ob3, b3⟩; have O3 := hide ob3; have D3 := hide b3; clear ob3 b3; have H3 := hide (H2a.out.trans (D3.out.mono H2a.out.size)); have H3a := hide (show Below (w.alloc (.cells #[.slice A n c, .slice A' n' c'] 25)).heap.size (w.alloc (.cells #[.slice A n c, .slice A' n' c'] 25)) (w3.alloc (.cells #[.slice A3 n3 c3, .slice B3 m3 d3] 25)) from le_two H3.out _); have KP2b := hide ((KP2.out.keep D3.out KP2.out.in_).more (.cells #[.slice A3 n3 c3, .slice B3 m3 d3] 25)); have KP3 := hide (Bk.born w3 25 #[.slice A3 n3 c3, .slice B3 m3 d3]); have f3 := bk_two KP2b.out; have f3b := bk_two KP3.out; have O23 := hide ((O2.out.below (le_two (Below.refl _ _) (.cells #[.slice A2 n2 c2, .slice B2 m2 d2] 25)) (Nat.le_refl _)).below D3.out (Nat.le_refl _)))
        | (have hgd := D1; clear hgd; go_at_call 56; refine (Signals_any _ _ _ _ _ _ b _ _ _ ts _ (HB.out.below D1.out (Nat.le_refl _)) (HTS.out.below D1.out (Nat.le_refl _))).mono ?_; rintro e2 w2 ⟨A2, n2, c2, B2, m2, d2, rfl, ob2, b2⟩; have O2 := hide ob2; have D2 := hide b2; clear ob2 b2; have H2 := hide (le_call D1.out D2.out); have H2a := hide (show Below (w.alloc (.cells #[.slice A n c, .slice A' n' c'] 25)).heap.size (w.alloc (.cells #[.slice A n c, .slice A' n' c'] 25)) (w2.alloc (.cells #[.slice A2 n2 c2, .slice B2 m2 d2] 25)) from le_two H2.out _); have f2 := bk_two (HK0.out.keep H2a.out HK0.out.in_); have KP2 := hide (Bk.born w2 25 #[.slice A2 n2 c2, .slice B2 m2 d2]))
        | (have hgd := D0; clear hgd; go_at_call 19; refine (Long_any A n c A' n' c' _ 2 2 [(T, mt, dt), (L, m, d)] _ HH1.out hle hle').mono ?_; rintro e1 w1 ⟨rfl, b1⟩; rw [HLG.out]; have D1 := hide (show Below (w.alloc (.cells #[.slice A n c, .slice A' n' c'] 25)).heap.size (w.alloc (.cells #[.slice A n c, .slice A' n' c'] 25)) w1 from le_call (le_two (Below.refl _ _) _) b1); clear b1; have f10 := bk_two (HK0.out.keep (show Below (w.alloc (.cells #[.slice A n c, .slice A' n' c'] 25)).heap.size (w.alloc (.cells #[.slice A n c, .slice A' n' c'] 25)) w1 from (le_call (Below.refl _ _) D1.out)) HK0.out.in_)))
      go_ret
      exact ⟨rfl, le_call (le_call D0.out H6.out) D7.out⟩
end Go.Proofs.Ytkjnhdkbojcojaa
