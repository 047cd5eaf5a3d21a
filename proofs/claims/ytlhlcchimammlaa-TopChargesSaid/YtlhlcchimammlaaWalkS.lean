/- Fire: as few cartridges as can be. -/
import Derived.Test.YtlhlcchimammlaaWalkO
import Derived.Test.YtlhlcchimammlaaWalkR
namespace Go.Proofs.Ytlhlcchimammlaa
open Go.RowKit Go.Shelf
attribute [local go_sem] Oper.semAt_some

/-- What the closure of last answers. -/
def lsB (fs : List Int) (l : Nat) (x : Int) : Bool := decide (x ≤ (l : Int)) && decide (fs.getD ((l : Int) - x).toNat (-1) = fs.getD l (-1) - 1)
set_option maxHeartbeats 2000000 in
theorem last1_any (Aw : Option Addr) (nw cw : Nat) (Af : Option Addr) (nf cf : Nat) (fs : List Int) (l y g2 g3 : Nat) (w : World) (h : R E1 w Af nf cf fs) (hl : l < nf) (hl4 : l ≤ 4000) (hy4 : y ≤ 30) (hf : ∀ i, i < nf → -1 ≤ fs.getD i (-1) ∧ fs.getD i (-1) ≤ 100000)
    (h2 : Bk w g2 52 (amC Aw nw cw Af nf cf)) (h3 : Bk w g3 3 #[.int .i64 l]) :
    Calls Try.prog 82 #[.int .i64 (y : Int), .pointer (some ⟨g3, 0, none⟩), .pointer (some ⟨g2, 0, none⟩)] w fun e w' => e = .returned (.bool (lsB fs l y)) ∧ Below w.heap.size w w' := by
  have hle := h.le
  have HL := hide h.length
  have a1 := h2.at_ 1
  have b0 := h3.at_ 0
  simp at a1 b0
  have hl2 := hf l hl
  obtain ⟨b, off, hr⟩ := h
  obtain rfl := hr.at_ (by omega)
  have hbl := hr.lt (by omega)
  have c2 := c1 hr hl
  rw [getD_any (by rw [HL.out]; exact hl) 0 (-1)] at c2
  have hln : (l : Int) < (nf : Int) := by omega
  by_cases hy : y ≤ l
  · have hdy : decide (y ≤ l) = true := by simpa using hy
    have hly : l - y < nf := by omega
    have hv1 := hf (l - y) hly
    have c3 := c1 hr hly
    rw [getD_any (by rw [HL.out]; exact hly) 0 (-1)] at c3
    have HV := hide (show lsB fs l y = decide (fs.getD (l - y) (-1) = fs.getD l (-1) - 1) from by
      unfold lsB
      rw [show ((l : Int) - (y : Int)).toNat = l - y by omega, show decide ((y : Int) ≤ (l : Int)) = true by simpa using hy]
      rfl)
    have w1 : IntKind.i64.wrap ((l : Int) - (y : Int)) = ((l - y : Nat) : Int) := by rw [show (l : Int) - (y : Int) = ((l - y : Nat) : Int) by omega]; exact IntWalk.i64_in _ (by omega)
    have w2 : IntKind.i64.wrap (fs.getD l (-1) - 1) = fs.getD l (-1) - 1 := IntWalk.i64_in _ (by omega)
    have i1 : ((l - y : Nat) : Int) < (nf : Int) := by omega
    have i2 : (0 : Int) ≤ ((l - y : Nat) : Int) := by omega
    have i3 : (0 : Int) ≤ (l : Int) := by omega
    clear hr h2 h3 hf
    generalize fs.getD (l - y) (-1) = v1 at *
    generalize fs.getD l (-1) = v2 at *
    by_cases he : v1 = v2 - 1
    · have e1 : (v1 == v2 - 1) = true := by simpa using he
      have e2 : decide (v1 = v2 - 1) = true := by simpa using he
      have HV2 := hide (HV.out.trans e2)
      clear he
      go_enter Try.func82, Try.ntmps82
      go_wp2_with fail
      go_quiet (fail)
      go_wp2_with fail
      go_ret
      exact ⟨ret_bool HV2.out.symm, below_drewN (Below.refl _ _) _⟩
    · have e1 : (v1 == v2 - 1) = false := by simpa using he
      have e2 : decide (v1 = v2 - 1) = false := by simpa using he
      have HV2 := hide (HV.out.trans e2)
      clear he
      go_enter Try.func82, Try.ntmps82
      go_wp2_with fail
      go_quiet (fail)
      go_wp2_with fail
      go_ret
      exact ⟨ret_bool HV2.out.symm, below_drewN (Below.refl _ _) _⟩
  · have hdy : decide (y ≤ l) = false := by simpa using hy
    have HV := hide (show lsB fs l y = false from by
      unfold lsB
      rw [show decide ((y : Int) ≤ (l : Int)) = false by simpa using hy]
      rfl)
    clear hr h2 h3 hf
    go_enter Try.func82, Try.ntmps82
    go_wp2_with fail
    go_quiet (fail)
    go_wp2_with fail
    go_ret
    exact ⟨ret_bool HV.out.symm, below_drewN (Below.refl _ _) _⟩
set_option maxHeartbeats 1000000 in
theorem last_any (Aw : Option Addr) (nw cw : Nat) (xs : List Int) (Af : Option Addr) (nf cf : Nat) (fs : List Int) (l : Nat) (w : World) (hx : R E1 w Aw nw cw xs) (h : R E1 w Af nf cf fs) (hl : l < nf) (hl4 : l ≤ 4000) (hw : Wt xs) (hf : ∀ i, i < nf → -1 ≤ fs.getD i (-1) ∧ fs.getD i (-1) ≤ 100000) :
    Calls Try.prog 66 #[amV Aw nw cw Af nf cf, .int .i64 l] w fun e w' => e = .returned (.int .i64 (idI (fun k => lsB fs l (xs.getD k 0)) nw)) ∧ Below w.heap.size w w' := by
  have HX := hide hx
  have HF := hide h
  have HW := hide hw
  have HFB := hide hf
  have HL := hide hx.length
  have HB1 := hide (((Below.refl w.heap.size w).alloc (Nat.le_refl _) (.cells (amC Aw nw cw Af nf cf) 52)).alloc (by simp) (.cells #[.int .i64 l] 3))
  have hk1 := (Bk.born w 52 (amC Aw nw cw Af nf cf)).more (.cells #[.int .i64 l] 3)
  have hk2 : Bk ((w.alloc (.cells (amC Aw nw cw Af nf cf) 52)).alloc (.cells #[.int .i64 l] 3)) (w.heap.size + 1) 3 #[.int .i64 l] := by
    have := Bk.born (w.alloc (.cells (amC Aw nw cw Af nf cf) 52)) 3 #[.int .i64 l]
    simpa using this
  have a0 := hk1.at_ 0
  have a1 := hk1.at_ 1
  simp at a0 a1
  have HK1 := hide hk1
  have HK2 := hide hk2
  clear hx h hw hf hk1 hk2
  go_enter Try.func66, Try.ntmps66
  go_wp2_with (go_at_call 81; refine (idxLast_any _ _ Aw nw cw xs (fun k => lsB fs l (xs.getD k 0)) _ (HX.out.below HB1.out (Nat.le_refl _)) (fun k wr hk hb => by
    have hx1 := HW.out.at_ (k := k) (by rw [HL.out]; exact hk)
    have e : xs.getD k 0 = (((xs.getD k 0).toNat : Nat) : Int) := by omega
    rw [e]
    exact last1_any Aw nw cw Af nf cf fs l (xs.getD k 0).toNat w.heap.size (w.heap.size + 1) wr ((HF.out.below HB1.out (Nat.le_refl _)).below hb (Nat.le_refl _)) hl hl4 (by omega) HFB.out (HK1.out.keep hb HK1.out.in_) (HK2.out.keep hb HK2.out.in_))).mono ?_; rintro e w1 ⟨rfl, b1⟩; have B1 := hide b1; clear b1)
  go_ret
  exact ⟨rfl, HB1.out.trans (B1.out.mono HB1.out.size)⟩
theorem ls_at {xs : List Int} (hw : Wt xs) {N l n : Nat} (hn : xs.length = n) (hl : 0 < l) (hN : l ≤ N) (hm : mu xs l = true) :
    ∃ k y : Nat, idI (fun k => lsB (few xs N) l (xs.getD k 0)) n = (k : Int) ∧ k < n ∧ xs.getD k 0 = (y : Int) ∧ 1 ≤ y ∧ y ≤ l ∧ mu xs (l - y) = true ∧ fw xs (l - y) = fw xs l - 1 := by
  have hp : ∀ k, k < n → (lsB (few xs N) l (xs.getD k 0) = true ↔ xs.getD k 0 ≤ (l : Int) ∧ fw xs ((l : Int) - xs.getD k 0).toNat = fw xs l - 1) := fun k hk => by
    have hx := hw.at_ (k := k) (by omega)
    unfold lsB
    rw [few_at xs N _ (by omega), few_at xs N l hN, Bool.and_eq_true, decide_eq_true_eq, decide_eq_true_eq]
  obtain ⟨k0, hk0, h1, h2⟩ := last_at hw hl hm
  unfold idI
  cases hf : (List.range n).find? fun k => lsB (few xs N) l (xs.getD k 0) with
  | none =>
    exfalso
    exact (List.find?_eq_none.1 hf) k0 (List.mem_range.2 (by omega)) ((hp k0 (by omega)).2 ⟨h1, h2⟩)
  | some k =>
    obtain ⟨e1, e2, _⟩ := find_least hf
    obtain ⟨p1, p2⟩ := (hp k e2).1 e1
    have hx := hw.at_ (k := k) (by omega)
    refine ⟨k, (xs.getD k 0).toNat, rfl, e2, by omega, by omega, by omega, ?_, ?_⟩
    · rw [show ((l : Int) - xs.getD k 0).toNat = l - (xs.getD k 0).toNat by omega] at p2
      exact last_mu hw hl hm p2
    · rw [show ((l : Int) - xs.getD k 0).toNat = l - (xs.getD k 0).toNat by omega] at p2
      exact p2
theorem sm_ge {cs : List Int} {n : Nat} (h : ∀ i, i < n → 0 ≤ cs.getD i 0) : ∀ k, k ≤ n → 0 ≤ smTo cs k ∧ ∀ i, i < k → cs.getD i 0 ≤ smTo cs k
  | 0, _ => ⟨by simp [smTo], fun i hi => absurd hi (Nat.not_lt_zero i)⟩
  | k + 1, hk => by
    obtain ⟨h1, h2⟩ := sm_ge h k (by omega)
    have h3 := h k (by omega)
    rw [smTo_succ]
    refine ⟨by omega, fun i hi => ?_⟩
    by_cases e : i = k
    · subst e; omega
    · have := h2 i (by omega); omega
/-- Counts with this amount, and as few as can be. -/
def FireOk (xs : List Int) (m : Int) (L : List Int) : Prop := CntOk xs L ∧ dotTo xs L xs.length = m ∧ smTo L xs.length = fw xs m.toNat
def FirePost (xs : List Int) (m : Int) (w : World) (e : Ending) (w' : World) : Prop :=
  ∃ A n c L, e = .returned (.tuple #[.slice A n c, .bool (canV xs m), .int .i64 (errA xs m)]) ∧ Own E1 w' w.heap.size 3 A n c L ∧ Below w.heap.size w w' ∧ (canV xs m = true → FireOk xs m L) ∧ (canV xs m = false → L = [])
set_option maxRecDepth 100000 in
set_option maxHeartbeats 4000000 in
theorem Fire_any (A : Option Addr) (n c : Nat) (xs : List Int) (m : Int) (w : World) (h : R E1 w A n c xs) :
    Calls Try.prog 30 #[.slice A n c, .int .i64 m] w (FirePost xs m w) := by
  have H := hide h
  have hl := h.length
  have hle := h.le
  by_cases he : errA xs m = 0
  · have HE := hide he
    have hV := (errA_ok.1 he).1
    have hC := canV_ok he
    obtain ⟨k, rfl, hk, hw⟩ := errA_am he
    rw [Int.toNat_natCast] at hC
    have HC := hide hC
    have HW := hide hw
    have HL := hide hl
    have HM := hide (gap_few (xs := xs) (n := k))
    have hn1 : 1 ≤ n := by rw [← hl]; exact hV.1
    have hn4 : n ≤ 4 := by rw [← hl]; exact hV.2.1
    clear he hV hw hC
    cases hmu : mu xs k with
    | false =>
      have HMU := hide hmu
      clear hmu hl h
      go_enter Try.func30, Try.ntmps30
      go_wp2_with (first
        | (go_at_call 60; refine (validateAmount_any _ _ _ xs _ _ H.out).mono ?_; rintro e w1 ⟨rfl, rfl⟩; rw [HE.out])
        | (go_at_call 61; refine (amountsTo_any _ _ _ xs _ _ H.out HW.out (by omega)).mono ?_; rintro e w1 ⟨Af, cf, rfl, o1, b1⟩; rw [Int.toNat_natCast] at o1; rw [Int.toNat_natCast]; have O1 := hide o1; have B1 := hide b1; clear o1 b1)
        | (go_at_call 63; refine (isGap_any _ _ _ _ _ _ (few xs k) k _ (O1.out.alloc _).row (by omega)).mono ?_; rw [HM.out, HMU.out]; rintro e w2 ⟨rfl, b2⟩; have B2 := hide b2; clear b2))
      go_ret3
      exact ⟨none, 0, 0, [], by rw [HC.out, HE.out, HMU.out]; rfl, Own.nil _ _ _ _, (B1.out.alloc B1.out.size _).trans (B2.out.mono (by have := B1.out.size; simp; omega)), fun h => (by rw [HC.out, HMU.out] at h; cases h), fun _ => rfl⟩
    | true =>
      have HMU := hide hmu
      have HFB := hide (fun i (hi : i < k + 1) => (show -1 ≤ (few xs k).getD i (-1) ∧ (few xs k).getD i (-1) ≤ 100000 from by
        rw [few_at xs k i (by omega)]
        have := fw_ge HW.out i
        omega))
      have hfwk := fw_ge HW.out k
      clear hmu hl h
      go_enter Try.func30, Try.ntmps30
      go_wp2_with (first
        | (go_at_call 60; refine (validateAmount_any _ _ _ xs _ _ H.out).mono ?_; rintro e w1 ⟨rfl, rfl⟩; rw [HE.out])
        | (go_at_call 61; refine (amountsTo_any _ _ _ xs _ _ H.out HW.out (by omega)).mono ?_; rintro e w1 ⟨Af, cf, rfl, o1, b1⟩; rw [Int.toNat_natCast] at o1; rw [Int.toNat_natCast]; have O1 := hide o1; have B1 := hide b1; clear o1 b1)
        | (go_at_call 63; refine (isGap_any _ _ _ _ _ _ (few xs k) k _ (O1.out.alloc _).row (by omega)).mono ?_; rw [HM.out, HMU.out]; rintro e w2 ⟨rfl, b2⟩; have HK2 := hide ((Bk.born w1 52 (amC A n c Af (k + 1) cf)).keep b2 (by simp)); have HO2 := hide ((O1.out.alloc (.cells (amC A n c Af (k + 1) cf) 52)).below b2 (Nat.le_refl _)).row; have B2 := hide ((B1.out.alloc B1.out.size (.cells (amC A n c Af (k + 1) cf) 52)).trans (b2.mono (by have := B1.out.size; simp; omega))); clear b2)
        | (at_make; refine wpList_mk _ rfl (.tmp 25) (.tmp 25) rfl w2.heap.size n rfl rfl (by omega) (Nat.le_refl _) ?_; intro w3 o3 b3 s3; have HO3 := hide o3; have B3 := hide b3; clear o3 b3 s3))
      have HX2 := hide (H.out.below B2.out (Nat.le_refl _))
      have hbi := HK2.out.in_
      go_loopw [10] (fun v wr => ∃ (l : Nat) (L : List Int), l ≤ k ∧ v = .int .i64 l ∧ Hid (mu xs l = true) ∧ Hid (Own E1 wr w2.heap.size 3 (some ⟨w2.heap.size, 0, none⟩) n n L) ∧ Hid (∀ i, i < n → 0 ≤ L.getD i 0) ∧ Hid (dotTo xs L n = (k : Int) - l) ∧ Hid (smTo L n = fw xs k - fw xs l) ∧ Hid (Below w2.heap.size w2 wr)) (fun v _ => (intOf v).toNat)
      case atStart => exact ⟨k, _, Nat.le_refl _, rfl, HMU, HO3, hide (fun i _ => by rw [List.getD_eq_getElem?_getD, List.getElem?_replicate]; split <;> simp), hide (by rw [dotTo_zero]; omega), hide (by rw [smTo_zero]; omega), B3⟩
      case round =>
        obtain ⟨l, L, hlk, rfl, HML, HO, HN, HD, HS, HB⟩ := hrel
        have hfl := fw_ge HW.out l
        by_cases hl0 : 0 < l
        · obtain ⟨i, y, hi1, hi2, hi3, hi4, hi5, hi6, hi7⟩ := ls_at HW.out HL.out hl0 hlk HML.out
          have HI1 := hide hi1
          have HI6 := hide hi6
          have HI7 := hide hi7
          have bk := HK2.out.keep HB.out hbi
          have b0 := bk.at_ 0
          have b1 := bk.at_ 1
          simp at b0 b1
          have HX3 := hide (HX2.out.below HB.out (Nat.le_refl _))
          have HF3 := hide (HO2.out.below HB.out (Nat.le_refl _))
          have hLL := HO.out.len
          have HSS := hide (smTo_set (cs := L) (j := i) (by rw [hLL]; exact hi2) 1 n (by rw [hLL]; exact Nat.le_refl _))
          have HDD := hide (dotTo_set (w := xs) (cs := L) (j := i) (by rw [hLL]; exact hi2) 1 n (by rw [hLL]; exact Nat.le_refl _))
          have HLE := hide hLL
          rw [hi3] at HDD
          obtain ⟨bb, oo, hr⟩ := HX2.out
          obtain rfl := hr.at_ (by omega)
          have HX5 := hide (fun (wi : World) (hb : Below w2.heap.size w2 wi) => (show wi.cell? ⟨bb, oo + i, none⟩ = some (.int .i64 (y : Int)) from by
            have h2 := c1 (hr.below hb (Nat.le_refl _)) hi2
            rwa [hi3] at h2))
          have hin : (i : Int) < (n : Int) := by omega
          have sL := sm_ge HN.out n (Nat.le_refl _)
          have hLi := sL.2 i hi2
          have hLi0 := HN.out i hi2
          have hsb := HS.out
          have hLb : L.getD i 0 ≤ 5000 := by omega
          have hgl := gtl HO.out
          have hbb := hr.lt (by omega)
          clear hi1 hi3 hi6 hi7 hLL sL hsb hLi bk hr
          generalize hLv : L.getD i 0 = Li at *
          have HLV := hide hLv
          clear hLv
          go_wp2_with (go_at_call 66; refine (last_any _ n c xs Af (k + 1) cf (few xs k) l _ HX3.out HF3.out (by omega) (by omega) HW.out HFB.out).mono ?_; rw [HI1.out]; rintro e w4 ⟨rfl, b4⟩; have o4 := HO.out.below b4 (Nat.le_refl _); have r4 := own1 o4 hi2; rw [HLV.out] at r4; have f4 := o4.frozen i; have x4 := HX5.out w4 (HB.out.trans (b4.mono HB.out.size)); have O4 := hide o4; have hg4 : w2.heap.size < w4.heap.size := Nat.lt_of_lt_of_le hgl b4.size; have B4 := hide (HB.out.trans (b4.mono HB.out.size)); clear o4 b4)
          go_roundw
          case rel => exact ⟨l - y, L.set i (Li + 1), by omega, by (congr 1; omega), HI6, hide (O4.out.stored1 hi2 (Li + 1)), hide (fun j hj => by rw [getD_set_pos (by rw [HLE.out]; exact hi2)]; by_cases e : j = i; (rw [if_pos e]; omega); (rw [if_neg e]; exact HN.out j hj)), hide (by have := HDD.out; rw [if_pos hi2] at this; have := HD.out; omega), hide (by have := HSS.out; rw [if_pos hi2] at this; have := HS.out; have := HI7.out; omega), hide (B4.out.setCell (Nat.le_refl _) _)⟩
          case measure => simp [intOf] <;> omega
        · obtain rfl : l = 0 := by omega
          have HOK := hide (show FireOk xs (k : Int) L from by
            have s1 := sm_ge HN.out n (Nat.le_refl _)
            have s2 := HS.out
            rw [fw_zero] at s2
            refine ⟨⟨by rw [HO.out.len, HL.out], fun i hi => ?_⟩, by rw [HL.out]; have := HD.out; omega, by rw [HL.out, Int.toNat_natCast]; omega⟩
            rw [HO.out.len] at hi
            have := s1.2 i hi
            have := HN.out i hi
            omega)
          go_wp2_with fail
          go_ret3
          exact ⟨_, _, _, L, by rw [HC.out, HE.out, HMU.out]; rfl, HO.out.more B2.out.size, B2.out.trans (HB.out.mono B2.out.size), fun _ => HOK.out, fun h => (by rw [HC.out, HMU.out] at h; cases h)⟩
  · have HC := hide (canV_no he)
    have hne : (errA xs m != 0) = true := by simpa using he
    clear he
    go_enter Try.func30, Try.ntmps30
    go_wp2_with (go_at_call 60; refine (validateAmount_any _ _ _ xs _ _ H.out).mono ?_; rintro e w1 ⟨rfl, rfl⟩)
    go_ret3
    exact ⟨none, 0, 0, [], by rw [HC.out]; rfl, Own.nil _ _ _ _, Below.refl _ _, fun h => (by rw [HC.out] at h; cases h), fun _ => rfl⟩
end Go.Proofs.Ytlhlcchimammlaa
