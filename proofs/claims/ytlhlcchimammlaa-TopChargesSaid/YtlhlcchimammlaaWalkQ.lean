/- The same amounts, and counterparts: the rest of both sides. -/
import Derived.Test.YtlhlcchimammlaaWalkP
import Derived.Test.YtlhlcchimammlaaWalkN
namespace Go.Proofs.Ytlhlcchimammlaa
open Go.RowKit Go.Shelf

/-- All numbers of ys are made up by xs. -/
def makB (xs ys : List Int) : Bool := ys.all fun y => mu xs y.toNat
theorem makB_any {xs ys : List Int} (hy : Wt ys) : (!(ys.any fun y => (few xs 30).getD y.toNat (-1) == -1)) = makB xs ys := by
  unfold makB
  rw [List.not_any_eq_all_not]
  rw [Bool.eq_iff_iff, List.all_eq_true, List.all_eq_true]
  have key : ∀ y ∈ ys, (!((few xs 30).getD y.toNat (-1) == -1)) = mu xs y.toNat := fun y h => by
    have := hy y h
    rw [few_at xs 30 _ (by omega), ← mu_few, few_at xs _ _ (Nat.le_refl _)]
  constructor
  · intro h y hm; rw [← key y hm]; exact h y hm
  · intro h y hm; rw [key y hm]; exact h y hm
set_option maxHeartbeats 1000000 in
theorem makesUp_any (A : Option Addr) (n c : Nat) (xs : List Int) (A' : Option Addr) (n' c' : Nat) (ys : List Int) (w : World) (h : R E1 w A n c xs) (h' : R E1 w A' n' c' ys) (hx : Wt xs) (hy : Wt ys) :
    Calls Try.prog 75 #[.slice A n c, .slice A' n' c'] w fun e w' => e = .returned (.bool (makB xs ys)) ∧ Below w.heap.size w w' := by
  have H := hide h
  have H' := hide h'
  have HX := hide hx
  have HY := hide hy
  have HL := hide h'.length
  have HM := hide (makB_any (xs := xs) hy)
  have HAN := hide (anI_list h'.length fun y => (few xs 30).getD y.toNat (-1) == -1)
  clear h h' hx hy
  go_enter Try.func75, Try.ntmps75
  go_wp2_with (first
    | (go_at_call 61; refine (amountsTo_any _ _ _ xs 30 _ H.out HX.out (by omega)).mono ?_; rintro e w1 ⟨Af, cf, rfl, o1, b1⟩; have O1 := hide o1; have B1 := hide b1; clear o1 b1)
    | (go_at_call 85; refine (hasGap_any (amV A n c Af (30 + 1) cf) A' n' c' ys (fun k => (few xs 30).getD (ys.getD k 0).toNat (-1) == -1) _ (H'.out.below B1.out (Nat.le_refl _)) (fun k wr hk hb => by
        have hy1 := HY.out.at_ (k := k) (by rw [HL.out]; exact hk)
        have e : ys.getD k 0 = (((ys.getD k 0).toNat : Nat) : Int) := by omega
        rw [e]
        exact isGap_any A n c Af (30 + 1) cf (few xs 30) (ys.getD k 0).toNat wr (O1.out.row.below hb (Nat.le_refl _)) (by omega))).mono ?_; rw [HAN.out]; rintro e w2 ⟨rfl, b2⟩; have B2 := hide b2; clear b2))
  go_ret
  exact ⟨ret_bool HM.out, B1.out.trans (B2.out.mono B1.out.size)⟩
def errT (xs ys : List Int) : Int := if errW xs = 0 then errW ys else errW xs
def samW (xs ys : List Int) : Bool := decide (errT xs ys = 0) && samV xs ys
theorem errT_no {xs ys : List Int} (h : errW xs ≠ 0) : errT xs ys = errW xs := if_neg h
theorem errT_yes {xs ys : List Int} (h : errW xs = 0) : errT xs ys = errW ys := if_pos h
theorem samW_ok {xs ys : List Int} (h : errT xs ys = 0) : samW xs ys = samV xs ys := by simp [samW, h]
theorem samW_no {xs ys : List Int} (h : errT xs ys ≠ 0) : samW xs ys = false := by simp [samW, h]
theorem samV_mak (xs ys : List Int) : samV xs ys = (makB xs ys && makB ys xs) := rfl
set_option maxHeartbeats 1000000 in
theorem Same_any (A : Option Addr) (n c : Nat) (xs : List Int) (A' : Option Addr) (n' c' : Nat) (ys : List Int) (w : World) (h : R E1 w A n c xs) (h' : R E1 w A' n' c' ys) :
    Calls Try.prog 50 #[.slice A n c, .slice A' n' c'] w fun e w' => e = .returned (.tuple #[.bool (samW xs ys), .int .i64 (errT xs ys)]) ∧ Below w.heap.size w w' := by
  have H := hide h
  have H' := hide h'
  clear h h'
  by_cases he : errW xs = 0
  · have HE := hide he
    by_cases hf : errW ys = 0
    · have HF := hide hf
      have HX := hide (errW_vw.1 he).wt
      have HY := hide (errW_vw.1 hf).wt
      have HT := hide ((errT_yes he).trans hf)
      have HS := hide (samW_ok ((errT_yes he).trans hf))
      have HSM := hide (samV_mak xs ys)
      clear he hf
      have tok : True := trivial
      cases hm : makB xs ys with
      | true =>
        have HM := hide hm
        clear hm
        go_enter Try.func50, Try.ntmps50
        go_wp2_with (first
          | (go_at_call_of 25 (Value.slice A n c); refine (Validate_any A n c xs _ H.out).mono ?_; rintro e w' ⟨rfl, rfl⟩; rw [HE.out])
          | (go_at_call_of 25 (Value.slice A' n' c'); refine (Validate_any A' n' c' ys _ H'.out).mono ?_; rintro e w' ⟨rfl, rfl⟩; rw [HF.out])
          | (go_at_call 75; have _t := tok; refine (makesUp_any A n c xs A' n' c' ys _ H.out H'.out HX.out HY.out).mono ?_; rw [HM.out]; rintro e w1 ⟨rfl, b1⟩; have B1 := hide b1; clear b1 tok)
          | (go_at_call 75; refine (makesUp_any A' n' c' ys A n c xs _ (H'.out.below B1.out (Nat.le_refl _)) (H.out.below B1.out (Nat.le_refl _)) HY.out HX.out).mono ?_; rintro e w2 ⟨rfl, b2⟩; have B2 := hide (B1.out.trans (b2.mono B1.out.size)); clear b2))
        go_ret2
        exact ⟨by rw [HS.out, HSM.out, HM.out, HT.out]; simp, B2.out⟩
      | false =>
        have HM := hide hm
        clear hm
        go_enter Try.func50, Try.ntmps50
        go_wp2_with (first
          | (go_at_call_of 25 (Value.slice A n c); refine (Validate_any A n c xs _ H.out).mono ?_; rintro e w' ⟨rfl, rfl⟩; rw [HE.out])
          | (go_at_call_of 25 (Value.slice A' n' c'); refine (Validate_any A' n' c' ys _ H'.out).mono ?_; rintro e w' ⟨rfl, rfl⟩; rw [HF.out])
          | (go_at_call 75; have _t := tok; refine (makesUp_any A n c xs A' n' c' ys _ H.out H'.out HX.out HY.out).mono ?_; rw [HM.out]; rintro e w1 ⟨rfl, b1⟩; have B1 := hide b1; clear b1 tok))
        go_ret2
        exact ⟨by rw [HS.out, HSM.out, HM.out, HT.out]; simp, B1.out⟩
    · have HT := hide (errT_yes (ys := ys) he)
      have HS := hide (samW_no (xs := xs) (ys := ys) (by rw [errT_yes he]; exact hf))
      have hne : (errW ys != 0) = true := by simpa using hf
      clear he hf
      go_enter Try.func50, Try.ntmps50
      go_wp2_with (first
        | (go_at_call_of 25 (Value.slice A n c); refine (Validate_any A n c xs _ H.out).mono ?_; rintro e w' ⟨rfl, rfl⟩; rw [HE.out])
        | (go_at_call_of 25 (Value.slice A' n' c'); refine (Validate_any A' n' c' ys _ H'.out).mono ?_; rintro e w' ⟨rfl, rfl⟩))
      go_ret2
      exact ⟨by rw [HT.out, HS.out]; rfl, Below.refl _ _⟩
  · have HT := hide (errT_no (ys := ys) he)
    have HS := hide (samW_no (xs := xs) (ys := ys) (by rw [errT_no he]; exact he))
    have hne : (errW xs != 0) = true := by simpa using he
    clear he
    go_enter Try.func50, Try.ntmps50
    go_wp2_with (go_at_call_of 25 (Value.slice A n c); refine (Validate_any A n c xs _ H.out).mono ?_; rintro e w' ⟨rfl, rfl⟩)
    go_ret2
    exact ⟨by rw [HT.out, HS.out]; rfl, Below.refl _ _⟩
set_option maxRecDepth 100000 in
set_option maxHeartbeats 4000000 in
theorem made_any (A : Option Addr) (n c : Nat) (xs : List Int) (A' : Option Addr) (n' c' : Nat) (ys : List Int) (w : World) (h : R E1 w A n c xs) (h' : R E1 w A' n' c' ys) (hx : Wt xs) (hy : Wt ys) :
    Calls Try.prog 76 #[.slice A n c, .slice A' n' c'] w fun e w' => e = .returned (.bool (makB ys xs)) ∧ Below w.heap.size w w' := by
  have H' := hide h'
  have HX := hide hx
  have HY := hide hy
  have HL := hide h.length
  have hle := h.le
  have HRR := hide h
  clear h h' hx hy
  go_enter Try.func76, Try.ntmps76
  go_wp2_with fail
  go_loopw [5] (fun i wr => ∃ k : Nat, k ≤ n ∧ i = .int .i64 k ∧ Hid (∀ j, j < k → mu ys (xs.getD j 0).toNat = true) ∧ Hid (Below w.heap.size w wr)) (fun i _ => n - (intOf i).toNat)
  case atStart => exact ⟨0, Nat.zero_le _, rfl, hide (fun j hj => absurd hj (Nat.not_lt_zero j)), hide (Below.refl _ _)⟩
  case round =>
    obtain ⟨k, hk, rfl, HS, HB⟩ := hrel
    by_cases hlt : k < n
    · have hx := HX.out.at_ (k := k) (by rw [HL.out]; exact hlt)
      obtain ⟨b, off, hr⟩ := HRR.out
      obtain rfl := hr.at_ (by omega)
      have hbl := hr.lt (by omega)
      have HC := hide (fun (wi : World) (hb : Below w.heap.size w wi) => (show wi.cell? ⟨b, off + k, none⟩ = some (.int .i64 (xs.getD k 0)) from c1 (hr.under hb fun _ => hbl) hlt))
      clear hr
      have HF := hide (fun (h : mu ys (xs.getD k 0).toNat = false) => (show makB ys xs = false from by
        unfold makB
        rw [List.all_eq_false]
        refine ⟨xs.getD k 0, ?_, by rw [h]; simp⟩
        rw [List.getD_eq_getElem?_getD, List.getElem?_eq_getElem (by rw [HL.out]; exact hlt)]
        exact List.getElem_mem _))
      have HN := hide (fun (h : mu ys (xs.getD k 0).toNat = true) j (hj : j < k + 1) => (show mu ys (xs.getD j 0).toNat = true from by
        by_cases e : j = k
        · subst e; exact h
        · exact HS.out j (by omega)))
      generalize xs.getD k 0 = x at *
      obtain ⟨y, rfl⟩ : ∃ y : Nat, x = (y : Int) := ⟨x.toNat, by omega⟩
      have HFB := hide (fw_ge HY.out y)
      have HFA := hide (few_at ys y y (Nat.le_refl _))
      have HFL := hide (few_len ys y)
      have HMU := hide (show mu ys y = decide (fw ys y ≠ -1) from rfl)
      have HF' : Hid (mu ys y = false → makB ys xs = false) := hide (fun h => HF.out h)
      have HN' : Hid (mu ys y = true → ∀ j, j < k + 1 → mu ys (xs.getD j 0).toNat = true) := hide (fun h => HN.out h)
      clear HF HN
      have hsz := HB.out.size
      have a1 := HC.out wr.drew HB.out.drew
      have hkn : (k : Int) < (n : Int) := by omega
      go_wp2_with fail
      go_region_with (go_at_call 65; refine (few_any A' n' c' ys y _ (H'.out.below HB.out.drew (Nat.le_refl _)) HY.out (by omega)).mono ?_; rintro e w2 ⟨Af, nf, cf, rfl, o2, b2⟩; obtain rfl : nf = y + 1 := (by rw [← o2.len, HFL.out]); obtain ⟨g2, rfl, hg1, hg2, hg3, hg4⟩ := o2.addr (by omega); have hg5 : cf ≤ 9223372036854775807 := hg4; clear hg4 hg1; have r1 := own1 o2 (k := y) (by omega); have HGD := hide (getD_any (l := few ys y) (k := y) (by rw [HFL.out]; omega) 0 (-1)); rw [HGD.out, HFA.out] at r1; have B2 := hide (HB.out.drew.trans (b2.mono hsz)); have a2 := HC.out w2 B2.out; clear o2 b2)
      all_goals
        have hvb := HFB.out
        clear a1 a2 r1
        generalize fw ys y = v at *
        by_cases hvn : v < 0
        · have HP := hide (show mu ys y = false from by rw [HMU.out]; simp; omega)
          go_wp2_with fail
          go_ret
          exact ⟨ret_bool (HF'.out HP.out).symm, B2.out⟩
        · have HP := hide (show mu ys y = true from by rw [HMU.out]; simp; omega)
          go_wp2_with fail
          go_roundw
          case rel => exact ⟨k + 1, by omega, by go_num, hide (HN'.out HP.out), B2⟩
          case measure => simp [intOf]; omega
    · have HE := hide (show makB ys xs = true from by
        unfold makB
        rw [List.all_eq_true]
        intro x hx
        obtain ⟨j, hj, e⟩ := List.getElem_of_mem hx
        have := HS.out j (by rw [HL.out] at hj; omega)
        rw [List.getD_eq_getElem?_getD, List.getElem?_eq_getElem hj, Option.getD_some, e] at this
        exact this)
      go_wp2_with fail
      go_ret
      exact ⟨ret_bool HE.out.symm, HB.out⟩
set_option maxHeartbeats 1000000 in
theorem rSame_any (A : Option Addr) (n c : Nat) (xs : List Int) (A' : Option Addr) (n' c' : Nat) (ys : List Int) (w : World) (h : R E1 w A n c xs) (h' : R E1 w A' n' c' ys) :
    Calls Try.prog 51 #[.slice A n c, .slice A' n' c'] w fun e w' => e = .returned (.tuple #[.bool (samW xs ys), .int .i64 (errT xs ys)]) ∧ Below w.heap.size w w' := by
  have H := hide h
  have H' := hide h'
  clear h h'
  by_cases he : errW xs = 0
  · have HE := hide he
    by_cases hf : errW ys = 0
    · have HF := hide hf
      have HX := hide (errW_vw.1 he).wt
      have HY := hide (errW_vw.1 hf).wt
      have HT := hide ((errT_yes he).trans hf)
      have HS := hide (samW_ok ((errT_yes he).trans hf))
      have HSM := hide (samV_mak xs ys)
      clear he hf
      have tok : True := trivial
      cases hm : makB ys xs with
      | true =>
        have HM := hide hm
        clear hm
        go_enter Try.func51, Try.ntmps51
        go_wp2_with (first
          | (go_at_call_of 26 (Value.slice A n c); refine (rValidate_any A n c xs _ H.out).mono ?_; rintro e w1 ⟨rfl, q1, hw1⟩; rw [HE.out]; have B1 := hide (show Below w.heap.size w w1 from by rw [hw1]; exact below_drewN (Below.refl _ _) q1); clear hw1)
          | (go_at_call_of 26 (Value.slice A' n' c'); refine (rValidate_any A' n' c' ys _ (H'.out.below B1.out (Nat.le_refl _))).mono ?_; rintro e w2 ⟨rfl, q2, hw2⟩; rw [HF.out]; have B2 := hide (show Below w.heap.size w w2 from by rw [hw2]; exact B1.out.trans (below_drewN (Below.refl _ _) q2)); clear hw2)
          | (go_at_call_of 76 (Value.slice A n c); have _t := tok; refine (made_any A n c xs A' n' c' ys _ (H.out.below B2.out (Nat.le_refl _)) (H'.out.below B2.out (Nat.le_refl _)) HX.out HY.out).mono ?_; rw [HM.out]; rintro e w3 ⟨rfl, b3⟩; have B3 := hide (B2.out.trans (b3.mono B2.out.size)); clear b3 tok)
          | (go_at_call 76; refine (made_any A' n' c' ys A n c xs _ (H'.out.below B3.out (Nat.le_refl _)) (H.out.below B3.out (Nat.le_refl _)) HY.out HX.out).mono ?_; rintro e w4 ⟨rfl, b4⟩; have B4 := hide (B3.out.trans (b4.mono B3.out.size)); clear b4))
        go_ret2
        exact ⟨by rw [HS.out, HSM.out, HM.out, HT.out]; simp, B4.out⟩
      | false =>
        have HM := hide hm
        clear hm
        go_enter Try.func51, Try.ntmps51
        go_wp2_with (first
          | (go_at_call_of 26 (Value.slice A n c); refine (rValidate_any A n c xs _ H.out).mono ?_; rintro e w1 ⟨rfl, q1, hw1⟩; rw [HE.out]; have B1 := hide (show Below w.heap.size w w1 from by rw [hw1]; exact below_drewN (Below.refl _ _) q1); clear hw1)
          | (go_at_call_of 26 (Value.slice A' n' c'); refine (rValidate_any A' n' c' ys _ (H'.out.below B1.out (Nat.le_refl _))).mono ?_; rintro e w2 ⟨rfl, q2, hw2⟩; rw [HF.out]; have B2 := hide (show Below w.heap.size w w2 from by rw [hw2]; exact B1.out.trans (below_drewN (Below.refl _ _) q2)); clear hw2)
          | (go_at_call_of 76 (Value.slice A n c); have _t := tok; refine (made_any A n c xs A' n' c' ys _ (H.out.below B2.out (Nat.le_refl _)) (H'.out.below B2.out (Nat.le_refl _)) HX.out HY.out).mono ?_; rw [HM.out]; rintro e w3 ⟨rfl, b3⟩; have B3 := hide (B2.out.trans (b3.mono B2.out.size)); clear b3 tok))
        go_ret2
        exact ⟨by rw [HS.out, HSM.out, HM.out, HT.out]; simp, B3.out⟩
    · have HT := hide (errT_yes (ys := ys) he)
      have HS := hide (samW_no (xs := xs) (ys := ys) (by rw [errT_yes he]; exact hf))
      have hne : (errW ys != 0) = true := by simpa using hf
      clear he hf
      go_enter Try.func51, Try.ntmps51
      go_wp2_with (first
        | (go_at_call_of 26 (Value.slice A n c); refine (rValidate_any A n c xs _ H.out).mono ?_; rintro e w1 ⟨rfl, q1, hw1⟩; rw [HE.out]; have B1 := hide (show Below w.heap.size w w1 from by rw [hw1]; exact below_drewN (Below.refl _ _) q1); clear hw1)
        | (go_at_call_of 26 (Value.slice A' n' c'); refine (rValidate_any A' n' c' ys _ (H'.out.below B1.out (Nat.le_refl _))).mono ?_; rintro e w2 ⟨rfl, q2, hw2⟩; have B2 := hide (show Below w.heap.size w w2 from by rw [hw2]; exact B1.out.trans (below_drewN (Below.refl _ _) q2)); clear hw2))
      go_ret2
      exact ⟨by rw [HT.out, HS.out]; rfl, B2.out⟩
  · have HT := hide (errT_no (ys := ys) he)
    have HS := hide (samW_no (xs := xs) (ys := ys) (by rw [errT_no he]; exact he))
    have hne : (errW xs != 0) = true := by simpa using he
    clear he
    go_enter Try.func51, Try.ntmps51
    go_wp2_with (go_at_call_of 26 (Value.slice A n c); refine (rValidate_any A n c xs _ H.out).mono ?_; rintro e w1 ⟨rfl, q1, hw1⟩; have B1 := hide (show Below w.heap.size w w1 from by rw [hw1]; exact below_drewN (Below.refl _ _) q1); clear hw1)
    go_ret2
    exact ⟨by rw [HT.out, HS.out]; rfl, B1.out⟩
set_option maxRecDepth 100000 in
set_option maxHeartbeats 4000000 in
theorem rIsEven_any (A : Option Addr) (n c : Nat) (xs : List Int) (w : World) (h : R E1 w A n c xs) :
    Calls Try.prog 45 #[.slice A n c] w fun e w' => e = .returned (.tuple #[.bool (eveV xs), .int .i64 (errG xs)]) ∧ Below w.heap.size w w' := by
  have H := hide h
  clear h
  by_cases he : errG xs = 0
  · have HE := hide he
    have hT := topV_rng xs
    have HEV := hide (eveV_ok he)
    have HNEG := hide (evB_neg xs)
    have HNO := hide (fun (t k : Nat) => evB_no (xs := xs) (t := t) (k := k))
    have HYES := hide (fun (t : Nat) => evB_yes (xs := xs) (t := t))
    have HGL := hide (gapV_len xs)
    have HTA := hide (fun (n : Nat) (h : (gapV xs).length = n) (hn : 1 ≤ n) => topV_at h hn)
    have HV := hide (gapsV_ok he)
    have HGA := hide (fun k : Nat => (show hasB (gapV xs) (k : Int) = !mu xs k from gap_any (errG_ok.1 he).1 (errG_ok.1 he).2 k))
    clear he
    by_cases h0 : gapV xs = []
    · have HN := hide h0
      have HT := hide (topV_nil h0)
      clear h0
      go_enter Try.func45, Try.ntmps45
      go_wp2_with (go_at_call 38; refine (rGaps_any _ _ _ xs _ H.out).mono ?_; rw [HE.out, HV.out]; rintro e w1 ⟨A1, n1, c1', rfl, o1, b1⟩; obtain rfl : n1 = 0 := (by rw [← o1.len, HN.out]; rfl); have B1 := hide b1; clear o1 b1)
      go_ret2
      exact ⟨by rw [HE.out, HEV.out, HT.out, HNEG.out]; rfl, B1.out⟩
    · have hTn : topV xs ∈ gapV xs := by
        rcases top_cases xs with ⟨h, _⟩ | h
        · exact absurd h h0
        · exact h
      have hT0 := (gap_rng hTn).1
      have HN := hide (List.length_pos_iff.2 h0)
      clear h0 hTn
      obtain ⟨t, ht⟩ : ∃ t : Nat, topV xs = (t : Int) := ⟨(topV xs).toNat, by omega⟩
      rw [ht] at hT HEV HTA
      clear hT0 ht
      go_enter Try.func45, Try.ntmps45
      go_wp2_with (go_at_call 38; refine (rGaps_any _ _ _ xs _ H.out).mono ?_; rw [HE.out, HV.out]; rintro e w1 ⟨A1, n1, c1', rfl, o1, b1⟩; have hn1 : 1 ≤ n1 := (by rw [← o1.len]; exact HN.out); have hn2 : n1 ≤ 901 := (by rw [← o1.len]; exact HGL.out); have O1 := hide o1.row; obtain ⟨g1, rfl, hg1, hg2, hg3, hg4⟩ := o1.addr hn1; have hg5 : c1' ≤ 9223372036854775807 := hg4; clear hg4; have r1 := own1 o1 (k := n1 - 1) (by omega); rw [HTA.out n1 o1.len hn1] at r1; have hsub : ((n1 : Int) - 1) = ((n1 - 1 : Nat) : Int) := (by omega); have hne : ((n1 : Int) == 0) = false := (by simp; omega); have hz : ¬ n1 = 0 := (by omega); have B1 := hide b1; clear o1 b1)
      go_loop [7] (fun i => ∃ k : Nat, k ≤ t + 1 ∧ i = .int .i64 k ∧ Hid (∀ j, j < k → mu xs j ≠ mu xs (t - j))) (fun i => t + 1 - (intOf i).toNat)
      case atStart => exact ⟨0, Nat.zero_le _, rfl, hide (fun j hj => absurd hj (Nat.not_lt_zero j))⟩
      case round =>
        obtain ⟨k, hk, rfl, HS⟩ := hrel
        by_cases hlt : k ≤ t
        · have H1 := hide (HGA.out k)
          have H2 := hide (HGA.out (t - k))
          have HNK := hide (HNO.out t k hlt)
          have HSK := hide (fun (h : mu xs k ≠ mu xs (t - k)) j (hj : j < k + 1) => (show mu xs j ≠ mu xs (t - j) from by
            by_cases e : j = k
            · subst e; exact h
            · exact HS.out j (by omega)))
          have hdz : ((t : Int) - (k : Int)) = ((t - k : Nat) : Int) := by omega
          generalize mu xs k = p at *
          generalize mu xs (t - k) = q at *
          cases p <;> cases q
          all_goals
            go_wp2_with (first
              | (go_at_call_of 41 (Value.int .i64 (k : Nat)); refine (Has_any _ n1 c1' (gapV xs) (k : Int) _ O1.out).mono ?_; rw [H1.out]; rintro e w' ⟨rfl, rfl⟩)
              | (go_at_call_of 41 (Value.int .i64 (t - k : Nat)); refine (Has_any _ n1 c1' (gapV xs) ((t - k : Nat) : Int) _ O1.out).mono ?_; rw [H2.out]; rintro e w' ⟨rfl, rfl⟩))
            all_goals first
              | (go_ret2; exact ⟨by rw [HE.out, HEV.out, HNK.out (by first | rfl | trivial)]; rfl, B1.out⟩)
              | (go_round
                 case rel => exact ⟨k + 1, by omega, by go_num, hide (HSK.out (by decide))⟩
                 case measure => simp [intOf]; omega)
        · obtain rfl : k = t + 1 := by omega
          have HY := hide (HYES.out t HS.out)
          go_wp2_with fail
          go_ret2
          exact ⟨by rw [HE.out, HEV.out, HY.out]; rfl, B1.out⟩
  · have HG := hide (eveV_no he)
    have hne : (errG xs != 0) = true := by simpa using he
    clear he
    go_enter Try.func45, Try.ntmps45
    go_wp2_with (go_at_call 38; refine (rGaps_any _ _ _ xs _ H.out).mono ?_; rintro e w1 ⟨A1, n1, c1', rfl, o1, b1⟩; have hm1 := o1.row.le; have B1 := hide b1; clear o1 b1)
    go_ret2
    exact ⟨by rw [HG.out]; rfl, B1.out⟩
end Go.Proofs.Ytlhlcchimammlaa
