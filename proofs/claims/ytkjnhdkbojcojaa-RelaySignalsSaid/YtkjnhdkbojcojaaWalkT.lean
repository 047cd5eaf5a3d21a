/- Walks: the box with other signals, on both sides. -/
import Derived.Test.YtkjnhdkbojcojaaWalkS
namespace Go.Proofs.Ytkjnhdkbojcojaa
open Go.RowKit Go.Shelf
attribute [local go_sem] Oper.semAt_some

def sgs (ts : List Int) (x : Int) : Int := ts.getD x.toNat 0
def sigM (b : Bx) (ts : List Int) : Bx := (b.1, b.2.map (sgs ts))
def sigTo (b : Bx) (ts : List Int) (k : Nat) : List Int := (List.range b.2.length).map fun i => if i < k then sgs ts (b.2.getD i 0) else b.2.getD i 0
theorem sigTo_len (b : Bx) (ts : List Int) (k : Nat) : (sigTo b ts k).length = b.2.length := by simp [sigTo]
theorem sigTo_zero (b : Bx) (ts : List Int) : sigTo b ts 0 = b.2 := by
  apply List.ext_getElem (sigTo_len b ts 0)
  intro i h1 h2
  simp [sigTo, h2]
theorem sigTo_all (b : Bx) (ts : List Int) : sigTo b ts b.2.length = (sigM b ts).2 := by
  apply List.ext_getElem (by simp [sigTo, sigM])
  intro i h1 h2
  have h3 : i < b.2.length := by simpa [sigTo] using h1
  simp [sigTo, sigM, h3]
theorem sigTo_get {b : Bx} {ts : List Int} {k : Nat} (h : k < b.2.length) : (sigTo b ts k).getD k 0 = b.2.getD k 0 := by
  rw [List.getD_eq_getElem?_getD]
  simp [sigTo, h]
theorem sigTo_set {b : Bx} {ts : List Int} {k : Nat} (h : k < b.2.length) : (sigTo b ts k).set k (sgs ts (b.2.getD k 0)) = sigTo b ts (k + 1) := by
  apply List.ext_getElem (by simp [sigTo])
  intro i h1 h2
  have h3 : i < b.2.length := by simpa [sigTo] using h2
  rw [List.getElem_set]
  by_cases e : k = i
  · subst e
    simp [sigTo, h3]
  · rw [if_neg e]
    have e2 : (i < k + 1) ↔ (i < k) := by omega
    simp [sigTo, h3, e2]
def errG (b : Bx) (ts : List Int) : Int := if errX b ≠ 0 then errX b else if ts.length = 4 ∧ ∀ i, i < ts.length → sigB (ts.getD i 0) = true then 0 else 1
def sigF (b : Bx) (ts : List Int) : Bx := if errG b ts = 0 then sigM b ts else ([], [])
theorem sigF_ok {b : Bx} {ts : List Int} (h : errG b ts = 0) : sigF b ts = sigM b ts := if_pos h
theorem sigF_no {b : Bx} {ts : List Int} (h : ¬ errG b ts = 0) : sigF b ts = ([], []) := if_neg h
theorem errG_bad {b : Bx} (h : ¬ errX b = 0) (ts : List Int) : errG b ts = errX b := if_pos h
theorem errG_len {b : Bx} (h : errX b = 0) {ts : List Int} (hl : ¬ ts.length = 4) : errG b ts = 1 := by rw [errG, if_neg (by simp [h]), if_neg (fun k => hl k.1)]
theorem errG_arg {b : Bx} (h : errX b = 0) {ts : List Int} {k : Nat} (hk : k < 4) (hs : sigB (ts.getD k 0) = false) : errG b ts = 1 := by
  rw [errG, if_neg (by simp [h]), if_neg]
  intro hh
  have := hh.2 k (by rw [hh.1]; exact hk)
  rw [hs] at this; cases this
theorem errG_fine {b : Bx} (h : errX b = 0) {ts : List Int} (hl : ts.length = 4) (hs : ∀ i, i < 4 → sigB (ts.getD i 0) = true) : errG b ts = 0 := by rw [errG, if_neg (by simp [h]), if_pos ⟨hl, fun i hi => hs i (by rw [← hl]; exact hi)⟩]
theorem errG_ok {b : Bx} {ts : List Int} (h : errG b ts = 0) : Okx b ∧ ts.length = 4 ∧ ∀ i, i < 4 → sigB (ts.getD i 0) = true := by
  unfold errG at h
  by_cases h1 : errX b = 0
  · rw [if_neg (by simp [h1])] at h
    by_cases h2 : ts.length = 4 ∧ ∀ i, i < ts.length → sigB (ts.getD i 0) = true
    · exact ⟨okx_of h1, h2.1, fun i hi => h2.2 i (by rw [h2.1]; exact hi)⟩
    · rw [if_neg h2] at h; omega
  · rw [if_pos h1] at h; exact absurd h h1
set_option maxRecDepth 100000 in
set_option maxHeartbeats 8000000 in
theorem Signals_any (A : Option Addr) (n c : Nat) (A' : Option Addr) (n' c' : Nat) (b : Bx) (T : Option Addr) (m d : Nat) (ts : List Int) (w : World) (h : BxR w A n c A' n' c' b) (ht : R E1 w T m d ts) :
    Calls Try.prog 56 #[bV A n c A' n' c', .slice T m d] w (BoxPost (errG b ts) (sigF b ts) w) := by
  have HB0 := hide (show Below w.heap.size w ((w.alloc (.cells #[.slice A n c, .slice A' n' c'] 25)).alloc (.cells #[.slice none 0 0, .slice none 0 0] 25)) from le_two (le_two (Below.refl _ _) _) _)
  have HK1 := hide ((Bk.born w 25 #[.slice A n c, .slice A' n' c']).more (.cells #[.slice none 0 0, .slice none 0 0] 25))
  have HK2 := hide (Bk.born (w.alloc (.cells #[.slice A n c, .slice A' n' c'] 25)) 25 #[.slice none 0 0, .slice none 0 0])
  rw [show (w.alloc (.cells #[.slice A n c, .slice A' n' c'] 25)).heap.size = w.heap.size + 1 from by simp] at HK2
  have HR := hide (h.below HB0.out (Nat.le_refl _))
  have HTR := hide (ht.below HB0.out (Nat.le_refl _))
  have HNL := hide h.nx.length
  have HOL := hide h.ou.length
  have HTL := hide ht.length
  have hle := ht.le
  clear h ht
  by_cases he : errX b = 0
  · have hee : (errX b != 0) = false := by simp [he]
    have HE := hide he
    have hok := okx_of he
    have hn6 : n ≤ 6 := by rw [← HNL.out, hok.len]; exact hok.n6
    have hn6' : n' ≤ 6 := by rw [← HOL.out]; exact hok.n6
    have HOK := hide hok
    clear he hok
    by_cases hm : ¬ m = 4
    · have HG := hide (errG_len HE.out (ts := ts) (by rw [HTL.out]; exact hm))
      have hm4 : ((m : Int) != 4) = true := by rw [bne_iff_ne]; omega
      clear hm
      go_enter Try.func56, Try.ntmps56
      go_wp2_with (go_at_call 25; refine (Validate_any _ _ _ _ _ _ b _ HR.out).mono ?_; rintro e w1 ⟨rfl, b1⟩; have HK2r := hide (HK2.out.keep b1 HK2.out.in_); have hk2 := bk_two HK2r.out; have hf0 := HK2r.out.fr 0; have hf1 := HK2r.out.fr 1; have HS1 := hide (le_call HB0.out b1); clear b1)
      have HF := hide ((HK2r.out.put 0 (.slice none 0 0)).put 1 (.slice none 0 0))
      have hf := bk_two HF.out
      rw [sigF_no (by rw [HG.out]; decide), HG.out]
      refine bodyPost_ret (v := .tuple #[bV none 0 0 none 0 0, .int .i64 1]) (by simp [results, Try.results56, go_sem, hf]) rfl ⟨none, 0, 0, none, 0, 0, rfl, OwnBox.nil _ _, Below.setCell (Below.setCell HS1.out (by simp) _) (by simp) _⟩
    have hm : m = 4 := Decidable.of_not_not hm
    subst hm
    go_enter Try.func56, Try.ntmps56
    go_wp2_with (go_at_call 25; refine (Validate_any _ _ _ _ _ _ b _ HR.out).mono ?_; rintro e w1 ⟨rfl, b1⟩; have B1 := hide b1; clear b1)
    have HS1 := hide (le_call HB0.out B1.out)
    have HK2r := hide (HK2.out.keep B1.out HK2.out.in_)
    have HK1r := hide (HK1.out.keep B1.out HK1.out.in_)
    have HR1 := hide (HR.out.below B1.out (Nat.le_refl _))
    obtain ⟨bt, ot, hrt⟩ := HTR.out.below B1.out (Nat.le_refl _)
    obtain rfl := hrt.at_ (by omega)
    have HRT := hide hrt
    clear hrt
    go_loop [24] (fun i => ∃ k : Nat, k ≤ 4 ∧ i = .int .i64 k ∧ Hid (∀ i, i < k → sigB (ts.getD i 0) = true)) (fun i => 4 - (intOf i).toNat)
    case atStart => exact ⟨0, by omega, rfl, hide (by omega)⟩
    case round =>
      obtain ⟨k, hk, rfl, HJ⟩ := hrel
      by_cases hlt : k < 4
      · have hct := c1 HRT.out hlt
        have i1 : (k : Int) < 4 := by omega
        have HA := hide (errG_arg (b := b) (ts := ts) HE.out hlt)
        have HN := hide (fun (hy : sigB (ts.getD k 0) = true) => (show ∀ i, i < k + 1 → sigB (ts.getD i 0) = true from fun i hi => by
          by_cases e : i = k
          · subst e; exact hy
          · exact HJ.out i (by omega)))
        generalize ts.getD k 0 = y at *
        cases hy : sigB y with
        | false =>
          have HG := hide (HA.out hy)
          have HY := hide hy
          have hk2 := bk_two HK2r.out
          have hf0 := HK2r.out.fr 0
          have hf1 := HK2r.out.fr 1
          clear hy
          go_wp2_with (go_at_call 65; refine (isSignal_any y _).mono ?_; rintro e w5 ⟨rfl, rfl⟩; rw [HY.out])
          have HF := hide ((HK2r.out.put 0 (.slice none 0 0)).put 1 (.slice none 0 0))
          have hf := bk_two HF.out
          rw [sigF_no (by rw [HG.out]; decide), HG.out]
          refine bodyPost_ret (v := .tuple #[bV none 0 0 none 0 0, .int .i64 1]) (by simp [results, Try.results56, go_sem, hf]) rfl ⟨none, 0, 0, none, 0, 0, rfl, OwnBox.nil _ _, Below.setCell (Below.setCell HS1.out (by simp) _) (by simp) _⟩
        | true =>
          have HNN := hide (HN.out hy)
          have HY := hide hy
          clear hy
          go_wp2_with (go_at_call 65; refine (isSignal_any y _).mono ?_; rintro e w5 ⟨rfl, rfl⟩; rw [HY.out])
          go_round
          case rel => exact ⟨k + 1, by omega, by go_num, HNN⟩
          case measure => simp [intOf]; omega
      · obtain rfl : k = 4 := by omega
        have HG := hide (errG_fine (b := b) (ts := ts) HE.out HTL.out HJ.out)
        have hcb := bk_two HK1r.out
        go_wp2_with (go_at_call 92; refine (copyOf_any _ n _ _ n' _ b _ HR1.out (by omega) (by omega)).mono ?_; rintro e w3 ⟨A1, c1, A2, c2, rfl, o3, b3⟩; have O3 := hide o3; have B3 := hide b3; clear o3 b3)
        have HP0 := hide (Bk.born w3 25 #[.slice A1 n c1, .slice A2 n' c2])
        have HO0 := hide (O3.out.below (le_two (Below.refl _ _) (.cells #[.slice A1 n c1, .slice A2 n' c2] 25)) (Nat.le_refl _))
        have HL0 := hide (show Below w1.heap.size w1 (w3.alloc (.cells #[.slice A1 n c1, .slice A2 n' c2] 25)) from le_two B3.out _)
        generalize w3.alloc (.cells #[.slice A1 n c1, .slice A2 n' c2] 25) = W4 at *
        clear hcb
        go_loopw [38] (fun i wr => ∃ k : Nat, k ≤ n' ∧ i = .int .i64 k ∧ Hid (Own EN wr w1.heap.size 59 A1 n c1 b.1) ∧ Hid (Own E1 wr w1.heap.size 3 A2 n' c2 (sigTo b ts k)) ∧ Hid (Bk wr w3.heap.size 25 #[.slice A1 n c1, .slice A2 n' c2]) ∧ Hid (Below w1.heap.size w1 wr)) (fun i _ => n' - (intOf i).toNat)
        case atStart => exact ⟨0, Nat.zero_le _, rfl, hide HO0.out.1, hide (by rw [sigTo_zero]; exact HO0.out.2), HP0, HL0⟩
        case round =>
          obtain ⟨k, hk, rfl, HN, HI, HP, HL⟩ := hrel
          have hcp := bk_two HP.out
          by_cases hlt : k < n'
          · obtain ⟨g1, rfl, hg1, _⟩ := HI.out.addr (by omega)
            have hgl : g1 < w3.heap.size := by
              rcases O3.out.2.form with ⟨hh, _⟩ | ⟨g', hA, _, hlt', _⟩
              · cases hh
              · injection hA with hA; injection hA with hA; omega
            have HGL := hide hgl
            have HG1 := hide hg1
            have hci := own1 HI.out hlt
            have hf := HI.out.frozen k
            have HTG := hide (sigTo_get (b := b) (ts := ts) (k := k) (by rw [HOL.out]; exact hlt))
            have HTS := hide (sigTo_set (b := b) (ts := ts) (k := k) (by rw [HOL.out]; exact hlt))
            rw [HTG.out] at hci
            have hs := HOK.out.ou k (by rw [HOL.out]; exact hlt)
            obtain ⟨q, hq⟩ : ∃ q : Nat, b.2.getD k 0 = (q : Int) := ⟨(b.2.getD k 0).toNat, by rw [sigB_iff] at hs; omega⟩
            have hq4 : q < 4 := by rw [hq, sigB_iff] at hs; omega
            rw [hq] at hci HTS
            have hct := Go.Proofs.Ytkjnhdkbojcojaa.c1 (HRT.out.below HL.out (Nat.le_refl _)) hq4
            have HSV := hide (show sgs ts (q : Int) = ts.getD q 0 from rfl)
            rw [HSV.out] at HTS
            have HST := hide (fun x => (HI.out.stored1 hlt x).drew)
            have i1 : (k : Int) < (n' : Int) := by omega
            have i4 : (q : Int) < 4 := by omega
            generalize ts.getD q 0 = y at *
            clear hgl hg1 hq hs
            have hpl := HP.out.in_
            have hgl := gtl HI.out
            go_wp2_with fail
            go_region
            go_wp2_with fail
            have HGB := hide (show wr.grownBy (World.drew (wr.setCell ⟨g1, k, none⟩ (.int .i64 y))) (some g1) from gb_drewN (gb_set (gb_refl wr (some g1)) _ _) 1)
            go_roundw
            case rel =>
              refine ⟨k + 1, by omega, by go_num, hide (HN.out.kept HGB.out (own_ne HN.out HI.out (by decide))), hide (by rw [← HTS.out]; exact HST.out y), hide (gb_bk HGB.out HP.out (by have := HGL.out; omega)), hide (Below.setCell HL.out (p := ⟨g1, k, none⟩) HG1.out _).drew⟩
            case measure => simp [intOf]; omega
          · obtain rfl : k = n' := by omega
            have HK2z := hide (HK2r.out.keep HL.out HK2r.out.in_)
            have hk2 := bk_two HK2z.out
            have hf0 := HK2z.out.fr 0
            have hf1 := HK2z.out.fr 1
            go_wp2_with fail
            have HF := hide ((HK2z.out.put 0 (.slice A1 n c1)).put 1 (.slice A2 k c2))
            have hf := bk_two HF.out
            have hin := HK2r.out.in_
            have OA := hide (own_other (own_other HN.out hin 0 (.slice A1 n c1)) hin 1 (.slice A2 k c2))
            have OB := hide (own_other (own_other HI.out hin 0 (.slice A1 n c1)) hin 1 (.slice A2 k c2))
            have hbl := HS1.out.trans (HL.out.mono HS1.out.size)
            rw [sigF_ok HG.out, HG.out]
            refine bodyPost_ret (v := .tuple #[bV A1 n c1 A2 k c2, .int .i64 0]) (by simp [results, Try.results56, go_sem, hf]) rfl ⟨A1, n, c1, A2, k, c2, rfl, ⟨OA.out.more HS1.out.size, by rw [← sigTo_all, HOL.out]; exact OB.out.more HS1.out.size⟩, Below.setCell (Below.setCell hbl (by simp) _) (by simp) _⟩
  · have hee : (errX b != 0) = true := by simp [he]
    have HG := hide (errG_bad he ts)
    have HNE := hide (show ¬ errG b ts = 0 from by rw [HG.out]; exact he)
    clear he
    go_enter Try.func56, Try.ntmps56
    go_wp2_with (go_at_call 25; refine (Validate_any _ _ _ _ _ _ b _ HR.out).mono ?_; rintro e w1 ⟨rfl, b1⟩; have B1 := hide b1; have HK2r := hide (HK2.out.keep b1 HK2.out.in_); have hk2 := bk_two HK2r.out; have hf0 := HK2r.out.fr 0; have hf1 := HK2r.out.fr 1; clear b1)
    have HF := hide ((HK2r.out.put 0 (.slice none 0 0)).put 1 (.slice none 0 0))
    have hf := bk_two HF.out
    have hbl := le_call HB0.out B1.out
    rw [sigF_no HNE.out, HG.out]
    refine bodyPost_ret (v := .tuple #[bV none 0 0 none 0 0, .int .i64 (errX b)]) (by simp [results, Try.results56, go_sem, hf]) rfl ⟨none, 0, 0, none, 0, 0, rfl, OwnBox.nil _ _, Below.setCell (Below.setCell hbl (by simp) _) (by simp) _⟩
set_option maxRecDepth 100000 in
set_option maxHeartbeats 8000000 in
theorem rSignals_any (A : Option Addr) (n c : Nat) (A' : Option Addr) (n' c' : Nat) (b : Bx) (T : Option Addr) (m d : Nat) (ts : List Int) (w : World) (h : BxR w A n c A' n' c' b) (ht : R E1 w T m d ts) :
    Calls Try.prog 57 #[bV A n c A' n' c', .slice T m d] w (BoxPost (errG b ts) (sigF b ts) w) := by
  have HB0 := hide (show Below w.heap.size w ((w.alloc (.cells #[.slice A n c, .slice A' n' c'] 25)).alloc (.cells #[.slice none 0 0, .slice none 0 0] 25)) from le_two (le_two (Below.refl _ _) _) _)
  have HK1 := hide ((Bk.born w 25 #[.slice A n c, .slice A' n' c']).more (.cells #[.slice none 0 0, .slice none 0 0] 25))
  have HK2 := hide (Bk.born (w.alloc (.cells #[.slice A n c, .slice A' n' c'] 25)) 25 #[.slice none 0 0, .slice none 0 0])
  rw [show (w.alloc (.cells #[.slice A n c, .slice A' n' c'] 25)).heap.size = w.heap.size + 1 from by simp] at HK2
  have HR := hide (h.below HB0.out (Nat.le_refl _))
  have HTR := hide (ht.below HB0.out (Nat.le_refl _))
  have HNL := hide h.nx.length
  have HOL := hide h.ou.length
  have HTL := hide ht.length
  have hle := ht.le
  clear h ht
  by_cases he : errX b = 0
  · have hee : (errX b != 0) = false := by simp [he]
    have HE := hide he
    have hok := okx_of he
    have hn6 : n ≤ 6 := by rw [← HNL.out, hok.len]; exact hok.n6
    have hn6' : n' ≤ 6 := by rw [← HOL.out]; exact hok.n6
    have HOK := hide hok
    clear he hok
    by_cases hm : ¬ m = 4
    · have HG := hide (errG_len HE.out (ts := ts) (by rw [HTL.out]; exact hm))
      have hm4 : ((m : Int) != 4) = true := by rw [bne_iff_ne]; omega
      clear hm
      go_enter Try.func57, Try.ntmps57
      go_wp2_with (go_at_call 26; refine (rValidate_any _ _ _ _ _ _ b _ HR.out).mono ?_; rintro e w1 ⟨rfl, b1⟩; have HK2r := hide (HK2.out.keep b1 HK2.out.in_); have hk2 := bk_two HK2r.out; have hf0 := HK2r.out.fr 0; have hf1 := HK2r.out.fr 1; have HS1 := hide (le_call HB0.out b1); clear b1)
      have HF := hide ((HK2r.out.put 0 (.slice none 0 0)).put 1 (.slice none 0 0))
      have hf := bk_two HF.out
      rw [sigF_no (by rw [HG.out]; decide), HG.out]
      refine bodyPost_ret (v := .tuple #[bV none 0 0 none 0 0, .int .i64 1]) (by simp [results, Try.results57, go_sem, hf]) rfl ⟨none, 0, 0, none, 0, 0, rfl, OwnBox.nil _ _, Below.setCell (Below.setCell HS1.out (by simp) _) (by simp) _⟩
    have hm : m = 4 := Decidable.of_not_not hm
    subst hm
    go_enter Try.func57, Try.ntmps57
    go_wp2_with (go_at_call 26; refine (rValidate_any _ _ _ _ _ _ b _ HR.out).mono ?_; rintro e w1 ⟨rfl, b1⟩; have B1 := hide b1; clear b1)
    have HS1 := hide (le_call HB0.out B1.out)
    have HK2r := hide (HK2.out.keep B1.out HK2.out.in_)
    have HK1r := hide (HK1.out.keep B1.out HK1.out.in_)
    have HR1 := hide (HR.out.below B1.out (Nat.le_refl _))
    obtain ⟨bt, ot, hrt⟩ := HTR.out.below B1.out (Nat.le_refl _)
    obtain rfl := hrt.at_ (by omega)
    have HRT := hide hrt
    clear hrt
    go_loop [7] (fun i => ∃ k : Nat, k ≤ 4 ∧ i = .int .i64 k ∧ Hid (∀ i, i < k → sigB (ts.getD i 0) = true)) (fun i => 4 - (intOf i).toNat)
    case atStart => exact ⟨0, by omega, rfl, hide (by omega)⟩
    case round =>
      obtain ⟨k, hk, rfl, HJ⟩ := hrel
      by_cases hlt : k < 4
      · have hct := c1 HRT.out hlt
        have i1 : (k : Int) < 4 := by omega
        have HA := hide (errG_arg (b := b) (ts := ts) HE.out hlt)
        have HN := hide (fun (hy : sigB (ts.getD k 0) = true) => (show ∀ i, i < k + 1 → sigB (ts.getD i 0) = true from fun i hi => by
          by_cases e : i = k
          · subst e; exact hy
          · exact HJ.out i (by omega)))
        generalize ts.getD k 0 = y at *
        cases hy : sigB y with
        | false =>
          have HG := hide (HA.out hy)
          have HY := hide (show withinB y 0 3 = false from hy)
          have hk2 := bk_two HK2r.out
          have hf0 := HK2r.out.fr 0
          have hf1 := HK2r.out.fr 1
          clear hy
          go_wp2_with (go_at_call 66; refine (within_any y 0 3 _).mono ?_; rintro e w5 ⟨rfl, rfl⟩; rw [HY.out])
          have HF := hide ((HK2r.out.put 0 (.slice none 0 0)).put 1 (.slice none 0 0))
          have hf := bk_two HF.out
          rw [sigF_no (by rw [HG.out]; decide), HG.out]
          refine bodyPost_ret (v := .tuple #[bV none 0 0 none 0 0, .int .i64 1]) (by simp [results, Try.results57, go_sem, hf]) rfl ⟨none, 0, 0, none, 0, 0, rfl, OwnBox.nil _ _, Below.setCell (Below.setCell HS1.out (by simp) _) (by simp) _⟩
        | true =>
          have HNN := hide (HN.out hy)
          have HY := hide (show withinB y 0 3 = true from hy)
          clear hy
          go_wp2_with (go_at_call 66; refine (within_any y 0 3 _).mono ?_; rintro e w5 ⟨rfl, rfl⟩; rw [HY.out])
          go_round
          case rel => exact ⟨k + 1, by omega, by go_num, HNN⟩
          case measure => simp [intOf]; omega
      · obtain rfl : k = 4 := by omega
        have HG := hide (errG_fine (b := b) (ts := ts) HE.out HTL.out HJ.out)
        have hcb := bk_two HK1r.out
        go_wp2_with (go_at_call 48; refine (rCopy_any _ n _ _ n' _ b _ HR1.out (by omega) (by omega)).mono ?_; rintro e w3 ⟨A1, c1, A2, c2, rfl, o3, b3⟩; have O3 := hide o3; have B3 := hide b3; clear o3 b3)
        have HP0 := hide (Bk.born w3 25 #[.slice A1 n c1, .slice A2 n' c2])
        have HO0 := hide (O3.out.below (le_two (Below.refl _ _) (.cells #[.slice A1 n c1, .slice A2 n' c2] 25)) (Nat.le_refl _))
        have HL0 := hide (show Below w1.heap.size w1 (w3.alloc (.cells #[.slice A1 n c1, .slice A2 n' c2] 25)) from le_two B3.out _)
        generalize w3.alloc (.cells #[.slice A1 n c1, .slice A2 n' c2] 25) = W4 at *
        clear hcb
        go_loopw [9] (fun i wr => ∃ k : Nat, k ≤ n' ∧ i = .int .i64 k ∧ Hid (Own EN wr w1.heap.size 59 A1 n c1 b.1) ∧ Hid (Own E1 wr w1.heap.size 3 A2 n' c2 (sigTo b ts k)) ∧ Hid (Bk wr w3.heap.size 25 #[.slice A1 n c1, .slice A2 n' c2]) ∧ Hid (Below w1.heap.size w1 wr)) (fun i _ => n' - (intOf i).toNat)
        case atStart => exact ⟨0, Nat.zero_le _, rfl, hide HO0.out.1, hide (by rw [sigTo_zero]; exact HO0.out.2), HP0, HL0⟩
        case round =>
          obtain ⟨k, hk, rfl, HN, HI, HP, HL⟩ := hrel
          have hcp := bk_two HP.out
          by_cases hlt : k < n'
          · obtain ⟨g1, rfl, hg1, _⟩ := HI.out.addr (by omega)
            have hgl : g1 < w3.heap.size := by
              rcases O3.out.2.form with ⟨hh, _⟩ | ⟨g', hA, _, hlt', _⟩
              · cases hh
              · injection hA with hA; injection hA with hA; omega
            have HGL := hide hgl
            have HG1 := hide hg1
            have hci := own1 HI.out hlt
            have hf := HI.out.frozen k
            have HTG := hide (sigTo_get (b := b) (ts := ts) (k := k) (by rw [HOL.out]; exact hlt))
            have HTS := hide (sigTo_set (b := b) (ts := ts) (k := k) (by rw [HOL.out]; exact hlt))
            rw [HTG.out] at hci
            obtain ⟨b1, o1, hr1⟩ := HR1.out.ou
            obtain rfl := hr1.at_ (by omega)
            have hcn := Go.Proofs.Ytkjnhdkbojcojaa.c1 (hr1.below HL.out (Nat.le_refl _)) hlt
            have hcb := bk_two (HK1r.out.keep HL.out HK1r.out.in_)
            clear hr1
            have hs := HOK.out.ou k (by rw [HOL.out]; exact hlt)
            obtain ⟨q, hq⟩ : ∃ q : Nat, b.2.getD k 0 = (q : Int) := ⟨(b.2.getD k 0).toNat, by rw [sigB_iff] at hs; omega⟩
            have hq4 : q < 4 := by rw [hq, sigB_iff] at hs; omega
            rw [hq] at hci HTS hcn
            have hct := Go.Proofs.Ytkjnhdkbojcojaa.c1 (HRT.out.below HL.out (Nat.le_refl _)) hq4
            have HSV := hide (show sgs ts (q : Int) = ts.getD q 0 from rfl)
            rw [HSV.out] at HTS
            have HST := hide (fun x => (HI.out.stored1 hlt x).drew)
            have i1 : (k : Int) < (n' : Int) := by omega
            have i4 : (q : Int) < 4 := by omega
            generalize ts.getD q 0 = y at *
            clear hgl hg1 hq hs
            have hpl := HP.out.in_
            have hgl := gtl HI.out
            go_wp2_with fail
            go_region
            go_wp2_with fail
            have HGB := hide (show wr.grownBy (World.drew (wr.setCell ⟨g1, k, none⟩ (.int .i64 y))) (some g1) from gb_drewN (gb_set (gb_refl wr (some g1)) _ _) 1)
            go_roundw
            case rel =>
              refine ⟨k + 1, by omega, by go_num, hide (HN.out.kept HGB.out (own_ne HN.out HI.out (by decide))), hide (by rw [← HTS.out]; exact HST.out y), hide (gb_bk HGB.out HP.out (by have := HGL.out; omega)), hide (Below.setCell HL.out (p := ⟨g1, k, none⟩) HG1.out _).drew⟩
            case measure => simp [intOf]; omega
          · obtain rfl : k = n' := by omega
            have HK2z := hide (HK2r.out.keep HL.out HK2r.out.in_)
            have hk2 := bk_two HK2z.out
            have hf0 := HK2z.out.fr 0
            have hf1 := HK2z.out.fr 1
            go_wp2_with fail
            have HF := hide ((HK2z.out.put 0 (.slice A1 n c1)).put 1 (.slice A2 k c2))
            have hf := bk_two HF.out
            have hin := HK2r.out.in_
            have OA := hide (own_other (own_other HN.out hin 0 (.slice A1 n c1)) hin 1 (.slice A2 k c2))
            have OB := hide (own_other (own_other HI.out hin 0 (.slice A1 n c1)) hin 1 (.slice A2 k c2))
            have hbl := HS1.out.trans (HL.out.mono HS1.out.size)
            rw [sigF_ok HG.out, HG.out]
            refine bodyPost_ret (v := .tuple #[bV A1 n c1 A2 k c2, .int .i64 0]) (by simp [results, Try.results57, go_sem, hf]) rfl ⟨A1, n, c1, A2, k, c2, rfl, ⟨OA.out.more HS1.out.size, by rw [← sigTo_all, HOL.out]; exact OB.out.more HS1.out.size⟩, Below.setCell (Below.setCell hbl (by simp) _) (by simp) _⟩
  · have hee : (errX b != 0) = true := by simp [he]
    have HG := hide (errG_bad he ts)
    have HNE := hide (show ¬ errG b ts = 0 from by rw [HG.out]; exact he)
    clear he
    go_enter Try.func57, Try.ntmps57
    go_wp2_with (go_at_call 26; refine (rValidate_any _ _ _ _ _ _ b _ HR.out).mono ?_; rintro e w1 ⟨rfl, b1⟩; have B1 := hide b1; have HK2r := hide (HK2.out.keep b1 HK2.out.in_); have hk2 := bk_two HK2r.out; have hf0 := HK2r.out.fr 0; have hf1 := HK2r.out.fr 1; clear b1)
    have HF := hide ((HK2r.out.put 0 (.slice none 0 0)).put 1 (.slice none 0 0))
    have hf := bk_two HF.out
    have hbl := le_call HB0.out B1.out
    rw [sigF_no HNE.out, HG.out]
    refine bodyPost_ret (v := .tuple #[bV none 0 0 none 0 0, .int .i64 (errX b)]) (by simp [results, Try.results57, go_sem, hf]) rfl ⟨none, 0, 0, none, 0, 0, rfl, OwnBox.nil _ _, Below.setCell (Below.setCell hbl (by simp) _) (by simp) _⟩
end Go.Proofs.Ytkjnhdkbojcojaa
