/- CheckMoments on both sides, and the walk of WatchLooks. -/
import Derived.Test.YtpkjgnllkaafkaaWalkSe
namespace Go.Proofs.Ytpkjgnllkaafkaa
open Go.RowKit

def seenB (s : Sh) (I : List Int) : Bool := I.any (runB s)
def lookB (xs : Ls) (I : List Int) : Bool := xs.all fun s => seenB s I
def errM (xs : Ls) (I : List Int) : Int := if errV xs = 0 then (if isB I 1000 = true then (if lookB xs I = true then 0 else 6) else 1) else errV xs
def lenM (xs : Ls) (I : List Int) : Int := if errM xs I = 0 then (I.length : Int) else 0
theorem errM_v {xs : Ls} {I : List Int} (h : errV xs ≠ 0) : errM xs I = errV xs := if_neg h
theorem errM_set {xs : Ls} {I : List Int} (h : errV xs = 0) (h1 : ¬ isB I 1000 = true) : errM xs I = 1 := by unfold errM; rw [if_pos h, if_neg h1]
theorem errM_no {xs : Ls} {I : List Int} (h : errV xs = 0) (h1 : isB I 1000 = true) (h2 : ¬ lookB xs I = true) : errM xs I = 6 := by unfold errM; rw [if_pos h, if_pos h1, if_neg h2]
theorem errM_ok {xs : Ls} {I : List Int} (h : errV xs = 0) (h1 : isB I 1000 = true) (h2 : lookB xs I = true) : errM xs I = 0 := by unfold errM; rw [if_pos h, if_pos h1, if_pos h2]
theorem lenM_no {xs : Ls} {I : List Int} {e : Int} (h : errM xs I = e) (he : e ≠ 0) : lenM xs I = 0 := by unfold lenM; rw [if_neg (by rw [h]; exact he)]
theorem lenM_ok {xs : Ls} {I : List Int} (h : errM xs I = 0) : lenM xs I = I.length := by unfold lenM; rw [if_pos h]
theorem errM_zero {xs : Ls} {I : List Int} (h : errM xs I = 0) : errV xs = 0 ∧ isB I 1000 = true ∧ lookB xs I = true := by
  by_cases h1 : errV xs = 0
  · by_cases h2 : isB I 1000 = true
    · by_cases h3 : lookB xs I = true
      · exact ⟨h1, h2, h3⟩
      · rw [errM_no h1 h2 h3] at h; cases h
    · rw [errM_set h1 h2] at h; cases h
  · rw [errM_v h1] at h; exact absurd h h1
def LkTo (xs : Ls) (I : List Int) (p : Nat) : Prop := ∀ i, i < p → seenB (xs.getD i sh0) I = true
theorem lkTo_succ {xs : Ls} {I : List Int} {p : Nat} (h : LkTo xs I p) (h1 : seenB (xs.getD p sh0) I = true) : LkTo xs I (p + 1) := by
  intro i hi
  by_cases e : i = p
  · subst e; exact h1
  · exact h i (by omega)
theorem lookB_yes {xs : Ls} {I : List Int} {n : Nat} (hn : xs.length = n) (h : LkTo xs I n) : lookB xs I = true := by
  unfold lookB
  rw [List.all_eq_true]
  intro x hx
  obtain ⟨i, hi, rfl⟩ := List.getElem_of_mem hx
  have := h i (by omega)
  simpa [List.getD_eq_getElem?_getD, hi] using this
theorem lookB_no {xs : Ls} {I : List Int} {p : Nat} (hp : p < xs.length) (h : seenB (xs.getD p sh0) I = false) : ¬ lookB xs I = true := by
  intro hh
  unfold lookB at hh
  rw [List.all_eq_true] at hh
  have hm : xs.getD p sh0 ∈ xs := by rw [List.getD_eq_getElem?_getD, List.getElem?_eq_getElem hp]; exact List.getElem_mem _
  rw [hh _ hm] at h
  cases h
def seTo (s : Sh) (I : List Int) (k : Nat) : Bool := seenB s (I.take k)
theorem seTo_zero (s : Sh) (I : List Int) : seTo s I 0 = false := rfl
theorem seTo_succ {s : Sh} {I : List Int} {k : Nat} (h : k < I.length) : seTo s I (k + 1) = (seTo s I k || runB s (gi I k)) := by
  unfold seTo seenB
  rw [take1 h, List.any_append]
  simp
theorem seTo_all {s : Sh} {I : List Int} {n : Nat} (h : I.length = n) : seTo s I n = seenB s I := by unfold seTo; rw [List.take_of_length_le (by omega)]
theorem seenB_mem {s : Sh} {I : List Int} {k : Nat} (h : k < I.length) (h1 : runB s (gi I k) = true) : seenB s I = true := List.any_eq_true.2 ⟨_, gi_mem h, h1⟩
theorem paid_seen {s : Sh} : ∀ {I : List Int}, seenB s I = true → 1 ≤ paidBy (I.map fun m => (m, 1)) s
  | [], h => by simp [seenB] at h
  | m :: I, h => by
    have h0 := paidBy_nonneg (P := I.map fun m => (m, (1 : Int))) (by intro p hp; obtain ⟨x, _, rfl⟩ := List.mem_map.1 hp; simp) s
    simp only [paidBy, List.map_cons, List.sum_cons] at h0 ⊢
    by_cases hr : runB s m = true
    · rw [if_pos hr]; omega
    · have h1 := paid_seen (s := s) (I := I) (by simpa [seenB, hr] using h)
      simp only [paidBy] at h1
      rw [if_neg hr]
      omega
theorem total_ones : ∀ (I : List Int), total (I.map fun m => (m, (1 : Int))) = I.length
  | [] => by simp [total]
  | m :: I => by
    have := total_ones I
    simp only [total, List.map_cons, List.sum_cons, List.length_cons] at this ⊢
    omega
theorem looks_weak {xs : Ls} {I J : List Int} {L : Ns} (h : errM xs I = 0) (hJ : Chosen (ones xs) L J) : (J.length : Int) ≤ lenM xs I := by
  obtain ⟨_, _, h3⟩ := errM_zero h
  rw [lenM_ok h, ← total_ones I, ← pay_ones (xs := xs) (I := J) (fun x hx => by have := hJ.asc.rng x hx; rw [ones_len] at this; exact this)]
  refine weak (fun p hp => by obtain ⟨x, _, rfl⟩ := List.mem_map.1 hp; simp) hJ.alone fun s hs => ?_
  obtain ⟨i, hi, rfl⟩ := List.mem_map.1 hs
  have hr := hJ.asc.rng i hi
  rw [ones_len] at hr
  rw [shAt_ones hr.1 hr.2]
  unfold lookB at h3
  rw [List.all_eq_true] at h3
  have hm : shAt xs i ∈ xs := by unfold shAt; rw [List.getD_eq_getElem?_getD, List.getElem?_eq_getElem (by omega)]; exact List.getElem_mem _
  have h4 := h3 _ hm
  have h5 : seenB (al1 (shAt xs i)) I = true := h4
  exact paid_seen h5
def LkPost (xs : Ls) (I : List Int) (w : World) (e : Ending) (w' : World) : Prop := e = .returned (.tuple #[.int .i64 (lenM xs I), .int .i64 (errM xs I)]) ∧ Below w.heap.size w w'

set_option maxHeartbeats 400000 in
theorem seen_any (m x1 x2 x3 : Int) (g : Nat) (w : World) (h : Bk w g 57 #[.int .i64 x1, .int .i64 x2, .int .i64 x3]) :
    Calls Try.prog 80 #[.int .i64 m, .pointer (some ⟨g, 0, none⟩)] w fun e w' => e = .returned (.bool (runB (x1, x2, x3) m)) ∧ Below w.heap.size w w' := by
  have kk1 := h.at_ 0
  have kk2 := h.at_ 1
  have kk3 := h.at_ 2
  simp only [List.getElem?_toArray, List.getElem?_cons_zero, List.getElem?_cons_succ] at kk1 kk2 kk3
  clear h
  go_enter Try.func80, Try.ntmps80
  go_wp2_with (go_at_call 81; refine (runs_any _ _ _ _ _).mono ?_; rintro e w1 ⟨rfl, b1⟩)
  go_ret
  exact ⟨rfl, b1⟩
set_option maxHeartbeats 1000000 in
theorem IndexFunc_any (A : Option Addr) (n c : Nat) (I : List Int) (x1 x2 x3 : Int) (g : Nat) (w : World) (h : R E1 w A n c I) (hn : n ≤ 1000) (hK : Bk w g 57 #[.int .i64 x1, .int .i64 x2, .int .i64 x3]) :
    Calls Try.prog 97 #[.slice A n c, .func (.func 80) #[] #[.pointer (some ⟨g, 0, none⟩)]] w fun e w' => (∃ v : Int, e = .returned (.int .i64 v) ∧ (0 ≤ v ↔ seenB (x1, x2, x3) I = true)) ∧ Below w.heap.size w w' := by
  have HL := hide h.length
  have HX := hide h
  have HK := hide hK
  have hg := hK.in_
  clear h hK
  go_enter Try.func97, Try.ntmps97
  go_wp2_with fail
  go_loopw [8] (fun i wr => ∃ k : Nat, k ≤ n ∧ i = .int .i64 k ∧ Hid (seTo (x1, x2, x3) I k = false) ∧ Hid (Below w.heap.size w wr)) (fun i _ => n - (intOf i).toNat)
  case atStart => exact ⟨0, Nat.zero_le _, rfl, hide (seTo_zero _ _), hide (Below.refl _ _)⟩
  case round =>
    obtain ⟨k, hk, rfl, HT, HB⟩ := hrel
    by_cases hlt : k < n
    · obtain ⟨b, off, hr⟩ := HX.out.below HB.out (Nat.le_refl _)
      obtain rfl := hr.at_ (by omega)
      have hbl := hr.lt (by omega)
      have hcap := hr.cap
      have hmax := hr.max
      have a1 := c1 hr hlt
      clear hr
      have hgi : I.getD k 0 = gi I k := rfl
      rw [hgi] at a1
      clear hgi
      have HS := hide (seTo_succ (s := (x1, x2, x3)) (I := I) (k := k) (by rw [HL.out]; exact hlt))
      have HM := hide (seenB_mem (s := (x1, x2, x3)) (I := I) (k := k) (by rw [HL.out]; exact hlt))
      generalize gi I k = m at *
      cases hr : runB (x1, x2, x3) m with
      | true =>
        have HRUN := hide hr
        have HF := hide (HM.out hr)
        clear hr
        go_wp2_with (go_at_call 80; refine (seen_any m x1 x2 x3 g _ (HK.out.keep HB.out hg)).mono ?_; rintro e w1 ⟨rfl, b1⟩; rw [HRUN.out])
        go_ret
        exact ⟨⟨(k : Int), rfl, ⟨fun _ => HF.out, fun _ => by omega⟩⟩, HB.out.trans (b1.mono HB.out.size)⟩
      | false =>
        have HRUN := hide hr
        have HT2 := hide (show seTo (x1, x2, x3) I (k + 1) = false by rw [HS.out, HT.out, hr]; rfl)
        clear hr
        go_wp2_with (go_at_call 80; refine (seen_any m x1 x2 x3 g _ (HK.out.keep HB.out hg)).mono ?_; rintro e w1 ⟨rfl, b1⟩; rw [HRUN.out])
        go_roundw
        case rel => exact ⟨k + 1, by omega, by go_num, HT2, hide (HB.out.trans (b1.mono HB.out.size))⟩
        case measure => simp [intOf]; omega
    · obtain rfl : k = n := by omega
      have HF := hide (seTo_all (s := (x1, x2, x3)) HL.out)
      go_wp2_with fail
      go_ret
      refine ⟨⟨-1, rfl, ⟨fun h => by omega, fun h => ?_⟩⟩, HB.out⟩
      rw [← HF.out, HT.out] at h
      cases h
set_option maxHeartbeats 400000 in
theorem ContainsFunc_any (A : Option Addr) (n c : Nat) (I : List Int) (x1 x2 x3 : Int) (g : Nat) (w : World) (h : R E1 w A n c I) (hn : n ≤ 1000) (hK : Bk w g 57 #[.int .i64 x1, .int .i64 x2, .int .i64 x3]) :
    Calls Try.prog 79 #[.slice A n c, .func (.func 80) #[] #[.pointer (some ⟨g, 0, none⟩)]] w fun e w' => e = .returned (.bool (seenB (x1, x2, x3) I)) ∧ Below w.heap.size w w' := by
  cases hx : seenB (x1, x2, x3) I with
  | true =>
    have HT := hide hx
    go_enter Try.func79, Try.ntmps79
    go_wp2_with (go_at_call 97; refine (IndexFunc_any _ _ _ I x1 x2 x3 g _ h hn hK).mono ?_; rintro e w1 ⟨⟨v, rfl, hv⟩, b1⟩; have hv2 : 0 ≤ v := hv.2 HT.out; clear hv)
    go_ret
    exact ⟨by first | rfl | (refine ret_bool ?_; simp; omega), b1⟩
  | false =>
    have HT := hide hx
    go_enter Try.func79, Try.ntmps79
    go_wp2_with (go_at_call 97; refine (IndexFunc_any _ _ _ I x1 x2 x3 g _ h hn hK).mono ?_; rintro e w1 ⟨⟨v, rfl, hv⟩, b1⟩; have hv2 : v < 0 := (by have : ¬ 0 ≤ v := fun h0 => (by have := hv.1 h0; rw [HT.out] at this; cases this); omega); clear hv)
    go_ret
    exact ⟨by first | rfl | (refine ret_bool ?_; simp; omega), b1⟩

set_option maxHeartbeats 2000000 in
theorem CheckMoments_any (A : Option Addr) (n c : Nat) (xs : Ls) (A' : Option Addr) (m c' : Nat) (I : List Int) (w : World) (h : R E3 w A n c xs) (hn : n ≤ 1000) (h' : R E1 w A' m c' I) (hm : m ≤ 1000) :
    Calls Try.prog 39 #[.slice A n c, .slice A' m c'] w (LkPost xs I w) := by
  have HLX := hide h.length
  have HLI := hide h'.length
  have HX := hide h
  have HR := hide h'
  clear h h'
  by_cases he : errV xs = 0
  · have HE := hide he
    clear he
    cases hs : isB I 1000 with
    | false =>
      have HS := hide hs
      have HN := hide (errM_set (I := I) HE.out (by rw [hs]; simp))
      have HV := hide (lenM_no HN.out (by decide))
      clear hs
      go_enter Try.func39, Try.ntmps39
      go_wp2_with (first
        | (go_at_call 23; refine (Validate_any _ _ _ xs _ HX.out hn).mono ?_; rintro e w1 ⟨rfl, b1⟩; rw [HE.out]; have HB1 := hide b1; clear b1)
        | (go_at_call 72; refine (isSet_any _ _ _ I _ _ (HR.out.below HB1.out (Nat.le_refl _)) hm).mono ?_; rintro e w' ⟨rfl, rfl⟩; rw [HS.out]))
      go_ret2
      exact ⟨by rw [HV.out, HN.out]; rfl, HB1.out⟩
    | true =>
      have HS := hide hs
      clear hs
      go_enter Try.func39, Try.ntmps39
      go_wp2_with (first
        | (go_at_call 23; refine (Validate_any _ _ _ xs _ HX.out hn).mono ?_; rintro e w1 ⟨rfl, b1⟩; rw [HE.out]; have HB1 := hide b1; clear b1)
        | (go_at_call 72; refine (isSet_any _ _ _ I _ _ (HR.out.below HB1.out (Nat.le_refl _)) hm).mono ?_; rintro e w' ⟨rfl, rfl⟩; rw [HS.out]))
      go_loopw [19] (fun i wr => ∃ p : Nat, p ≤ n ∧ i = .int .i64 p ∧ Hid (LkTo xs I p) ∧ Hid (Below w.heap.size w wr)) (fun i _ => n - (intOf i).toNat)
      case atStart => exact ⟨0, Nat.zero_le _, rfl, hide (fun i hi => by omega), HB1⟩
      case round =>
        clear HB1
        obtain ⟨p, hp, rfl, HT, HB⟩ := hrel
        by_cases hlt : p < n
        · obtain ⟨b, off, hr⟩ := HX.out.below HB.out (Nat.le_refl _)
          obtain rfl := hr.at_ (by omega)
          have hbl := hr.lt (by omega)
          have hcap := hr.cap
          have hmax := hr.max
          obtain ⟨a1, a2, a3⟩ := c3 hr hlt
          clear hr
          have HY := hide (lkTo_succ HT.out)
          have HNO := hide (lookB_no (xs := xs) (I := I) (p := p) (by rw [HLX.out]; exact hlt))
          generalize xs.getD p sh0 = x at *
          obtain ⟨x1, x2, x3⟩ := x
          dsimp only at a1 a2 a3
          have HBA := hide (HB.out.alloc HB.out.size (.cells #[.int .i64 x1, .int .i64 x2, .int .i64 x3] 57))
          have HKA := hide (Bk.born wr 57 #[.int .i64 x1, .int .i64 x2, .int .i64 x3])
          cases hsn : seenB (x1, x2, x3) I with
          | true =>
            have HSN := hide hsn
            have HT2 := hide (HY.out hsn)
            clear hsn
            go_wp2_with (go_at_call 79; refine (ContainsFunc_any _ _ _ I x1 x2 x3 _ _ (HR.out.below HBA.out (Nat.le_refl _)) hm HKA.out).mono ?_; rintro e w2 ⟨rfl, b2⟩; rw [HSN.out]; have HB2 := hide (HBA.out.trans (b2.mono HBA.out.size)); clear b2)
            go_roundw
            case rel => exact ⟨p + 1, by omega, by go_num, HT2, HB2⟩
            case measure => simp [intOf]; omega
          | false =>
            have HSN := hide hsn
            have HN := hide (errM_no HE.out HS.out (HNO.out hsn))
            have HV := hide (lenM_no HN.out (by decide))
            clear hsn
            go_wp2_with (go_at_call 79; refine (ContainsFunc_any _ _ _ I x1 x2 x3 _ _ (HR.out.below HBA.out (Nat.le_refl _)) hm HKA.out).mono ?_; rintro e w2 ⟨rfl, b2⟩; rw [HSN.out]; have HB2 := hide (HBA.out.trans (b2.mono HBA.out.size)); clear b2)
            go_ret2
            exact ⟨by rw [HV.out, HN.out]; rfl, HB2.out⟩
        · obtain rfl : p = n := by omega
          have HN := hide (errM_ok HE.out HS.out (lookB_yes HLX.out HT.out))
          have HV := hide (show lenM xs I = (m : Int) by rw [lenM_ok HN.out, HLI.out])
          go_wp2_with fail
          go_ret2
          exact ⟨by rw [HV.out, HN.out]; rfl, HB.out⟩
  · have HN := hide (errM_v (I := I) he)
    have HV := hide (lenM_no HN.out he)
    have hne : (errV xs != 0) = true := by simpa using he
    clear he
    go_enter Try.func39, Try.ntmps39
    go_wp2_with (go_at_call 23; refine (Validate_any _ _ _ xs _ HX.out hn).mono ?_; rintro e w1 ⟨rfl, b1⟩)
    go_ret2
    exact ⟨by rw [HV.out, HN.out]; rfl, b1⟩
end Go.Proofs.Ytpkjgnllkaafkaa
