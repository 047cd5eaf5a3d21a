/- The document's alone, CheckAlone and Pay. -/
import Derived.Test.YtpkjgnllkaafkaaWalkIs
namespace Go.Proofs.Ytpkjgnllkaafkaa
open Go.RowKit

def ARow (xs : Ls) (I : List Int) (p q : Nat) : Prop := ∀ k, k < q → ovB (shAt xs (gi I p)) (shAt xs (gi I k)) = false
def ATo (xs : Ls) (I : List Int) (p : Nat) : Prop := ∀ i, i < p → ARow xs I i i
def alB (xs : Ls) (I : List Int) : Bool := (List.range I.length).all fun i => (List.range i).all fun k => !ovB (shAt xs (gi I i)) (shAt xs (gi I k))
theorem alB_iff {xs : Ls} {I : List Int} : alB xs I = true ↔ ATo xs I I.length := by
  unfold alB ATo ARow
  simp [List.all_eq_true]
theorem aRow_succ {xs : Ls} {I : List Int} {p q : Nat} (h : ARow xs I p q) (h1 : ovB (shAt xs (gi I p)) (shAt xs (gi I q)) = false) : ARow xs I p (q + 1) := by
  intro k hk
  by_cases e : k = q
  · subst e; exact h1
  · exact h k (by omega)
theorem aTo_succ {xs : Ls} {I : List Int} {p : Nat} (h : ATo xs I p) (h1 : ARow xs I p p) : ATo xs I (p + 1) := by
  intro k hk
  by_cases e : k = p
  · subst e; exact h1
  · exact h k (by omega)
theorem alB_yes {xs : Ls} {I : List Int} {n : Nat} (hn : I.length = n) (h : ATo xs I n) : alB xs I = true := alB_iff.2 (by rw [hn]; exact h)
theorem alB_no {xs : Ls} {I : List Int} {p q : Nat} (hp : p < I.length) (hq : q < p) (h : ovB (shAt xs (gi I p)) (shAt xs (gi I q)) = true) : alB xs I = false := by
  rw [Bool.eq_false_iff]
  intro hh
  have := alB_iff.1 hh p hp q hq
  rw [h] at this
  cases this
theorem alB_alone {xs : Ls} {I : List Int} : alB xs I = true ↔ Alone (pick xs I) := by
  rw [alB_iff]
  unfold Alone pick ATo ARow
  rw [List.pairwise_map, List.pairwise_iff_getElem]
  have e : ∀ i (h : i < I.length), gi I i = I[i] := fun i h => by simp [gi, List.getD_eq_getElem?_getD, h]
  constructor
  · intro h i j hi hj hij
    rw [ovB_comm, ← e i hi, ← e j hj]
    exact h j hj i hij
  · intro h i hi k hk
    rw [ovB_comm, e i hi, e k (by omega)]
    exact h k i (by omega) hi hk

theorem shs_ok' {xs : Ls} (ok : ∀ s ∈ xs, okS s = true) {k : Nat} (h : k < xs.length) : okS (xs.getD k sh0) = true := by
  refine ok _ ?_
  rw [List.getD_eq_getElem?_getD, List.getElem?_eq_getElem h]
  exact List.getElem_mem h

set_option maxHeartbeats 3000000 in
theorem ralone_any (A : Option Addr) (n c : Nat) (xs : Ls) (A' : Option Addr) (m c' : Nat) (I : List Int) (w : World) (h : R E3 w A n c xs) (ok : ∀ s ∈ xs, okS s = true) (h' : R E1 w A' m c' I) (hm : m ≤ 1000) (hin : ∀ x ∈ I, 0 ≤ x ∧ x < n) :
    Calls Try.prog 75 #[.slice A n c, .slice A' m c'] w fun e w' => e = .returned (.bool (alB xs I)) ∧ Below w.heap.size w w' := by
  have HLX := hide h.length
  have HLI := hide h'.length
  have HX := hide h
  have HR := hide h'
  have HOK := hide ok
  have HIN := hide hin
  clear h h' ok hin
  go_enter Try.func75, Try.ntmps75
  go_wp2_with fail
  go_loopw [5] (fun i wr => ∃ p : Nat, p ≤ m ∧ i = .int .i64 p ∧ Hid (ATo xs I p) ∧ Hid (Below w.heap.size w wr)) (fun i _ => m - (intOf i).toNat)
  case atStart => exact ⟨0, Nat.zero_le _, rfl, hide (fun i hi => by omega), hide (Below.refl _ _)⟩
  case round =>
    obtain ⟨p, hp, rfl, HT, HB⟩ := hrel
    by_cases hlt : p < m
    · go_wp2_with fail
      go_loopw [6] (fun j wr => ∃ q : Nat, q ≤ p ∧ j = .int .i64 q ∧ Hid (ARow xs I p q) ∧ Hid (Below w.heap.size w wr)) (fun j _ => p - (intOf j).toNat)
      case atStart => exact ⟨0, Nat.zero_le _, rfl, hide (fun i hi => by omega), HB⟩
      case round =>
        clear HB
        obtain ⟨q, hq, rfl, HRW, HB⟩ := hrel
        by_cases hlq : q < p
        · obtain ⟨b', off', hr⟩ := HR.out.below HB.out (Nat.le_refl _)
          obtain rfl := hr.at_ (by omega)
          have hbl' := hr.lt (by omega)
          have r1 := c1 hr (k := p) hlt
          have s1 := c1 hr (k := q) (by omega)
          have hcap' := hr.cap
          have hmax' := hr.max
          clear hr
          have i1 : (p : Int) < (m : Int) := by omega
          have i2 : (q : Int) < (m : Int) := by omega
          have hx := HIN.out _ (gi_mem (I := I) (k := p) (by rw [HLI.out]; exact hlt))
          have hy := HIN.out _ (gi_mem (I := I) (k := q) (by rw [HLI.out]; omega))
          obtain ⟨u, hu⟩ : ∃ u : Nat, gi I p = u := ⟨(gi I p).toNat, by omega⟩
          obtain ⟨v, hv⟩ : ∃ v : Nat, gi I q = v := ⟨(gi I q).toNat, by omega⟩
          have hu' : I.getD p 0 = (u : Int) := hu
          have hv' : I.getD q 0 = (v : Int) := hv
          rw [hu'] at r1
          rw [hv'] at s1
          rw [hu] at hx
          rw [hv] at hy
          have HU := hide hu
          have HVI := hide hv
          clear hu hv hu' hv'
          have hun : u < n := by omega
          have hvn : v < n := by omega
          have j1 : (u : Int) < (n : Int) := by omega
          have j2 : (v : Int) < (n : Int) := by omega
          obtain ⟨b, off, hr⟩ := HX.out.below HB.out (Nat.le_refl _)
          obtain rfl := hr.at_ (by omega)
          have hbl := hr.lt (by omega)
          have hcap := hr.cap
          have hmax := hr.max
          obtain ⟨a1, a2, a3⟩ := c3 hr hun
          obtain ⟨d1, d2, d3⟩ := c3 hr hvn
          clear hr
          have hx1 := okS_iff.1 (shs_ok' HOK.out (k := u) (by rw [HLX.out]; exact hun))
          have hy1 := okS_iff.1 (shs_ok' HOK.out (k := v) (by rw [HLX.out]; exact hvn))
          have hS : ∃ s, xs.getD u sh0 = s := ⟨_, rfl⟩
          obtain ⟨s, hS⟩ := hS
          have hT : ∃ t, xs.getD v sh0 = t := ⟨_, rfl⟩
          obtain ⟨t, hT⟩ := hT
          have HS : Hid (shAt xs (gi I p) = s) := hide (by rw [HU.out, shAt_nat]; exact hS)
          have HTT : Hid (shAt xs (gi I q) = t) := hide (by rw [HVI.out, shAt_nat]; exact hT)
          rw [hS] at a1 a2 a3 hx1
          rw [hT] at d1 d2 d3 hy1
          clear hS hT hx hy
          obtain ⟨x1, x2, x3⟩ := s
          obtain ⟨y1, y2, y3⟩ := t
          dsimp only at a1 a2 a3 d1 d2 d3 hx1 hy1
          have hfin : x1 < x2 ∧ y1 < y2 := by omega
          clear hx1 hy1
          go_wp2_with fail
          cases hov : ovB (x1, x2, x3) (y1, y2, y3) with
          | true =>
            have HOV := hide hov
            have HF := hide (alB_no (xs := xs) (I := I) (p := p) (q := q) (by rw [HLI.out]; exact hlt) hlq (by rw [HS.out, HTT.out]; exact hov))
            clear hov
            go_region_held3 (fun w' => w'.cell? ⟨b', off' + p, none⟩ = some (.int .i64 (u : Int)) ∧ w'.cell? ⟨b', off' + q, none⟩ = some (.int .i64 (v : Int)) ∧ w'.cell? ⟨b, off + u * 3, none⟩ = some (.int .i64 x1) ∧ w'.cell? ⟨b, off + u * 3 + 1, none⟩ = some (.int .i64 x2) ∧ w'.cell? ⟨b, off + u * 3 + 2, none⟩ = some (.int .i64 x3) ∧ w'.cell? ⟨b, off + v * 3, none⟩ = some (.int .i64 y1) ∧ w'.cell? ⟨b, off + v * 3 + 1, none⟩ = some (.int .i64 y2) ∧ w'.cell? ⟨b, off + v * 3 + 2, none⟩ = some (.int .i64 y3))
              (first
                | go_keep
                | (go_split_ands
                   refine ⟨?_, ?_, ?_, ?_, ?_, ?_, ?_, ?_⟩ <;> (rw [hb8.cell (by simp; omega)]; assumption)))
              (first
                | (go_at_call 61; refine (roverlap_any _ _ _ _ _ _ hfin _).mono ?_; rintro e8 w8 ⟨rfl, hb8⟩; rw [HOV.out]))
            all_goals
              have B8 := hide ((below_drewN HB.out 1).trans (hb8.mono (by simp; exact HB.out.size)))
              clear hb8
              go_wp2_with fail
              go_ret
              exact ⟨ret_bool HF.out.symm, B8.out⟩
          | false =>
            have HOV := hide hov
            have HRW2 := hide (aRow_succ HRW.out (by rw [HS.out, HTT.out]; exact hov))
            clear hov
            go_region_held3 (fun w' => w'.cell? ⟨b', off' + p, none⟩ = some (.int .i64 (u : Int)) ∧ w'.cell? ⟨b', off' + q, none⟩ = some (.int .i64 (v : Int)) ∧ w'.cell? ⟨b, off + u * 3, none⟩ = some (.int .i64 x1) ∧ w'.cell? ⟨b, off + u * 3 + 1, none⟩ = some (.int .i64 x2) ∧ w'.cell? ⟨b, off + u * 3 + 2, none⟩ = some (.int .i64 x3) ∧ w'.cell? ⟨b, off + v * 3, none⟩ = some (.int .i64 y1) ∧ w'.cell? ⟨b, off + v * 3 + 1, none⟩ = some (.int .i64 y2) ∧ w'.cell? ⟨b, off + v * 3 + 2, none⟩ = some (.int .i64 y3))
              (first
                | go_keep
                | (go_split_ands
                   refine ⟨?_, ?_, ?_, ?_, ?_, ?_, ?_, ?_⟩ <;> (rw [hb8.cell (by simp; omega)]; assumption)))
              (first
                | (go_at_call 61; refine (roverlap_any _ _ _ _ _ _ hfin _).mono ?_; rintro e8 w8 ⟨rfl, hb8⟩; rw [HOV.out]))
            all_goals
              have B8 := hide ((below_drewN HB.out 1).trans (hb8.mono (by simp; exact HB.out.size)))
              clear hb8
              go_wp2_with fail
              go_roundw
              case rel => exact ⟨q + 1, by omega, by go_num, HRW2, B8⟩
              case measure => simp [intOf]; omega
        · obtain rfl : q = p := by omega
          have HT2 := hide (aTo_succ HT.out HRW.out)
          go_wp2_with fail
          go_roundw
          case rel => exact ⟨q + 1, by omega, by go_num, HT2, HB⟩
          case measure => simp [intOf]; omega
    · obtain rfl : p = m := by omega
      have HF := hide (alB_yes HLI.out HT.out)
      go_wp2_with fail
      go_ret
      exact ⟨ret_bool HF.out.symm, HB.out⟩

/-- The first error of a set. -/
def errS (xs : Ls) (I : List Int) : Int := if errV xs = 0 then (if isB I ((xs.length : Int) - 1) = true then (if alB xs I = true then 0 else 6) else 1) else errV xs
def lenS (xs : Ls) (I : List Int) : Int := if errS xs I = 0 then (I.length : Int) else 0
theorem errS_v {xs : Ls} {I : List Int} (h : errV xs ≠ 0) : errS xs I = errV xs := if_neg h
theorem errS_set {xs : Ls} {I : List Int} (h : errV xs = 0) (h1 : ¬ isB I ((xs.length : Int) - 1) = true) : errS xs I = 1 := by unfold errS; rw [if_pos h, if_neg h1]
theorem errS_no {xs : Ls} {I : List Int} (h : errV xs = 0) (h1 : isB I ((xs.length : Int) - 1) = true) (h2 : ¬ alB xs I = true) : errS xs I = 6 := by unfold errS; rw [if_pos h, if_pos h1, if_neg h2]
theorem errS_ok {xs : Ls} {I : List Int} (h : errV xs = 0) (h1 : isB I ((xs.length : Int) - 1) = true) (h2 : alB xs I = true) : errS xs I = 0 := by unfold errS; rw [if_pos h, if_pos h1, if_pos h2]
theorem lenS_no {xs : Ls} {I : List Int} {e : Int} (h : errS xs I = e) (he : e ≠ 0) : lenS xs I = 0 := by unfold lenS; rw [if_neg (by rw [h]; exact he)]
theorem lenS_ok {xs : Ls} {I : List Int} (h : errS xs I = 0) : lenS xs I = I.length := by unfold lenS; rw [if_pos h]
theorem isB_in {xs : Ls} {I : List Int} {n : Nat} (hn : xs.length = n) (h : isB I ((n : Int) - 1) = true) : ∀ x ∈ I, 0 ≤ x ∧ x < n := by
  intro x hx
  obtain ⟨i, hi, rfl⟩ := List.getElem_of_mem hx
  have := (isB_iff.1 h i hi).1
  have e : gi I i = I[i] := by simp [gi, List.getD_eq_getElem?_getD, hi]
  rw [e] at this
  omega
def CaPost (xs : Ls) (I : List Int) (w : World) (e : Ending) (w' : World) : Prop := e = .returned (.tuple #[.int .i64 (lenS xs I), .int .i64 (errS xs I)]) ∧ Below w.heap.size w w'

set_option maxHeartbeats 2000000 in
theorem rCheckAlone_any (A : Option Addr) (n c : Nat) (xs : Ls) (A' : Option Addr) (m c' : Nat) (I : List Int) (w : World) (h : R E3 w A n c xs) (hn : n ≤ 1000) (h' : R E1 w A' m c' I) (hm : m ≤ 1000) :
    Calls Try.prog 34 #[.slice A n c, .slice A' m c'] w (CaPost xs I w) := by
  have HLX := hide h.length
  have HLI := hide h'.length
  have HX := hide h
  have HR := hide h'
  clear h h'
  have hw : IntKind.i64.wrap ((n : Int) - 1) = (n : Int) - 1 := IntWalk.i64_in _ (by omega)
  by_cases he : errV xs = 0
  · have HE := hide he
    have HOK := hide (errV_ok.1 he).2
    clear he
    cases hs : isB I ((n : Int) - 1) with
    | false =>
      have HS := hide hs
      have HN := hide (errS_set (I := I) HE.out (by rw [HLX.out, hs]; simp))
      have HV := hide (lenS_no HN.out (by decide))
      clear hs
      go_enter Try.func34, Try.ntmps34
      go_wp2_with (first
        | (go_at_call 24; refine (rValidate_any _ _ _ xs _ HX.out hn).mono ?_; rintro e w1 ⟨rfl, b1⟩; rw [HE.out]; have HB1 := hide b1; clear b1)
        | (go_at_call 74; refine (risSet_any _ _ _ I _ _ (HR.out.below HB1.out (Nat.le_refl _)) hm).mono ?_; rintro e w2 ⟨rfl, b2⟩; rw [HS.out]; have HB2 := hide (HB1.out.trans (b2.mono HB1.out.size)); clear b2))
      go_ret2
      exact ⟨by rw [HV.out, HN.out]; rfl, HB2.out⟩
    | true =>
      have HS := hide hs
      have HIN := hide (isB_in HLX.out hs)
      cases ha : alB xs I with
      | false =>
        have HA := hide ha
        have HN := hide (errS_no HE.out (by rw [HLX.out]; exact hs) (by rw [ha]; simp))
        have HV := hide (lenS_no HN.out (by decide))
        clear hs ha
        go_enter Try.func34, Try.ntmps34
        go_wp2_with (first
          | (go_at_call 24; refine (rValidate_any _ _ _ xs _ HX.out hn).mono ?_; rintro e w1 ⟨rfl, b1⟩; rw [HE.out]; have HB1 := hide b1; clear b1)
          | (go_at_call 74; refine (risSet_any _ _ _ I _ _ (HR.out.below HB1.out (Nat.le_refl _)) hm).mono ?_; rintro e w2 ⟨rfl, b2⟩; rw [HS.out]; have HB2 := hide (HB1.out.trans (b2.mono HB1.out.size)); clear b2)
          | (go_at_call 75; refine (ralone_any _ _ _ xs _ _ _ I _ (HX.out.below HB2.out (Nat.le_refl _)) HOK.out (HR.out.below HB2.out (Nat.le_refl _)) hm HIN.out).mono ?_; rintro e w3 ⟨rfl, b3⟩; rw [HA.out]; have HB3 := hide (HB2.out.trans (b3.mono HB2.out.size)); clear b3))
        go_ret2
        exact ⟨by rw [HV.out, HN.out]; rfl, HB3.out⟩
      | true =>
        have HA := hide ha
        have HN := hide (errS_ok HE.out (by rw [HLX.out]; exact hs) ha)
        have HV := hide (show lenS xs I = (m : Int) by rw [lenS_ok HN.out, HLI.out])
        clear hs ha
        go_enter Try.func34, Try.ntmps34
        go_wp2_with (first
          | (go_at_call 24; refine (rValidate_any _ _ _ xs _ HX.out hn).mono ?_; rintro e w1 ⟨rfl, b1⟩; rw [HE.out]; have HB1 := hide b1; clear b1)
          | (go_at_call 74; refine (risSet_any _ _ _ I _ _ (HR.out.below HB1.out (Nat.le_refl _)) hm).mono ?_; rintro e w2 ⟨rfl, b2⟩; rw [HS.out]; have HB2 := hide (HB1.out.trans (b2.mono HB1.out.size)); clear b2)
          | (go_at_call 75; refine (ralone_any _ _ _ xs _ _ _ I _ (HX.out.below HB2.out (Nat.le_refl _)) HOK.out (HR.out.below HB2.out (Nat.le_refl _)) hm HIN.out).mono ?_; rintro e w3 ⟨rfl, b3⟩; rw [HA.out]; have HB3 := hide (HB2.out.trans (b3.mono HB2.out.size)); clear b3))
        go_ret2
        exact ⟨by rw [HV.out, HN.out]; rfl, HB3.out⟩
  · have HN := hide (errS_v (I := I) he)
    have HV := hide (lenS_no HN.out he)
    have hne : (errV xs != 0) = true := by simpa using he
    clear he
    go_enter Try.func34, Try.ntmps34
    go_wp2_with (go_at_call 24; refine (rValidate_any _ _ _ xs _ HX.out hn).mono ?_; rintro e w1 ⟨rfl, b1⟩)
    go_ret2
    exact ⟨by rw [HV.out, HN.out]; rfl, b1⟩

set_option maxHeartbeats 1000000 in
theorem rPay_any (A : Option Addr) (n c : Nat) (xs : Ls) (A' : Option Addr) (m c' : Nat) (I : List Int) (w : World) (h : R E3 w A n c xs) (ok : ∀ s ∈ xs, okS s = true) (h' : R E1 w A' m c' I) (hm : m ≤ 1000) (hin : ∀ x ∈ I, 0 ≤ x ∧ x < n) :
    Calls Try.prog 37 #[.slice A n c, .slice A' m c'] w fun e w' => e = .returned (.int .i64 (payI xs I)) ∧ w = w' := by
  have HLX := hide h.length
  have HLI := hide h'.length
  have HX := hide h
  have HR := hide h'
  have HOK := hide ok
  have HIN := hide hin
  clear h h' ok hin
  go_enter Try.func37, Try.ntmps37
  go_wp2_with fail
  go_loopw [5, 6] (fun v i wr => ∃ k : Nat, k ≤ m ∧ i = .int .i64 k ∧ v = .int .i64 (payI xs (I.take k)) ∧ w = wr) (fun _ i _ => m - (intOf i).toNat)
  case atStart => exact ⟨0, Nat.zero_le _, rfl, by simp [payI, paySum, pick], rfl⟩
  case round =>
    obtain ⟨k, hk, rfl, rfl, rfl⟩ := hrel
    by_cases hlt : k < m
    · obtain ⟨b', off', hr⟩ := HR.out
      obtain rfl := hr.at_ (by omega)
      have hbl' := hr.lt (by omega)
      have r1 := c1 hr hlt
      have hcap' := hr.cap
      have hmax' := hr.max
      clear hr
      have hx := HIN.out _ (gi_mem (I := I) (k := k) (by rw [HLI.out]; exact hlt))
      obtain ⟨u, hu⟩ : ∃ u : Nat, gi I k = u := ⟨(gi I k).toNat, by omega⟩
      have hu' : I.getD k 0 = (u : Int) := hu
      rw [hu'] at r1
      rw [hu] at hx
      have HP := hide (payI_take (xs := xs) (I := I) (k := k) (by rw [HLI.out]; exact hlt))
      rw [hu, shAt_nat] at HP
      clear hu hu'
      have hun : u < n := by omega
      obtain ⟨b, off, hr⟩ := HX.out
      obtain rfl := hr.at_ (by omega)
      have hbl := hr.lt (by omega)
      have hcap := hr.cap
      have hmax := hr.max
      obtain ⟨a1, a2, a3⟩ := c3 hr hun
      clear hr
      have hx1 := okS_iff.1 (shs_ok' HOK.out (k := u) (by rw [HLX.out]; exact hun))
      have hbd := payI_bd HOK.out (I := I.take k) fun x hx => by rw [HLX.out]; exact HIN.out x (List.mem_of_mem_take hx)
      rw [List.length_take] at hbd
      generalize payI xs (I.take k) = z at *
      generalize xs.getD u sh0 = s at *
      obtain ⟨x1, x2, x3⟩ := s
      dsimp only at a1 a2 a3 hx1 HP
      have hw : IntKind.i64.wrap (z + x3) = z + x3 := IntWalk.i64_in _ (by omega)
      go_wp2_with fail
      go_roundw
      case rel => exact ⟨k + 1, by omega, by go_num, by rw [HP.out], trivial⟩
      case measure => simp [intOf]; omega
    · obtain rfl : k = m := by omega
      have HA := hide (show I.take k = I by rw [List.take_of_length_le (by rw [HLI.out]; omega)])
      rw [HA.out]
      go_wp2_with fail
      go_ret
      exact ⟨rfl, rfl⟩
end Go.Proofs.Ytpkjgnllkaafkaa
