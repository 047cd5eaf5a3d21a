/- The document's CheckRoster. -/
import Derived.Test.YtpkjgnllkaafkaaLift
namespace Go.Proofs.Ytpkjgnllkaafkaa
open Go.RowKit

/-- One when the keeper of p is none of the first k. -/
def frB (r : List Int) (p k : Nat) : Int := if gi r p ∈ r.take k then 0 else 1
theorem frB_zero (r : List Int) (p : Nat) : frB r p 0 = 1 := by simp [frB]
theorem frB_same {r : List Int} {p k : Nat} (h : k < r.length) (e : gi r p = gi r k) : frB r p (k + 1) = 0 := by
  unfold frB
  rw [take1 h, if_pos]
  rw [e]; simp
theorem frB_other {r : List Int} {p k : Nat} (h : k < r.length) (e : gi r p ≠ gi r k) : frB r p (k + 1) = frB r p k := by
  unfold frB
  rw [take1 h]
  simp [e]
theorem frB_le (r : List Int) (p k : Nat) : 0 ≤ frB r p k ∧ frB r p k ≤ 1 := by unfold frB; split <;> omega
def dTo (r : List Int) (k : Nat) : Int := (dst (r.take k) : Nat)
theorem dTo_zero (r : List Int) : dTo r 0 = 0 := by simp [dTo, dst]
theorem dTo_succ {r : List Int} {k : Nat} (h : k < r.length) : dTo r (k + 1) = dTo r k + frB r k k := by
  unfold dTo frB
  rw [take1 h, dst_snoc]
  split <;> simp
theorem dTo_le (r : List Int) (k : Nat) : 0 ≤ dTo r k ∧ dTo r k ≤ k := by
  unfold dTo
  have h1 := dst_le (r.take k)
  rw [List.length_take] at h1
  omega
theorem dTo_all {r : List Int} {n : Nat} (h : r.length = n) : dTo r n = dst r := by unfold dTo; rw [List.take_of_length_le (by omega)]
def RgRow (xs : Ls) (r : List Int) (p k : Nat) : Prop := ∀ a, a < k → ovB (xs.getD p sh0) (xs.getD a sh0) = true → gi r p ≠ gi r a
def RgTo (xs : Ls) (r : List Int) (p : Nat) : Prop := ∀ j, j < p → RgRow xs r j j
theorem rgRow_succ {xs : Ls} {r : List Int} {p k : Nat} (h : RgRow xs r p k) (h1 : ovB (xs.getD p sh0) (xs.getD k sh0) = true → gi r p ≠ gi r k) : RgRow xs r p (k + 1) := by
  intro a ha
  by_cases e : a = k
  · subst e; exact h1
  · exact h a (by omega)
theorem rgTo_succ {xs : Ls} {r : List Int} {p : Nat} (h : RgTo xs r p) (h1 : RgRow xs r p p) : RgTo xs r (p + 1) := by
  intro a ha
  by_cases e : a = p
  · subst e; exact h1
  · exact h a (by omega)
theorem rgTo_all {xs : Ls} {r : List Int} {n : Nat} (hn : xs.length = n) (h : RgTo xs r n) : rgtB xs r = true := by
  refine rgtB_iff.2 fun i j hij hj ho e => ?_
  refine h j (by omega) i hij (by rw [ovB_comm]; exact ho) ?_
  exact e.symm
theorem rgtB_no {xs : Ls} {r : List Int} {p k : Nat} (hk : k < p) (hp : p < xs.length) (e : gi r p = gi r k) (h : ovB (xs.getD p sh0) (xs.getD k sh0) = true) : ¬ rgtB xs r = true := by
  intro hh
  exact rgtB_iff.1 hh k p hk hp (by rw [ovB_comm]; exact h) e.symm
theorem sh_ok {xs : Ls} (ok : ∀ s ∈ xs, okS s = true) {k : Nat} (h : k < xs.length) : okS (xs.getD k sh0) = true := by
  refine ok _ ?_
  rw [List.getD_eq_getElem?_getD, List.getElem?_eq_getElem h]
  exact List.getElem_mem h

set_option maxHeartbeats 3000000 in
theorem rCheckRoster_any (A : Option Addr) (n c : Nat) (xs : Ls) (A' : Option Addr) (n' c' : Nat) (r : List Int) (w : World) (h : R E3 w A n c xs) (hn : n ≤ 1000) (h' : R E1 w A' n' c' r) (hn' : n' ≤ 1000) :
    Calls Try.prog 31 #[.slice A n c, .slice A' n' c'] w (RosPost xs r w) := by
  have HLX := hide h.length
  have HLR := hide h'.length
  have HX := hide h
  have HR := hide h'
  clear h h'
  by_cases he : errV xs = 0
  · have hn12 : n ≤ 12 := by have h1 := errV_le he; have := HLX.out; omega
    have HOK := hide (errV_ok.1 he).2
    have HE := hide he
    clear he
    by_cases hl : n' = n
    · obtain rfl := hl
      have HLL := hide (show r.length = xs.length by rw [HLR.out, HLX.out])
      go_enter Try.func31, Try.ntmps31
      go_wp2_with (go_at_call 24; refine (rValidate_any _ _ _ xs _ HX.out hn).mono ?_; rintro e w1 ⟨rfl, b1⟩; rw [HE.out]; have HB1 := hide b1; clear b1)
      go_loopw [7] (fun i wr => ∃ k : Nat, k ≤ n' ∧ i = .int .i64 k ∧ w1 = wr ∧ Hid (KTo r k)) (fun i _ => n' - (intOf i).toNat)
      case atStart => exact ⟨0, Nat.zero_le _, rfl, rfl, hide (fun i hi => by omega)⟩
      case round =>
        obtain ⟨k, hk, rfl, rfl, HT⟩ := hrel
        by_cases hlt : k < n'
        · obtain ⟨b', off', hr⟩ := HR.out.below HB1.out (Nat.le_refl _)
          obtain rfl := hr.at_ (by omega)
          have hbl := hr.lt (by omega)
          have a1 := c1 hr hlt
          have hcap := hr.cap
          have hmax := hr.max
          clear hr
          have hx : ∃ x, gi r k = x := ⟨_, rfl⟩
          obtain ⟨x, hx⟩ := hx
          have hx' : r.getD k 0 = x := hx
          rw [hx'] at a1
          have HXE := hide hx
          clear hx hx'
          rcases withinB_dec x 0 11 with ⟨h5, h6, h7⟩ | ⟨h5, h6⟩
          · have HI := hide (kTo_succ HT.out (kOk_iff.2 (by rw [HXE.out]; omega)))
            have HW := hide h5
            clear h5
            go_wp2_with (go_at_call 64; refine (within_any _ _ _ _).mono ?_; rintro e w' ⟨rfl, rfl⟩; rw [HW.out])
            go_roundw
            case rel => exact ⟨k + 1, by omega, by go_num, trivial, HI⟩
            case measure => simp [intOf]; omega
          · have HN := hide (rosE_k HE.out HLL.out (kTo_no (r := r) (k := k) (by rw [HLR.out]; exact hlt) (by rw [HXE.out]; simp [kOk]; omega)))
            have HV := hide (rosV_no HN.out (by decide))
            have HW := hide h5
            clear h5
            go_wp2_with (go_at_call 64; refine (within_any _ _ _ _).mono ?_; rintro e w' ⟨rfl, rfl⟩; rw [HW.out])
            go_ret2
            exact ⟨by rw [HV.out, HN.out]; rfl, HB1.out⟩
        · obtain rfl : k = n' := by omega
          have HK := hide (kTo_all (r := r) (by rw [HLR.out]; exact HT.out))
          clear HT
          go_wp2_with fail
          go_loopw [8, 9] (fun v i wr => ∃ p : Nat, p ≤ k ∧ i = .int .i64 p ∧ v = .int .i64 (dTo r p) ∧ Hid (RgTo xs r p) ∧ Hid (Below w.heap.size w wr)) (fun _ i _ => k - (intOf i).toNat)
          case atStart => exact ⟨0, Nat.zero_le _, rfl, by rw [dTo_zero], hide (fun i hi => by omega), HB1⟩
          case round =>
            clear HB1
            obtain ⟨p, hp, rfl, rfl, HT, HB⟩ := hrel
            by_cases hlt : p < k
            · go_wp2_with fail
              go_loopw [10, 11] (fun f j wr => ∃ q : Nat, q ≤ p ∧ j = .int .i64 q ∧ f = .int .i64 (frB r p q) ∧ Hid (RgRow xs r p q) ∧ Hid (Below w.heap.size w wr)) (fun _ j _ => p - (intOf j).toNat)
              case atStart => exact ⟨0, Nat.zero_le _, rfl, by rw [frB_zero], hide (fun i hi => by omega), HB⟩
              case round =>
                clear HB
                obtain ⟨q, hq, rfl, rfl, HRW, HB⟩ := hrel
                by_cases hlq : q < p
                · obtain ⟨b', off', hr⟩ := HR.out.below HB.out (Nat.le_refl _)
                  obtain rfl := hr.at_ (by omega)
                  have hbl' := hr.lt (by omega)
                  have r1 := c1 hr (k := p) hlt
                  have s1 := c1 hr (k := q) (by omega)
                  have hcap' := hr.cap
                  have hmax' := hr.max
                  clear hr
                  have i1 : (p : Int) < (k : Int) := by omega
                  have i2 : (q : Int) < (k : Int) := by omega
                  have hx : ∃ x, gi r p = x := ⟨_, rfl⟩
                  obtain ⟨x, hx⟩ := hx
                  have hy : ∃ y, gi r q = y := ⟨_, rfl⟩
                  obtain ⟨y, hy⟩ := hy
                  have hx' : r.getD p 0 = x := hx
                  have hy' : r.getD q 0 = y := hy
                  rw [hx'] at r1
                  rw [hy'] at s1
                  have HXE := hide hx
                  have HYE := hide hy
                  clear hx hx' hy hy'
                  by_cases hxy : x = y
                  · subst hxy
                    have HF := hide (frB_same (r := r) (p := p) (k := q) (by rw [HLR.out]; omega) (by rw [HXE.out, HYE.out]))
                    have hxx : (x == x) = true := by simp
                    go_wp2_with fail
                    go_quiet (fail)
                    go_wp2_with fail
                    clear r1 s1 hxx
                    obtain ⟨b, off, hr⟩ := HX.out.below HB.out (Nat.le_refl _)
                    obtain rfl := hr.at_ (by omega)
                    have hbl := hr.lt (by omega)
                    have hcap := hr.cap
                    have hmax := hr.max
                    obtain ⟨a1, a2, a3⟩ := c3 hr (k := p) hlt
                    obtain ⟨d1, d2, d3⟩ := c3 hr (k := q) (by omega)
                    clear hr
                    have hx1 := okS_iff.1 (sh_ok HOK.out (k := p) (by rw [HLX.out]; exact hlt))
                    have hy1 := okS_iff.1 (sh_ok HOK.out (k := q) (by rw [HLX.out]; omega))
                    have hU : ∃ s, xs.getD p sh0 = s := ⟨_, rfl⟩
                    obtain ⟨s, hU⟩ := hU
                    have hV : ∃ t, xs.getD q sh0 = t := ⟨_, rfl⟩
                    obtain ⟨t, hV⟩ := hV
                    rw [hU] at a1 a2 a3 hx1
                    rw [hV] at d1 d2 d3 hy1
                    have HU := hide hU
                    have HVV := hide hV
                    clear hU hV
                    obtain ⟨x1, x2, x3⟩ := s
                    obtain ⟨y1, y2, y3⟩ := t
                    dsimp only at a1 a2 a3 d1 d2 d3 hx1 hy1
                    have hfin : x1 < x2 ∧ y1 < y2 := by omega
                    clear hx1 hy1
                    cases hov : ovB (x1, x2, x3) (y1, y2, y3) with
                    | true =>
                      have HOV := hide hov
                      have HN := hide (rosE_no HE.out HLL.out HK.out (rgtB_no (xs := xs) (r := r) (p := p) (k := q) hlq (by rw [HLX.out]; exact hlt) (by rw [HXE.out, HYE.out]) (by rw [HU.out, HVV.out]; exact hov)))
                      have HV := hide (rosV_no HN.out (by decide))
                      clear hov
                      go_region_held3 (fun w' => w'.cell? ⟨b, off + p * 3, none⟩ = some (.int .i64 x1) ∧ w'.cell? ⟨b, off + p * 3 + 1, none⟩ = some (.int .i64 x2) ∧ w'.cell? ⟨b, off + p * 3 + 2, none⟩ = some (.int .i64 x3) ∧ w'.cell? ⟨b, off + q * 3, none⟩ = some (.int .i64 y1) ∧ w'.cell? ⟨b, off + q * 3 + 1, none⟩ = some (.int .i64 y2) ∧ w'.cell? ⟨b, off + q * 3 + 2, none⟩ = some (.int .i64 y3))
                        (first
                          | go_keep
                          | (go_split_ands
                             refine ⟨?_, ?_, ?_, ?_, ?_, ?_⟩ <;> (rw [hb8.cell (by simp; omega)]; assumption)))
                        (first
                          | (go_at_call 61; refine (roverlap_any _ _ _ _ _ _ hfin _).mono ?_; rintro e8 w8 ⟨rfl, hb8⟩; rw [HOV.out]))
                      all_goals
                        have B8 := hide ((below_drewN HB.out (nq + 1)).trans (hb8.mono (by simp; exact HB.out.size)))
                        clear hb8
                        go_wp2_with fail
                        go_ret2
                        exact ⟨by rw [HV.out, HN.out]; rfl, B8.out⟩
                    | false =>
                      have HOV := hide hov
                      have HRW2 := hide (rgRow_succ HRW.out (by rw [HU.out, HVV.out, hov]; intro hh; cases hh))
                      clear hov
                      go_region_held3 (fun w' => w'.cell? ⟨b, off + p * 3, none⟩ = some (.int .i64 x1) ∧ w'.cell? ⟨b, off + p * 3 + 1, none⟩ = some (.int .i64 x2) ∧ w'.cell? ⟨b, off + p * 3 + 2, none⟩ = some (.int .i64 x3) ∧ w'.cell? ⟨b, off + q * 3, none⟩ = some (.int .i64 y1) ∧ w'.cell? ⟨b, off + q * 3 + 1, none⟩ = some (.int .i64 y2) ∧ w'.cell? ⟨b, off + q * 3 + 2, none⟩ = some (.int .i64 y3))
                        (first
                          | go_keep
                          | (go_split_ands
                             refine ⟨?_, ?_, ?_, ?_, ?_, ?_⟩ <;> (rw [hb8.cell (by simp; omega)]; assumption)))
                        (first
                          | (go_at_call 61; refine (roverlap_any _ _ _ _ _ _ hfin _).mono ?_; rintro e8 w8 ⟨rfl, hb8⟩; rw [HOV.out]))
                      all_goals
                        have B8 := hide ((below_drewN HB.out (nq + 1)).trans (hb8.mono (by simp; exact HB.out.size)))
                        clear hb8
                        go_wp2_with fail
                        go_roundw
                        case rel => exact ⟨q + 1, by omega, by go_num, by rw [HF.out], HRW2, B8⟩
                        case measure => simp [intOf]; omega
                  · have HF := hide (frB_other (r := r) (p := p) (k := q) (by rw [HLR.out]; omega) (by rw [HXE.out, HYE.out]; exact hxy))
                    have HRW2 := hide (rgRow_succ HRW.out (fun _ => by rw [HXE.out, HYE.out]; exact hxy))
                    have hxx : (x == y) = false := by simpa using hxy
                    go_wp2_with fail
                    go_quiet (fail)
                    go_wp2_with fail
                    go_roundw
                    case rel => exact ⟨q + 1, by omega, by go_num, by rw [HF.out], HRW2, hide (below_drewN HB.out _)⟩
                    case measure => simp [intOf]; omega
                · obtain rfl : q = p := by omega
                  have HD := hide (dTo_succ (r := r) (k := q) (by rw [HLR.out]; exact hlt))
                  have HT2 := hide (rgTo_succ HT.out HRW.out)
                  have hd1 := dTo_le r q
                  have hf1 := frB_le r q q
                  generalize dTo r q = u at *
                  generalize frB r q q = v at *
                  have hw : IntKind.i64.wrap (u + v) = u + v := IntWalk.i64_in _ (by omega)
                  go_wp2_with fail
                  go_roundw
                  case rel => exact ⟨q + 1, by omega, by go_num, by rw [HD.out], HT2, HB⟩
                  case measure => simp [intOf]; omega
            · obtain rfl : p = k := by omega
              have HC := hide (rosE_ok HE.out HLL.out HK.out (rgTo_all HLX.out HT.out))
              have HV := hide (rosV_ok HC.out)
              have HD := hide (dTo_all HLR.out)
              go_wp2_with fail
              go_ret2
              exact ⟨by rw [HV.out, HC.out, HD.out]; rfl, HB.out⟩
    · have HN := hide (rosE_len HE.out (xs := xs) (r := r) (by rw [HLX.out, HLR.out]; exact hl))
      have HV := hide (rosV_no HN.out (by decide))
      have hne : ((n' : Int) != (n : Int)) = true := by simp; omega
      go_enter Try.func31, Try.ntmps31
      go_wp2_with (go_at_call 24; refine (rValidate_any _ _ _ xs _ HX.out hn).mono ?_; rintro e w1 ⟨rfl, b1⟩; rw [HE.out])
      go_ret2
      exact ⟨by rw [HV.out, HN.out]; rfl, b1⟩
  · have HN := hide (rosE_v (r := r) he)
    have HV := hide (rosV_no HN.out he)
    have hne : (errV xs != 0) = true := by simpa using he
    clear he
    go_enter Try.func31, Try.ntmps31
    go_wp2_with (go_at_call 24; refine (rValidate_any _ _ _ xs _ HX.out hn).mono ?_; rintro e w1 ⟨rfl, b1⟩)
    go_ret2
    exact ⟨by rw [HV.out, HN.out]; rfl, b1⟩
end Go.Proofs.Ytpkjgnllkaafkaa
