/- The document's CheckPosts. -/
import Derived.Test.YtpkjgnllkaafkaaWalkPe
namespace Go.Proofs.Ytpkjgnllkaafkaa
open Go.RowKit

set_option maxHeartbeats 3000000 in
theorem rCheckPosts_any (A : Option Addr) (n c : Nat) (xs : Ls) (A' : Option Addr) (n' c' : Nat) (ps : List Pst) (w : World) (h : R E3 w A n c xs) (hn : n ≤ 1000) (h' : R E2 w A' n' c' ps) (hn' : n' ≤ 1000) :
    Calls Try.prog 43 #[.slice A n c, .slice A' n' c'] w (PosPost xs ps w) := by
  have HLX := hide h.length
  have HLR := hide h'.length
  have HX := hide h
  have HR := hide h'
  clear h h'
  by_cases he : errV xs = 0
  · have hn12 : n ≤ 12 := by have h1 := errV_le he; have := HLX.out; omega
    have HE := hide he
    clear he
    by_cases hl : n' ≤ 12
    · have HLL := hide (show ps.length ≤ 12 by rw [HLR.out]; exact hl)
      have hl' : ¬ (12 : Int) < (n' : Int) := by omega
      go_enter Try.func43, Try.ntmps43
      go_wp2_with (go_at_call 24; refine (rValidate_any _ _ _ xs _ HX.out hn).mono ?_; rintro e w1 ⟨rfl, b1⟩; rw [HE.out]; have HB1 := hide b1; clear b1)
      go_loopw [7, 8] (fun v i wr => ∃ k : Nat, k ≤ n' ∧ i = .int .i64 k ∧ v = .int .i64 (totTo ps k) ∧ Hid (PTo ps k) ∧ w1 = wr) (fun _ i _ => n' - (intOf i).toNat)
      case atStart => exact ⟨0, Nat.zero_le _, rfl, by rw [totTo_zero], hide (pTo_zero _), rfl⟩
      case round =>
        obtain ⟨k, hk, rfl, rfl, HT, rfl⟩ := hrel
        by_cases hlt : k < n'
        · obtain ⟨b', off', hr⟩ := HR.out.below HB1.out (Nat.le_refl _)
          obtain rfl := hr.at_ (by omega)
          have hbl := hr.lt (by omega)
          obtain ⟨a1, a2⟩ := c2 hr hlt
          have hcap := hr.cap
          have hmax := hr.max
          clear hr
          have hbd := totTo_bd HT.out
          have HS := hide (totTo_succ (ps := ps) (k := k) (by rw [HLR.out]; exact hlt))
          have HY := hide (pTo_succ (ps := ps) (k := k) (by rw [HLR.out]; exact hlt) HT.out)
          have HN := hide (pTo_no (ps := ps) (k := k) (by rw [HLR.out]; exact hlt))
          have hpa : ps.getD k (0, 0) = pa ps k := rfl
          rw [hpa] at a1 a2
          clear hpa HT
          generalize pa ps k = y at *
          generalize totTo ps k = u at *
          obtain ⟨y1, y2⟩ := y
          dsimp only at a1 a2
          rcases withinB_dec y1 0 1000 with ⟨h5, h6, h7⟩ | ⟨h5, h6⟩
          · rcases withinB_dec y2 0 1188 with ⟨g5, g6, g7⟩ | ⟨g5, g6⟩
            · have HI := hide (HY.out (pOk_iff.2 ⟨h6, h7, g6, g7⟩))
              have hw : IntKind.i64.wrap (u + y2) = u + y2 := IntWalk.i64_in _ (by omega)
              have HW1 := hide h5
              have HW2 := hide g5
              clear HY HN h5 g5
              go_wp2_with (go_at_call 64; refine (within_any _ _ _ _).mono ?_; rintro e w' ⟨rfl, rfl⟩; first | rw [HW1.out] | rw [HW2.out])
              go_roundw
              case rel => exact ⟨k + 1, by omega, by go_num, by rw [HS.out], HI, trivial⟩
              case measure => simp [intOf]; omega
            · have HEK := hide (errP_k HE.out HLL.out (HN.out (fun hh => g6 (pOk_iff.1 hh).2.2)))
              have HV := hide (posV_no HEK.out (by decide))
              have HW1 := hide h5
              have HW2 := hide g5
              clear HY HN h5 g5
              go_wp2_with (go_at_call 64; refine (within_any _ _ _ _).mono ?_; rintro e w' ⟨rfl, rfl⟩; first | rw [HW1.out] | rw [HW2.out])
              go_ret2
              exact ⟨by rw [HV.out, HEK.out]; rfl, HB1.out⟩
          · have HEK := hide (errP_k HE.out HLL.out (HN.out (fun hh => h6 ⟨(pOk_iff.1 hh).1, (pOk_iff.1 hh).2.1⟩)))
            have HV := hide (posV_no HEK.out (by decide))
            have HW1 := hide h5
            clear HY HN h5
            go_wp2_with (go_at_call 64; refine (within_any _ _ _ _).mono ?_; rintro e w' ⟨rfl, rfl⟩; rw [HW1.out])
            go_ret2
            exact ⟨by rw [HV.out, HEK.out]; rfl, HB1.out⟩
        · obtain rfl : k = n' := by omega
          have HK := hide (pTo_all HLR.out HT.out)
          have HPA := hide (List.all_eq_true.1 HK.out)
          have HTA := hide (totTo_all HLR.out)
          rw [HTA.out]
          clear HT HTA
          go_wp2_with fail
          go_loopw [9] (fun i wr => ∃ p : Nat, p ≤ n ∧ i = .int .i64 p ∧ Hid (PyTo xs ps p) ∧ Hid (Below w.heap.size w wr)) (fun i _ => n - (intOf i).toNat)
          case atStart => exact ⟨0, Nat.zero_le _, rfl, hide (fun i hi => by omega), HB1⟩
          case round =>
            clear HB1
            obtain ⟨p, hp, rfl, HT, HB⟩ := hrel
            by_cases hlt : p < n
            · have HS := hide (pyTo_succ HT.out)
              have HN := hide (payB_no (xs := xs) (ps := ps) (k := p) (by rw [HLX.out]; exact hlt))
              have hX : ∃ x, xs.getD p sh0 = x := ⟨_, rfl⟩
              obtain ⟨x, hX⟩ := hX
              have HXP := hide hX
              rw [hX] at HS HN
              clear hX
              obtain ⟨x1, x2, x3⟩ := x
              go_wp2_with fail
              go_loopw [10, 11] (fun v i wr => ∃ q : Nat, q ≤ k ∧ i = .int .i64 q ∧ v = .int .i64 (paidTo ps (x1, x2, x3) q) ∧ Hid (Below w.heap.size w wr)) (fun _ i _ => k - (intOf i).toNat)
              case atStart => exact ⟨0, Nat.zero_le _, rfl, by rw [paidTo_zero], HB⟩
              case round =>
                clear HB
                obtain ⟨q, hq, rfl, rfl, HB⟩ := hrel
                obtain ⟨b, off, hr⟩ := HX.out.below HB.out (Nat.le_refl _)
                obtain rfl := hr.at_ (by omega)
                have hbl := hr.lt (by omega)
                have hcap := hr.cap
                have hmax := hr.max
                obtain ⟨a1, a2, a3⟩ := c3 hr hlt
                rw [HXP.out] at a1 a2 a3
                dsimp only at a1 a2 a3
                clear hr
                by_cases hlq : q < k
                · obtain ⟨b', off', hr⟩ := HR.out.below HB.out (Nat.le_refl _)
                  obtain rfl := hr.at_ (by omega)
                  have hbl' := hr.lt (by omega)
                  have hcap' := hr.cap
                  have hmax' := hr.max
                  obtain ⟨d1, d2⟩ := c2 hr hlq
                  clear hr
                  have i1 : (p : Int) < (n : Int) := by omega
                  have i2 : (q : Int) < (k : Int) := by omega
                  have hbd := paidTo_bd HPA.out (x1, x2, x3) q
                  have HY := hide (paidTo_yes (ps := ps) (s := (x1, x2, x3)) (k := q) (by rw [HLR.out]; exact hlq))
                  have HNO := hide (paidTo_no (ps := ps) (s := (x1, x2, x3)) (k := q) (by rw [HLR.out]; exact hlq))
                  have hq2 := pOk_iff.1 (HPA.out _ (pa_mem (k := q) (by rw [HLR.out]; exact hlq)))
                  have hpa : ps.getD q (0, 0) = pa ps q := rfl
                  rw [hpa] at d1 d2
                  clear hpa
                  generalize pa ps q = y at *
                  generalize paidTo ps (x1, x2, x3) q = u at *
                  obtain ⟨y1, y2⟩ := y
                  dsimp only at d1 d2 hq2
                  have hw : IntKind.i64.wrap (u + y2) = u + y2 := IntWalk.i64_in _ (by omega)
                  go_wp2_with fail
                  cases hrun : runB (x1, x2, x3) y1 with
                  | true =>
                    have HU := hide (HY.out hrun)
                    have HRUN := hide hrun
                    clear hrun HY HNO
                    go_region_held3 (fun w' => w'.cell? ⟨b, off + p * 3, none⟩ = some (.int .i64 x1) ∧ w'.cell? ⟨b, off + p * 3 + 1, none⟩ = some (.int .i64 x2) ∧ w'.cell? ⟨b, off + p * 3 + 2, none⟩ = some (.int .i64 x3) ∧ w'.cell? ⟨b', off' + q * 2, none⟩ = some (.int .i64 y1) ∧ w'.cell? ⟨b', off' + q * 2 + 1, none⟩ = some (.int .i64 y2))
                      (first
                        | go_keep
                        | (go_split_ands
                           refine ⟨?_, ?_, ?_, ?_, ?_⟩ <;> (rw [hb8.cell (by simp; omega)]; assumption)))
                      (first
                        | (go_at_call 82; refine (rruns_any _ _ _ _ _).mono ?_; rintro e8 w8 ⟨rfl, hb8⟩; rw [HRUN.out]))
                    all_goals
                      have B8 := hide ((below_drewN HB.out 1).trans (hb8.mono (by simp; exact HB.out.size)))
                      have e2 : w8.cell? ⟨b', off' + q * 2 + 1, none⟩ = some (.int .i64 y2) := by
                        rw [hb8.cell (by simp; omega)]; exact d2
                      clear hb8
                      go_wp2_with fail
                      go_roundw
                      case rel => exact ⟨q + 1, by omega, by go_num, by rw [HU.out], B8⟩
                      case measure => simp [intOf]; omega
                  | false =>
                    have HU := hide (HNO.out hrun)
                    have HRUN := hide hrun
                    clear hrun HY HNO
                    go_region_held3 (fun w' => w'.cell? ⟨b, off + p * 3, none⟩ = some (.int .i64 x1) ∧ w'.cell? ⟨b, off + p * 3 + 1, none⟩ = some (.int .i64 x2) ∧ w'.cell? ⟨b, off + p * 3 + 2, none⟩ = some (.int .i64 x3) ∧ w'.cell? ⟨b', off' + q * 2, none⟩ = some (.int .i64 y1) ∧ w'.cell? ⟨b', off' + q * 2 + 1, none⟩ = some (.int .i64 y2))
                      (first
                        | go_keep
                        | (go_split_ands
                           refine ⟨?_, ?_, ?_, ?_, ?_⟩ <;> (rw [hb8.cell (by simp; omega)]; assumption)))
                      (first
                        | (go_at_call 82; refine (rruns_any _ _ _ _ _).mono ?_; rintro e8 w8 ⟨rfl, hb8⟩; rw [HRUN.out]))
                    all_goals
                      have B8 := hide ((below_drewN HB.out 1).trans (hb8.mono (by simp; exact HB.out.size)))
                      clear hb8
                      go_wp2_with fail
                      go_roundw
                      case rel => exact ⟨q + 1, by omega, by go_num, by rw [HU.out], B8⟩
                      case measure => simp [intOf]; omega
                · obtain rfl : q = k := by omega
                  have HA := hide (paidTo_all (s := (x1, x2, x3)) HLR.out)
                  rw [HA.out]
                  clear HA
                  by_cases hlow : paidBy ps (x1, x2, x3) < x3
                  · have HEK := hide (errP_no HE.out HLL.out HK.out (HN.out hlow))
                    have HV := hide (posV_no HEK.out (by decide))
                    clear HS HN
                    go_wp2_with fail
                    go_ret2
                    exact ⟨by rw [HV.out, HEK.out]; rfl, HB.out⟩
                  · have HT2 := hide (HS.out (by omega))
                    clear HS HN
                    go_wp2_with fail
                    go_roundw
                    case rel => exact ⟨p + 1, by omega, by go_num, HT2, HB⟩
                    case measure => simp [intOf]; omega
            · obtain rfl : p = n := by omega
              have HC := hide (errP_ok HE.out HLL.out HK.out (pyTo_all HLX.out HT.out))
              have HV := hide (posV_ok HC.out)
              go_wp2_with fail
              go_ret2
              exact ⟨by rw [HV.out, HC.out]; rfl, HB.out⟩
    · have HN := hide (errP_len HE.out (xs := xs) (ps := ps) (by rw [HLR.out]; exact hl))
      have HV := hide (posV_no HN.out (by decide))
      have hl' : (12 : Int) < (n' : Int) := by omega
      go_enter Try.func43, Try.ntmps43
      go_wp2_with (go_at_call 24; refine (rValidate_any _ _ _ xs _ HX.out hn).mono ?_; rintro e w1 ⟨rfl, b1⟩; rw [HE.out])
      all_goals first
        | omega
        | (go_ret2; exact ⟨by rw [HV.out, HN.out]; rfl, b1⟩)
  · have HN := hide (errP_v (ps := ps) he)
    have HV := hide (posV_no HN.out he)
    have hne : (errV xs != 0) = true := by simpa using he
    clear he
    go_enter Try.func43, Try.ntmps43
    go_wp2_with (go_at_call 24; refine (rValidate_any _ _ _ xs _ HX.out hn).mono ?_; rintro e w1 ⟨rfl, b1⟩)
    go_ret2
    exact ⟨by rw [HV.out, HN.out]; rfl, b1⟩
end Go.Proofs.Ytpkjgnllkaafkaa
