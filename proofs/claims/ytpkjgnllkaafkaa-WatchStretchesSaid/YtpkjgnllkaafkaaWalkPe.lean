/- CheckPosts, on both sides. -/
import Derived.Test.YtpkjgnllkaafkaaWalkPd
namespace Go.Proofs.Ytpkjgnllkaafkaa
open Go.RowKit

theorem shs_ok {xs : Ls} (ok : ∀ s ∈ xs, okS s = true) {k : Nat} (h : k < xs.length) : okS (xs.getD k sh0) = true := by
  refine ok _ ?_
  rw [List.getD_eq_getElem?_getD, List.getElem?_eq_getElem h]
  exact List.getElem_mem h

set_option maxHeartbeats 3000000 in
theorem CheckPosts_any (A : Option Addr) (n c : Nat) (xs : Ls) (A' : Option Addr) (n' c' : Nat) (ps : List Pst) (w : World) (h : R E3 w A n c xs) (hn : n ≤ 1000) (h' : R E2 w A' n' c' ps) (hn' : n' ≤ 1000) :
    Calls Try.prog 42 #[.slice A n c, .slice A' n' c'] w (PosPost xs ps w) := by
  have HLX := hide h.length
  have HLR := hide h'.length
  have HX := hide h
  have HR := hide h'
  clear h h'
  by_cases he : errV xs = 0
  · have hn12 : n ≤ 12 := by have h1 := errV_le he; have := HLX.out; omega
    have HE := hide he
    clear he
    by_cases hl : n' ≤ 12
    · have HLL := hide (show ps.length ≤ 12 by rw [HLR.out]; exact hl)
      have hl' : ¬ (12 : Int) < (n' : Int) := by omega
      go_enter Try.func42, Try.ntmps42
      go_wp2_with (go_at_call 23; refine (Validate_any _ _ _ xs _ HX.out hn).mono ?_; rintro e w1 ⟨rfl, b1⟩; rw [HE.out]; have HB1 := hide b1; clear b1)
      go_loopw [7, 22] (fun v i wr => ∃ k : Nat, k ≤ n' ∧ i = .int .i64 k ∧ v = .int .i64 (totTo ps k) ∧ Hid (PTo ps k) ∧ Hid (Below w.heap.size w wr)) (fun _ i _ => n' - (intOf i).toNat)
      case atStart => exact ⟨0, Nat.zero_le _, rfl, by rw [totTo_zero], hide (pTo_zero _), HB1⟩
      case round =>
        clear HB1
        obtain ⟨k, hk, rfl, rfl, HT, HB⟩ := hrel
        by_cases hlt : k < n'
        · obtain ⟨b', off', hr⟩ := HR.out.below HB.out (Nat.le_refl _)
          obtain rfl := hr.at_ (by omega)
          have hbl := hr.lt (by omega)
          obtain ⟨a1, a2⟩ := c2 hr hlt
          have hcap := hr.cap
          have hmax := hr.max
          clear hr
          have hbd := totTo_bd HT.out
          have HS := hide (totTo_succ (ps := ps) (k := k) (by rw [HLR.out]; exact hlt))
          have HY := hide (pTo_succ (ps := ps) (k := k) (by rw [HLR.out]; exact hlt) HT.out)
          have HN := hide (pTo_no (ps := ps) (k := k) (by rw [HLR.out]; exact hlt))
          have hpa : ps.getD k (0, 0) = pa ps k := rfl
          rw [hpa] at a1 a2
          clear hpa HT
          generalize pa ps k = y at *
          generalize totTo ps k = u at *
          obtain ⟨y1, y2⟩ := y
          dsimp only at a1 a2
          by_cases hy : 0 ≤ y1 ∧ y1 ≤ 1000 ∧ 0 ≤ y2 ∧ y2 ≤ 1188
          · have HI := hide (HY.out (pOk_iff.2 hy))
            obtain ⟨hy1, hy2, hy3, hy4⟩ := hy
            have hw : IntKind.i64.wrap (u + y2) = u + y2 := IntWalk.i64_in _ (by omega)
            clear HY HN
            go_wp2_with fail
            go_roundw
            case rel => exact ⟨k + 1, by omega, by go_num, by rw [HS.out], HI, hide (HB.out.alloc HB.out.size _)⟩
            case measure => simp [intOf]; omega
          · have HEK := hide (errP_k HE.out HLL.out (HN.out (fun hh => hy (pOk_iff.1 hh))))
            have HV := hide (posV_no HEK.out (by decide))
            clear HY HN
            have h4 : y1 < 0 ∨ (0 ≤ y1 ∧ 1000 < y1) ∨ (0 ≤ y1 ∧ y1 ≤ 1000 ∧ y2 < 0) ∨ (0 ≤ y1 ∧ y1 ≤ 1000 ∧ 0 ≤ y2 ∧ 1188 < y2) := by omega
            clear hy
            rcases h4 with h4 | ⟨h4, h5⟩ | ⟨h4, h5, h6⟩ | ⟨h4, h5, h6, h7⟩
            all_goals
              go_wp2_with fail
              go_ret2
              exact ⟨by rw [HV.out, HEK.out]; rfl, HB.out.alloc HB.out.size _⟩
        · obtain rfl : k = n' := by omega
          have HK := hide (pTo_all HLR.out HT.out)
          have HPA := hide (List.all_eq_true.1 HK.out)
          have HTA := hide (totTo_all HLR.out)
          rw [HTA.out]
          clear HT HTA
          go_wp2_with fail
          go_loopw [51] (fun i wr => ∃ p : Nat, p ≤ n ∧ i = .int .i64 p ∧ Hid (PyTo xs ps p) ∧ Hid (Below w.heap.size w wr)) (fun i _ => n - (intOf i).toNat)
          case atStart => exact ⟨0, Nat.zero_le _, rfl, hide (fun i hi => by omega), HB⟩
          case round =>
            clear HB
            obtain ⟨p, hp, rfl, HT, HB⟩ := hrel
            by_cases hlt : p < n
            · obtain ⟨b, off, hr⟩ := HX.out.below HB.out (Nat.le_refl _)
              obtain rfl := hr.at_ (by omega)
              have hbl := hr.lt (by omega)
              have hcap := hr.cap
              have hmax := hr.max
              obtain ⟨a1, a2, a3⟩ := c3 hr hlt
              clear hr
              have HS := hide (pyTo_succ HT.out)
              have HN := hide (payB_no (xs := xs) (ps := ps) (k := p) (by rw [HLX.out]; exact hlt))
              generalize xs.getD p sh0 = x at *
              obtain ⟨x1, x2, x3⟩ := x
              dsimp only at a1 a2 a3
              go_wp2_with fail
              have HB2 := hide (HB.out.alloc HB.out.size (.cells #[.int .i64 x1, .int .i64 x2, .int .i64 x3] 57))
              have hK := Bk.born wr 57 #[.int .i64 x1, .int .i64 x2, .int .i64 x3]
              have kk1 := hK.at_ 0
              have kk2 := hK.at_ 1
              have kk3 := hK.at_ 2
              simp only [List.getElem?_toArray, List.getElem?_cons_zero, List.getElem?_cons_succ] at kk1 kk2 kk3
              clear hK a1 a2 a3
              have hsz : (wr.alloc (.cells #[.int .i64 x1, .int .i64 x2, .int .i64 x3] 57)).heap.size = wr.heap.size + 1 := by simp
              generalize hwa : wr.alloc (.cells #[.int .i64 x1, .int .i64 x2, .int .i64 x3] 57) = wa at *
              clear hwa
              have hg : wr.heap.size < wa.heap.size := by omega
              clear hsz
              by_cases hlow : paidBy ps (x1, x2, x3) < x3
              · have HEK := hide (errP_no HE.out HLL.out HK.out (HN.out hlow))
                have HV := hide (posV_no HEK.out (by decide))
                clear HS HN
                go_region_held3 (fun w' => w'.cell? ⟨wr.heap.size, 0, none⟩ = some (.int .i64 x1) ∧ w'.cell? ⟨wr.heap.size, 1, none⟩ = some (.int .i64 x2) ∧ w'.cell? ⟨wr.heap.size, 2, none⟩ = some (.int .i64 x3))
                  (first
                    | go_keep
                    | (go_split_ands
                       refine ⟨?_, ?_, ?_⟩ <;> (rw [hb8.cell (by simp; omega)]; assumption)))
                  (first
                    | (go_at_call 84; refine (paid_any _ _ _ _ _ _ ps _ (HR.out.below (below_drewN HB2.out 1) (Nat.le_refl _)) hl HPA.out).mono ?_; rintro e8 w8 ⟨rfl, hb8⟩))
                all_goals
                  have B8 := hide ((below_drewN HB2.out 1).trans (hb8.mono (by simp; exact HB2.out.size)))
                  clear hb8
                  go_wp2_with fail
                  go_ret2
                  exact ⟨by rw [HV.out, HEK.out]; rfl, B8.out⟩
              · have HT2 := hide (HS.out (by omega))
                clear HS HN
                go_region_held3 (fun w' => w'.cell? ⟨wr.heap.size, 0, none⟩ = some (.int .i64 x1) ∧ w'.cell? ⟨wr.heap.size, 1, none⟩ = some (.int .i64 x2) ∧ w'.cell? ⟨wr.heap.size, 2, none⟩ = some (.int .i64 x3))
                  (first
                    | go_keep
                    | (go_split_ands
                       refine ⟨?_, ?_, ?_⟩ <;> (rw [hb8.cell (by simp; omega)]; assumption)))
                  (first
                    | (go_at_call 84; refine (paid_any _ _ _ _ _ _ ps _ (HR.out.below (below_drewN HB2.out 1) (Nat.le_refl _)) hl HPA.out).mono ?_; rintro e8 w8 ⟨rfl, hb8⟩))
                all_goals
                  have B8 := hide ((below_drewN HB2.out 1).trans (hb8.mono (by simp; exact HB2.out.size)))
                  clear hb8
                  go_wp2_with fail
                  go_roundw
                  case rel => exact ⟨p + 1, by omega, by go_num, HT2, B8⟩
                  case measure => simp [intOf]; omega
            · obtain rfl : p = n := by omega
              have HC := hide (errP_ok HE.out HLL.out HK.out (pyTo_all HLX.out HT.out))
              have HV := hide (posV_ok HC.out)
              go_wp2_with fail
              go_ret2
              exact ⟨by rw [HV.out, HC.out]; rfl, HB.out⟩
    · have HN := hide (errP_len HE.out (xs := xs) (ps := ps) (by rw [HLR.out]; exact hl))
      have HV := hide (posV_no HN.out (by decide))
      have hl' : (12 : Int) < (n' : Int) := by omega
      go_enter Try.func42, Try.ntmps42
      go_wp2_with (go_at_call 23; refine (Validate_any _ _ _ xs _ HX.out hn).mono ?_; rintro e w1 ⟨rfl, b1⟩; rw [HE.out])
      all_goals first
        | omega
        | (go_ret2; exact ⟨by rw [HV.out, HN.out]; rfl, b1⟩)
  · have HN := hide (errP_v (ps := ps) he)
    have HV := hide (posV_no HN.out he)
    have hne : (errV xs != 0) = true := by simpa using he
    clear he
    go_enter Try.func42, Try.ntmps42
    go_wp2_with (go_at_call 23; refine (Validate_any _ _ _ xs _ HX.out hn).mono ?_; rintro e w1 ⟨rfl, b1⟩)
    go_ret2
    exact ⟨by rw [HV.out, HN.out]; rfl, b1⟩
end Go.Proofs.Ytpkjgnllkaafkaa
