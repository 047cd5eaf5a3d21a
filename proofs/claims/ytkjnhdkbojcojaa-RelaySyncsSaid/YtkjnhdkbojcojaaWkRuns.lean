/- What RelayRuns does at any box and word. -/
import Derived.Test.YtkjnhdkbojcojaaLong
import Derived.Deep.RegionHeldLaw
namespace Go.Proofs.Ytkjnhdkbojcojaa
open Go.RowKit Go.Shelf
attribute [local go_sem] Oper.semAt_some

/-- A row of one header. -/
theorem hd_one (w : World) (x : Hd) : R EH (w.alloc (.cells #[.slice x.1 x.2.1 x.2.2] 23)) (some ⟨w.heap.size, 0, none⟩) 1 1 [x] :=
  (Own.lit (E := EH) (B := w.heap.size) (e := 23) w [x] (Nat.le_refl _) (by simp [maxLen])).row
theorem longB_no {n n' : Nat} {hs : List Hd} (h : longB n n' hs = false) : n ≤ 50 ∧ n' ≤ 50 ∧ ∀ x ∈ hs, x.2.1 ≤ 100 := by
  rw [longB, Bool.or_eq_false_iff, Bool.or_eq_false_iff, List.any_eq_false] at h
  obtain ⟨h1, h2, h3⟩ := h
  refine ⟨by simpa using h2, by simpa using h3, fun x hx => ?_⟩
  have := h1 x hx
  simpa using this
set_option maxRecDepth 100000 in
set_option maxHeartbeats 8000000 in
theorem RelayRuns_walk (A : Option Addr) (n c : Nat) (A' : Option Addr) (n' c' : Nat) (b : Bx) (L : Option Addr) (m d : Nat) (l : List Int) (w : World) (h : BxR w A n c A' n' c' b) (hw : R E1 w L m d l) :
    Calls Try.prog 3 #[bV A n c A' n' c', .slice L m d] w fun e w' => e = .returned (.bool true) ∧ Below w.heap.size w w' := by
  have D0 := hide ((Below.refl w.heap.size w).alloc (Nat.le_refl _) (.cells #[.slice A n c, .slice A' n' c'] 25))
  have HK0 := hide (Bk.born w 25 #[.slice A n c, .slice A' n' c'])
  have HB := hide (h.below D0.out (Nat.le_refl _))
  have hle := h.nx.le
  have hle' := h.ou.le
  have HW := hide (hw.below D0.out (Nat.le_refl _))
  have HML := hide hw.length
  have HH1 := hide (show R EH ((w.alloc (.cells #[.slice A n c, .slice A' n' c'] 25)).alloc (.cells #[.slice L m d] 23)) (some ⟨w.heap.size + 1, 0, none⟩) 1 1 [(L, m, d)] from by
    have := hd_one (w.alloc (.cells #[.slice A n c, .slice A' n' c'] 25)) (L, m, d)
    rwa [show (w.alloc (.cells #[.slice A n c, .slice A' n' c'] 25)).heap.size = w.heap.size + 1 from by simp] at this)
  clear h hw
  cases hlg : longB n n' [(L, m, d)] with
  | true =>
    have HLG := hide hlg
    clear hlg
    go_enter Try.func3, Try.ntmps3
    go_wp2_with (first
      | (have hgd := D1; clear hgd; go_at_call 20; refine (sane_any _).mono ?_; rintro e2 w2 ⟨rfl, b2⟩; have D2 := hide b2; clear b2; have f20 := bk_two (HK0.out.keep (show Below (w.alloc (.cells #[.slice A n c, .slice A' n' c'] 25)).heap.size (w.alloc (.cells #[.slice A n c, .slice A' n' c'] 25)) w2 from (le_call (le_call (Below.refl _ _) D1.out) D2.out)) HK0.out.in_))
      | (have hgd := D0; clear hgd; go_at_call 19; refine (Long_any A n c A' n' c' _ 1 1 [(L, m, d)] _ HH1.out hle hle').mono ?_; rintro e1 w1 ⟨rfl, b1⟩; rw [HLG.out]; have D1 := hide (show Below (w.alloc (.cells #[.slice A n c, .slice A' n' c'] 25)).heap.size (w.alloc (.cells #[.slice A n c, .slice A' n' c'] 25)) w1 from le_call (le_two (Below.refl _ _) _) b1); clear b1; have f10 := bk_two (HK0.out.keep (show Below (w.alloc (.cells #[.slice A n c, .slice A' n' c'] 25)).heap.size (w.alloc (.cells #[.slice A n c, .slice A' n' c'] 25)) w1 from (le_call (Below.refl _ _) D1.out)) HK0.out.in_)))
    go_ret
    exact ⟨rfl, (le_call (le_call D0.out D1.out) D2.out)⟩
  | false =>
    have HLG := hide hlg
    have hm : m ≤ 100 := (longB_no hlg).2.2 (L, m, d) (by simp)
    have HRL := hide (show (runF b l).length ≤ 101 from by
      by_cases e : errW b l = 0
      · rw [runF_ok e, run_len, HML.out]; omega
      · rw [runF_no e]; simp)
    clear hlg
    go_enter Try.func3, Try.ntmps3
    go_wp2_with (first
      | (have hgd := D4; clear hgd; go_at_call 24; refine (rState_any _ _ _ _ _ _ b _ _ _ l _ ((((HB.out.below D1.out (Nat.le_refl _)).below D2.out (Nat.le_refl _)).below D3.out (Nat.le_refl _)).below D4.out (Nat.le_refl _)) ((((HW.out.below D1.out (Nat.le_refl _)).below D2.out (Nat.le_refl _)).below D3.out (Nat.le_refl _)).below D4.out (Nat.le_refl _))).mono ?_; rintro e5 w5 ⟨rfl, b5⟩; have D5 := hide b5; clear b5; have f50 := bk_two (HK0.out.keep (show Below (w.alloc (.cells #[.slice A n c, .slice A' n' c'] 25)).heap.size (w.alloc (.cells #[.slice A n c, .slice A' n' c'] 25)) w5 from (le_call (le_call (le_call (le_call (le_call (Below.refl _ _) D1.out) D2.out) D3.out) D4.out) D5.out)) HK0.out.in_))
      | (have hgd := D3; clear hgd; go_at_call 23; refine (State_any _ _ _ _ _ _ b _ _ _ l _ (((HB.out.below D1.out (Nat.le_refl _)).below D2.out (Nat.le_refl _)).below D3.out (Nat.le_refl _)) (((HW.out.below D1.out (Nat.le_refl _)).below D2.out (Nat.le_refl _)).below D3.out (Nat.le_refl _))).mono ?_; rintro e4 w4 ⟨rfl, b4⟩; have D4 := hide b4; clear b4; have f40 := bk_two (HK0.out.keep (show Below (w.alloc (.cells #[.slice A n c, .slice A' n' c'] 25)).heap.size (w.alloc (.cells #[.slice A n c, .slice A' n' c'] 25)) w4 from (le_call (le_call (le_call (le_call (Below.refl _ _) D1.out) D2.out) D3.out) D4.out)) HK0.out.in_))
      | (have hgd := D2; clear hgd; go_at_call 22; refine (rRun_any _ _ _ _ _ _ b _ _ _ l _ ((HB.out.below D1.out (Nat.le_refl _)).below D2.out (Nat.le_refl _)) ((HW.out.below D1.out (Nat.le_refl _)).below D2.out (Nat.le_refl _))).mono ?_; rintro e3 w3 ⟨A3, n3, c3, rfl, o3, b3⟩; have O3 := hide o3; have HN3 := hide o3.len; clear o3; have D3 := hide b3; clear b3; have f30 := bk_two (HK0.out.keep (show Below (w.alloc (.cells #[.slice A n c, .slice A' n' c'] 25)).heap.size (w.alloc (.cells #[.slice A n c, .slice A' n' c'] 25)) w3 from (le_call (le_call (le_call (Below.refl _ _) D1.out) D2.out) D3.out)) HK0.out.in_))
      | (have hgd := D1; clear hgd; go_at_call 21; refine (Run_any _ _ _ _ _ _ b _ _ _ l _ (HB.out.below D1.out (Nat.le_refl _)) (HW.out.below D1.out (Nat.le_refl _))).mono ?_; rintro e2 w2 ⟨A2, n2, c2, rfl, o2, b2⟩; have O2 := hide o2; have HN2 := hide o2.len; clear o2; have D2 := hide b2; clear b2; have f20 := bk_two (HK0.out.keep (show Below (w.alloc (.cells #[.slice A n c, .slice A' n' c'] 25)).heap.size (w.alloc (.cells #[.slice A n c, .slice A' n' c'] 25)) w2 from (le_call (le_call (Below.refl _ _) D1.out) D2.out)) HK0.out.in_))
      | (have hgd := D0; clear hgd; go_at_call 19; refine (Long_any A n c A' n' c' _ 1 1 [(L, m, d)] _ HH1.out hle hle').mono ?_; rintro e1 w1 ⟨rfl, b1⟩; rw [HLG.out]; have D1 := hide (show Below (w.alloc (.cells #[.slice A n c, .slice A' n' c'] 25)).heap.size (w.alloc (.cells #[.slice A n c, .slice A' n' c'] 25)) w1 from le_call (le_two (Below.refl _ _) _) b1); clear b1; have f10 := bk_two (HK0.out.keep (show Below (w.alloc (.cells #[.slice A n c, .slice A' n' c'] 25)).heap.size (w.alloc (.cells #[.slice A n c, .slice A' n' c'] 25)) w1 from (le_call (Below.refl _ _) D1.out)) HK0.out.in_)))
    have H5 := hide (show Below (w.alloc (.cells #[.slice A n c, .slice A' n' c'] 25)).heap.size (w.alloc (.cells #[.slice A n c, .slice A' n' c'] 25)) w5 from (le_call (le_call (le_call (le_call (le_call (Below.refl _ _) D1.out) D2.out) D3.out) D4.out) D5.out))
    have HS := hide (fun x (hx : Below w5.heap.size w5 x) => bk_two ((HK0.out.keep H5.out HK0.out.in_).keep hx (Nat.lt_of_lt_of_le HK0.out.in_ H5.out.size)))
    have HB5 := hide (HB.out.below H5.out (Nat.le_refl _))
    have h0 := HS.out w5 (Below.refl _ _)
    have d1 := hide (show Below w5.heap.size w5 w5.drew from below_drewN (Below.refl _ _) 1)
    have O2' := hide ((((O2.out.row.below D3.out (Nat.le_refl _)).below D4.out (Nat.le_refl _)).below D5.out (Nat.le_refl _)))
    have O3' := hide (((O3.out.row.below D4.out (Nat.le_refl _)).below D5.out (Nat.le_refl _)))
    have e1 : (errX b == errX b) = true := beq_self_eq_true _
    have e2 : (errW b l == errW b l) = true := beq_self_eq_true _
    have e3 : (endF b l == endF b l) = true := beq_self_eq_true _
    go_region_held_law (fun w' => w'.cell? ⟨w.heap.size, 0, none⟩ = some (.slice A n c) ∧ w'.cell? ⟨w.heap.size, 1, none⟩ = some (.slice A' n' c'))
      (first
        | exact K9.out
        | exact K8.out
        | exact K7.out
        | exact K6.out
        | exact ⟨h0.1, h0.2⟩
        | go_keep)
      (first
        | (have hgd := K8; clear hgd; go_at_call 20; refine (sane_any _).mono ?_; rintro e9 w9 ⟨rfl, b9⟩; have B9 := hide (le_call B8.out b9); have K9 := hide (HS.out w9 B9.out); clear b9)
        | (have hgd := K7; clear hgd; go_at_call 27; refine (SameInts_any A2 n2 c2 A3 n3 c3 (runF b l) (runF b l) _ (O2'.out.below B7.out (Nat.le_refl _)) (O3'.out.below B7.out (Nat.le_refl _)) (by have h1 := HN2.out; have h2 := HRL.out; omega) (by have h1 := HN3.out; have h2 := HRL.out; omega)).mono ?_; rintro e8 w8 ⟨rfl, q8, hw8⟩; have B8 := hide (show Below w5.heap.size w5 w8 from (by rw [hw8]; exact below_drewN B7.out q8)); clear hw8; rw [beq_self_eq_true]; have K8 := hide (HS.out w8 B8.out))
        | (have hgd := K6; clear hgd; go_at_call 26; refine (rValidate_any _ _ _ _ _ _ b _ (HB5.out.below B6.out (Nat.le_refl _))).mono ?_; rintro e7 w7 ⟨rfl, b7⟩; have B7 := hide (le_call B6.out b7); have K7 := hide (HS.out w7 B7.out); clear b7)
        | (go_at_call 25; refine (Validate_any _ _ _ _ _ _ b _ (HB5.out.below d1.out (Nat.le_refl _))).mono ?_; rintro e6 w6 ⟨rfl, b6⟩; have B6 := hide (le_call d1.out b6); have K6 := hide (HS.out w6 B6.out); clear b6))
    all_goals
      go_wp2_with fail
      go_ret
      exact ⟨rfl, le_call (le_call D0.out H5.out) B9.out⟩
end Go.Proofs.Ytkjnhdkbojcojaa
