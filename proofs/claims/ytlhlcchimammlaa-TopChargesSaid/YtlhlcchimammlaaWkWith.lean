/- ChargeWith: the walk. -/
import Derived.Test.YtlhlcchimammlaaWalkX
import Derived.Test.YtlhlcchimammlaaSane
namespace Go.Proofs.Ytlhlcchimammlaa
open Go.RowKit Go.Shelf

theorem withV_len (xs : List Int) (x : Int) : (withV xs x).length ≤ 4 := by
  unfold withV
  split
  · rename_i h; exact (withE_ok h).2.2.2.1
  · simp
theorem with_can1 {xs : List Int} {x : Int} (h : withE xs x = 0) {m : Int} (hm : canV xs m = true) : canV (withV xs x) m = true := by
  rw [withV_ok h]
  by_cases he : errA xs m = 0
  · rw [canV_ok (by rw [with_errA h, he])]
    rw [canV_ok he] at hm
    exact with_more h hm
  · rw [canV_no he] at hm; cases hm
theorem with_err1 {xs : List Int} {x : Int} (h : withE xs x = 0) : errA xs x = 0 := errA_fine (errW_vw.2 (withE_ok h).1) (by have := with_new h; omega)
theorem with_can2 {xs : List Int} {x : Int} (h : withE xs x = 0) (hx : canV xs x = true) (m : Int) : canV (withV xs x) m = canV xs m := by
  rw [withV_ok h]
  rw [canV_ok (with_err1 h)] at hx
  by_cases he : errA xs m = 0
  · rw [canV_ok (by rw [with_errA h, he]), canV_ok he]
    exact with_same h hx _
  · rw [canV_no he, canV_no (by rw [with_errA h]; exact he)]
set_option maxRecDepth 100000 in
set_option maxHeartbeats 8000000 in
theorem ChargeWith_walk (A : Option Addr) (n c : Nat) (xs : List Int) (v0 : Int) (v1 : Int) (w : World) (h : R E1 w A n c xs) (hw0 : (Lit.int .i64 v0).wf = true) (hw1 : (Lit.int .i64 v1).wf = true) :
    Calls Try.prog 17 #[.slice A n c, .int .i64 v0, .int .i64 v1] w fun e w' => e = .returned (.bool true) ∧ Below w.heap.size w w' := by
  have HX := hide h
  have HL := hide h.length
  have hm9 := h.le
  by_cases hn : 50 < n
  · have HLn := hide (show decide (50 < n) = true from by simpa using hn)
    clear h
    go_enter Try.func17, Try.ntmps17
    go_wp2_with (first
      | (go_at_call 19; refine (Long1_any A n c w hm9).mono ?_; rintro e w1 ⟨rfl, b1⟩; have D1 := hide b1; clear b1; rw [HLn.out])
      | (go_at_call 20; refine (sane_any _).mono ?_; rintro e w2 ⟨rfl, b2⟩; have D2 := hide b2; clear b2))
    go_ret
    exact ⟨rfl, (le_call D1.out D2.out)⟩
  · have HLn := hide (show decide (50 < n) = false from by simpa using hn)
    clear h
    have HTL := hide (withV_len xs v0)
    by_cases he : withE xs v0 = 0
    · have HE := hide he
      have HEO := hide (with_err1 he)
      have HEY := hide (show errA (withV xs v0) v1 = errA xs v1 from by rw [withV_ok he]; exact with_errA he v1)
      have h1 := with_can1 he (m := v1)
      have h2 := fun hx => with_can2 he hx v1
      clear he
      cases hx : canV xs v1 <;> cases hy : canV (withV xs v0) v1 <;> cases ho : canV xs v0
      · have HCX := hide hx
        have HCY := hide hy
        have HOW := hide ho
        clear h1 h2 hx hy ho
        go_enter Try.func17, Try.ntmps17
        go_wp2_with (first
          | (go_at_call 19; refine (Long1_any A n c w hm9).mono ?_; rintro e w1 ⟨rfl, b1⟩; have D1 := hide b1; clear b1; rw [HLn.out])
          | (go_at_call 54; refine (With_any A n c xs v0 _ (HX.out.below D1.out (Nat.le_refl _))).mono ?_; rintro e w2 ⟨A2, n2, c2, rfl, o2, b2⟩; rw [HE.out]; have D2 := hide b2; have O2 := hide o2; have HN2 := hide o2.len; clear o2 b2)
          | (go_at_call 55; refine (rWith_any A n c xs v0 _ ((HX.out.below D1.out (Nat.le_refl _)).below D2.out (Nat.le_refl _))).mono ?_; rintro e w3 ⟨A3, n3, c3, rfl, o3, b3⟩; rw [HE.out]; have D3 := hide b3; have O3 := hide o3; have HN3 := hide o3.len; clear o3 b3)
          | (go_at_call 36; refine (SameInts_any A2 n2 c2 A3 n3 c3 (withV xs v0) (withV xs v0) _ (O2.out.row.below D3.out (Nat.le_refl _)) O3.out.row (by have h1 := HN2.out; have h2 := HTL.out; omega) (by have h1 := HN3.out; have h2 := HTL.out; omega)).mono ?_; rintro e w4 ⟨rfl, q4, hw4⟩; have D4 := hide (show Below w3.heap.size w3 w4 from by rw [hw4]; exact below_drewN (Below.refl _ _) q4); clear hw4; rw [beq_self_eq_true])
          | (go_at_call_of 27 (Value.int .i64 v0); refine (Can_any A n c xs v0 _ ((((((HX.out.below D1.out (Nat.le_refl _)).below D2.out (Nat.le_refl _)).below D3.out (Nat.le_refl _)).below D4.out (Nat.le_refl _)).below D5.out (Nat.le_refl _)).below D6.out (Nat.le_refl _))).mono ?_; rw [HOW.out, HEO.out]; rintro e w7 ⟨rfl, b7⟩; have D7 := hide b7; clear b7)
          | (go_at_call_of 27 (Value.slice A2 n2 c2); refine (Can_any A2 n2 c2 (withV xs v0) v1 _ ((((O2.out.row.below D3.out (Nat.le_refl _)).below D4.out (Nat.le_refl _)).below D5.out (Nat.le_refl _)))).mono ?_; rw [HCY.out, HEY.out]; rintro e w6 ⟨rfl, b6⟩; have D6 := hide b6; clear b6)
          | (go_at_call 27; refine (Can_any A n c xs v1 _ ((((HX.out.below D1.out (Nat.le_refl _)).below D2.out (Nat.le_refl _)).below D3.out (Nat.le_refl _)).below D4.out (Nat.le_refl _))).mono ?_; rw [HCX.out]; rintro e w5 ⟨rfl, b5⟩; have D5 := hide b5; clear b5)
          | (go_at_call 20; refine (sane_any _).mono ?_; rintro e w8 ⟨rfl, b8⟩; have D8 := hide b8; clear b8))
        go_ret
        exact ⟨ret_bool (by simp), (le_call (le_call (le_call (le_call (le_call (le_call (le_call D1.out D2.out) D3.out) D4.out) D5.out) D6.out) D7.out) D8.out)⟩
      · have HCX := hide hx
        have HCY := hide hy
        have HOW := hide ho
        clear h1 h2 hx hy ho
        go_enter Try.func17, Try.ntmps17
        go_wp2_with (first
          | (go_at_call 19; refine (Long1_any A n c w hm9).mono ?_; rintro e w1 ⟨rfl, b1⟩; have D1 := hide b1; clear b1; rw [HLn.out])
          | (go_at_call 54; refine (With_any A n c xs v0 _ (HX.out.below D1.out (Nat.le_refl _))).mono ?_; rintro e w2 ⟨A2, n2, c2, rfl, o2, b2⟩; rw [HE.out]; have D2 := hide b2; have O2 := hide o2; have HN2 := hide o2.len; clear o2 b2)
          | (go_at_call 55; refine (rWith_any A n c xs v0 _ ((HX.out.below D1.out (Nat.le_refl _)).below D2.out (Nat.le_refl _))).mono ?_; rintro e w3 ⟨A3, n3, c3, rfl, o3, b3⟩; rw [HE.out]; have D3 := hide b3; have O3 := hide o3; have HN3 := hide o3.len; clear o3 b3)
          | (go_at_call 36; refine (SameInts_any A2 n2 c2 A3 n3 c3 (withV xs v0) (withV xs v0) _ (O2.out.row.below D3.out (Nat.le_refl _)) O3.out.row (by have h1 := HN2.out; have h2 := HTL.out; omega) (by have h1 := HN3.out; have h2 := HTL.out; omega)).mono ?_; rintro e w4 ⟨rfl, q4, hw4⟩; have D4 := hide (show Below w3.heap.size w3 w4 from by rw [hw4]; exact below_drewN (Below.refl _ _) q4); clear hw4; rw [beq_self_eq_true])
          | (go_at_call_of 27 (Value.int .i64 v0); refine (Can_any A n c xs v0 _ ((((((HX.out.below D1.out (Nat.le_refl _)).below D2.out (Nat.le_refl _)).below D3.out (Nat.le_refl _)).below D4.out (Nat.le_refl _)).below D5.out (Nat.le_refl _)).below D6.out (Nat.le_refl _))).mono ?_; rw [HOW.out, HEO.out]; rintro e w7 ⟨rfl, b7⟩; have D7 := hide b7; clear b7)
          | (go_at_call_of 27 (Value.slice A2 n2 c2); refine (Can_any A2 n2 c2 (withV xs v0) v1 _ ((((O2.out.row.below D3.out (Nat.le_refl _)).below D4.out (Nat.le_refl _)).below D5.out (Nat.le_refl _)))).mono ?_; rw [HCY.out, HEY.out]; rintro e w6 ⟨rfl, b6⟩; have D6 := hide b6; clear b6)
          | (go_at_call 27; refine (Can_any A n c xs v1 _ ((((HX.out.below D1.out (Nat.le_refl _)).below D2.out (Nat.le_refl _)).below D3.out (Nat.le_refl _)).below D4.out (Nat.le_refl _))).mono ?_; rw [HCX.out]; rintro e w5 ⟨rfl, b5⟩; have D5 := hide b5; clear b5)
          | (go_at_call 20; refine (sane_any _).mono ?_; rintro e w8 ⟨rfl, b8⟩; have D8 := hide b8; clear b8))
        go_ret
        exact ⟨ret_bool (by simp), (le_call (le_call (le_call (le_call (le_call (le_call (le_call D1.out D2.out) D3.out) D4.out) D5.out) D6.out) D7.out) D8.out)⟩
      · have HCX := hide hx
        have HCY := hide hy
        have HOW := hide ho
        clear h1 h2 hx hy ho
        go_enter Try.func17, Try.ntmps17
        go_wp2_with (first
          | (go_at_call 19; refine (Long1_any A n c w hm9).mono ?_; rintro e w1 ⟨rfl, b1⟩; have D1 := hide b1; clear b1; rw [HLn.out])
          | (go_at_call 54; refine (With_any A n c xs v0 _ (HX.out.below D1.out (Nat.le_refl _))).mono ?_; rintro e w2 ⟨A2, n2, c2, rfl, o2, b2⟩; rw [HE.out]; have D2 := hide b2; have O2 := hide o2; have HN2 := hide o2.len; clear o2 b2)
          | (go_at_call 55; refine (rWith_any A n c xs v0 _ ((HX.out.below D1.out (Nat.le_refl _)).below D2.out (Nat.le_refl _))).mono ?_; rintro e w3 ⟨A3, n3, c3, rfl, o3, b3⟩; rw [HE.out]; have D3 := hide b3; have O3 := hide o3; have HN3 := hide o3.len; clear o3 b3)
          | (go_at_call 36; refine (SameInts_any A2 n2 c2 A3 n3 c3 (withV xs v0) (withV xs v0) _ (O2.out.row.below D3.out (Nat.le_refl _)) O3.out.row (by have h1 := HN2.out; have h2 := HTL.out; omega) (by have h1 := HN3.out; have h2 := HTL.out; omega)).mono ?_; rintro e w4 ⟨rfl, q4, hw4⟩; have D4 := hide (show Below w3.heap.size w3 w4 from by rw [hw4]; exact below_drewN (Below.refl _ _) q4); clear hw4; rw [beq_self_eq_true])
          | (go_at_call_of 27 (Value.int .i64 v0); refine (Can_any A n c xs v0 _ ((((((HX.out.below D1.out (Nat.le_refl _)).below D2.out (Nat.le_refl _)).below D3.out (Nat.le_refl _)).below D4.out (Nat.le_refl _)).below D5.out (Nat.le_refl _)).below D6.out (Nat.le_refl _))).mono ?_; rw [HOW.out, HEO.out]; rintro e w7 ⟨rfl, b7⟩; have D7 := hide b7; clear b7)
          | (go_at_call_of 27 (Value.slice A2 n2 c2); refine (Can_any A2 n2 c2 (withV xs v0) v1 _ ((((O2.out.row.below D3.out (Nat.le_refl _)).below D4.out (Nat.le_refl _)).below D5.out (Nat.le_refl _)))).mono ?_; rw [HCY.out, HEY.out]; rintro e w6 ⟨rfl, b6⟩; have D6 := hide b6; clear b6)
          | (go_at_call 27; refine (Can_any A n c xs v1 _ ((((HX.out.below D1.out (Nat.le_refl _)).below D2.out (Nat.le_refl _)).below D3.out (Nat.le_refl _)).below D4.out (Nat.le_refl _))).mono ?_; rw [HCX.out]; rintro e w5 ⟨rfl, b5⟩; have D5 := hide b5; clear b5)
          | (go_at_call 20; refine (sane_any _).mono ?_; rintro e w8 ⟨rfl, b8⟩; have D8 := hide b8; clear b8))
        go_ret
        exact ⟨ret_bool (by simp), (le_call (le_call (le_call (le_call (le_call (le_call (le_call D1.out D2.out) D3.out) D4.out) D5.out) D6.out) D7.out) D8.out)⟩
      · rw [h2 ho, hx] at hy; cases hy
      · rw [h1 hx] at hy; cases hy
      · rw [h1 hx] at hy; cases hy
      · have HCX := hide hx
        have HCY := hide hy
        have HOW := hide ho
        clear h1 h2 hx hy ho
        go_enter Try.func17, Try.ntmps17
        go_wp2_with (first
          | (go_at_call 19; refine (Long1_any A n c w hm9).mono ?_; rintro e w1 ⟨rfl, b1⟩; have D1 := hide b1; clear b1; rw [HLn.out])
          | (go_at_call 54; refine (With_any A n c xs v0 _ (HX.out.below D1.out (Nat.le_refl _))).mono ?_; rintro e w2 ⟨A2, n2, c2, rfl, o2, b2⟩; rw [HE.out]; have D2 := hide b2; have O2 := hide o2; have HN2 := hide o2.len; clear o2 b2)
          | (go_at_call 55; refine (rWith_any A n c xs v0 _ ((HX.out.below D1.out (Nat.le_refl _)).below D2.out (Nat.le_refl _))).mono ?_; rintro e w3 ⟨A3, n3, c3, rfl, o3, b3⟩; rw [HE.out]; have D3 := hide b3; have O3 := hide o3; have HN3 := hide o3.len; clear o3 b3)
          | (go_at_call 36; refine (SameInts_any A2 n2 c2 A3 n3 c3 (withV xs v0) (withV xs v0) _ (O2.out.row.below D3.out (Nat.le_refl _)) O3.out.row (by have h1 := HN2.out; have h2 := HTL.out; omega) (by have h1 := HN3.out; have h2 := HTL.out; omega)).mono ?_; rintro e w4 ⟨rfl, q4, hw4⟩; have D4 := hide (show Below w3.heap.size w3 w4 from by rw [hw4]; exact below_drewN (Below.refl _ _) q4); clear hw4; rw [beq_self_eq_true])
          | (go_at_call_of 27 (Value.int .i64 v0); refine (Can_any A n c xs v0 _ ((((((HX.out.below D1.out (Nat.le_refl _)).below D2.out (Nat.le_refl _)).below D3.out (Nat.le_refl _)).below D4.out (Nat.le_refl _)).below D5.out (Nat.le_refl _)).below D6.out (Nat.le_refl _))).mono ?_; rw [HOW.out, HEO.out]; rintro e w7 ⟨rfl, b7⟩; have D7 := hide b7; clear b7)
          | (go_at_call_of 27 (Value.slice A2 n2 c2); refine (Can_any A2 n2 c2 (withV xs v0) v1 _ ((((O2.out.row.below D3.out (Nat.le_refl _)).below D4.out (Nat.le_refl _)).below D5.out (Nat.le_refl _)))).mono ?_; rw [HCY.out, HEY.out]; rintro e w6 ⟨rfl, b6⟩; have D6 := hide b6; clear b6)
          | (go_at_call 27; refine (Can_any A n c xs v1 _ ((((HX.out.below D1.out (Nat.le_refl _)).below D2.out (Nat.le_refl _)).below D3.out (Nat.le_refl _)).below D4.out (Nat.le_refl _))).mono ?_; rw [HCX.out]; rintro e w5 ⟨rfl, b5⟩; have D5 := hide b5; clear b5)
          | (go_at_call 20; refine (sane_any _).mono ?_; rintro e w8 ⟨rfl, b8⟩; have D8 := hide b8; clear b8))
        go_ret
        exact ⟨ret_bool (by simp), (le_call (le_call (le_call (le_call (le_call (le_call (le_call D1.out D2.out) D3.out) D4.out) D5.out) D6.out) D7.out) D8.out)⟩
      · have HCX := hide hx
        have HCY := hide hy
        have HOW := hide ho
        clear h1 h2 hx hy ho
        go_enter Try.func17, Try.ntmps17
        go_wp2_with (first
          | (go_at_call 19; refine (Long1_any A n c w hm9).mono ?_; rintro e w1 ⟨rfl, b1⟩; have D1 := hide b1; clear b1; rw [HLn.out])
          | (go_at_call 54; refine (With_any A n c xs v0 _ (HX.out.below D1.out (Nat.le_refl _))).mono ?_; rintro e w2 ⟨A2, n2, c2, rfl, o2, b2⟩; rw [HE.out]; have D2 := hide b2; have O2 := hide o2; have HN2 := hide o2.len; clear o2 b2)
          | (go_at_call 55; refine (rWith_any A n c xs v0 _ ((HX.out.below D1.out (Nat.le_refl _)).below D2.out (Nat.le_refl _))).mono ?_; rintro e w3 ⟨A3, n3, c3, rfl, o3, b3⟩; rw [HE.out]; have D3 := hide b3; have O3 := hide o3; have HN3 := hide o3.len; clear o3 b3)
          | (go_at_call 36; refine (SameInts_any A2 n2 c2 A3 n3 c3 (withV xs v0) (withV xs v0) _ (O2.out.row.below D3.out (Nat.le_refl _)) O3.out.row (by have h1 := HN2.out; have h2 := HTL.out; omega) (by have h1 := HN3.out; have h2 := HTL.out; omega)).mono ?_; rintro e w4 ⟨rfl, q4, hw4⟩; have D4 := hide (show Below w3.heap.size w3 w4 from by rw [hw4]; exact below_drewN (Below.refl _ _) q4); clear hw4; rw [beq_self_eq_true])
          | (go_at_call_of 27 (Value.int .i64 v0); refine (Can_any A n c xs v0 _ ((((((HX.out.below D1.out (Nat.le_refl _)).below D2.out (Nat.le_refl _)).below D3.out (Nat.le_refl _)).below D4.out (Nat.le_refl _)).below D5.out (Nat.le_refl _)).below D6.out (Nat.le_refl _))).mono ?_; rw [HOW.out, HEO.out]; rintro e w7 ⟨rfl, b7⟩; have D7 := hide b7; clear b7)
          | (go_at_call_of 27 (Value.slice A2 n2 c2); refine (Can_any A2 n2 c2 (withV xs v0) v1 _ ((((O2.out.row.below D3.out (Nat.le_refl _)).below D4.out (Nat.le_refl _)).below D5.out (Nat.le_refl _)))).mono ?_; rw [HCY.out, HEY.out]; rintro e w6 ⟨rfl, b6⟩; have D6 := hide b6; clear b6)
          | (go_at_call 27; refine (Can_any A n c xs v1 _ ((((HX.out.below D1.out (Nat.le_refl _)).below D2.out (Nat.le_refl _)).below D3.out (Nat.le_refl _)).below D4.out (Nat.le_refl _))).mono ?_; rw [HCX.out]; rintro e w5 ⟨rfl, b5⟩; have D5 := hide b5; clear b5)
          | (go_at_call 20; refine (sane_any _).mono ?_; rintro e w8 ⟨rfl, b8⟩; have D8 := hide b8; clear b8))
        go_ret
        exact ⟨ret_bool (by simp), (le_call (le_call (le_call (le_call (le_call (le_call (le_call D1.out D2.out) D3.out) D4.out) D5.out) D6.out) D7.out) D8.out)⟩
    · have hne : (withE xs v0 != 0) = true := by simpa using he
      clear he
      go_enter Try.func17, Try.ntmps17
      go_wp2_with (first
        | (go_at_call 19; refine (Long1_any A n c w hm9).mono ?_; rintro e w1 ⟨rfl, b1⟩; have D1 := hide b1; clear b1; rw [HLn.out])
        | (go_at_call 54; refine (With_any A n c xs v0 _ (HX.out.below D1.out (Nat.le_refl _))).mono ?_; rintro e w2 ⟨A2, n2, c2, rfl, o2, b2⟩; have D2 := hide b2; have O2 := hide o2; have HN2 := hide o2.len; clear o2 b2)
        | (go_at_call 55; refine (rWith_any A n c xs v0 _ ((HX.out.below D1.out (Nat.le_refl _)).below D2.out (Nat.le_refl _))).mono ?_; rintro e w3 ⟨A3, n3, c3, rfl, o3, b3⟩; have D3 := hide b3; have O3 := hide o3; have HN3 := hide o3.len; clear o3 b3)
        | (go_at_call 36; refine (SameInts_any A2 n2 c2 A3 n3 c3 (withV xs v0) (withV xs v0) _ (O2.out.row.below D3.out (Nat.le_refl _)) O3.out.row (by have h1 := HN2.out; have h2 := HTL.out; omega) (by have h1 := HN3.out; have h2 := HTL.out; omega)).mono ?_; rintro e w4 ⟨rfl, q4, hw4⟩; have D4 := hide (show Below w3.heap.size w3 w4 from by rw [hw4]; exact below_drewN (Below.refl _ _) q4); clear hw4; rw [beq_self_eq_true])
        | (go_at_call 20; refine (sane_any _).mono ?_; rintro e w5 ⟨rfl, b5⟩; have D5 := hide b5; clear b5))
      go_ret
      exact ⟨ret_bool (by simp), (le_call (le_call (le_call (le_call D1.out D2.out) D3.out) D4.out) D5.out)⟩
end Go.Proofs.Ytlhlcchimammlaa
