/- Walks: a box that begins in another state, on both sides. -/
import Derived.Test.YtkjnhdkbojcojaaWalkV
namespace Go.Proofs.Ytkjnhdkbojcojaa
open Go.RowKit Go.Shelf
attribute [local go_sem] Oper.semAt_some

/-- The error of a box and a state. -/
def errS (b : Bx) (s : Int) : Int := if errX b = 0 then (if inB b.2.length s = true then 0 else 4) else errX b
theorem errS_bad {b : Bx} (h : ¬ errX b = 0) (s : Int) : errS b s = errX b := if_neg h
theorem errS_none {b : Bx} (h : errX b = 0) {s : Int} (hs : inB b.2.length s = false) : errS b s = 4 := by rw [errS, if_pos h, if_neg (by simp [hs])]
theorem errS_fine {b : Bx} (h : errX b = 0) {s : Int} (hs : inB b.2.length s = true) : errS b s = 0 := by rw [errS, if_pos h, if_pos hs]
theorem errS_ok {b : Bx} {s : Int} (h : errS b s = 0) : Okx b ∧ 0 ≤ s ∧ s < b.2.length := by
  unfold errS at h
  by_cases h1 : errX b = 0
  · rw [if_pos h1] at h
    by_cases h2 : inB b.2.length s = true
    · exact ⟨okx_of h1, inB_iff.1 h2⟩
    · rw [if_neg h2] at h; omega
  · rw [if_neg h1] at h; exact absurd h h1
set_option maxHeartbeats 2000000 in
theorem validateState_any (A : Option Addr) (n c : Nat) (A' : Option Addr) (n' c' : Nat) (b : Bx) (s : Int) (w : World) (h : BxR w A n c A' n' c' b) :
    Calls Try.prog 69 #[bV A n c A' n' c', .int .i64 s] w fun e w' => e = .returned (.int .i64 (errS b s)) ∧ Below w.heap.size w w' := by
  have HB0 := hide ((Below.refl w.heap.size w).alloc (Nat.le_refl _) (.cells #[.slice A n c, .slice A' n' c'] 25))
  have HK0 := hide (Bk.born w 25 #[.slice A n c, .slice A' n' c'])
  have HR0 := hide (h.below HB0.out (Nat.le_refl _))
  have HOL := hide h.ou.length
  clear h
  by_cases he : errX b = 0
  · have hee : (errX b != 0) = false := by simp [he]
    have HE := hide he
    clear he
    cases hs : inB n' s with
    | true =>
      have HS := hide hs
      have HV := hide (errS_fine HE.out (s := s) (by rw [HOL.out]; exact hs))
      clear hs
      go_enter Try.func69, Try.ntmps69
      go_wp2_with (first
        | (go_at_call 64; refine (isState_any A n c A' n' c' s _).mono ?_; rintro e w2 ⟨rfl, b2⟩; rw [HS.out]; have D2 := hide b2; clear b2)
        | (go_at_call 25; refine (Validate_any _ _ _ _ _ _ b _ HR0.out).mono ?_; rintro e w1 ⟨rfl, D1⟩; have f1 := bk_two (HK0.out.keep D1 HK0.out.in_); have B1 := hide D1; clear D1))
      go_ret
      exact ⟨ret_i64 HV.out.symm, le_call (le_call HB0.out B1.out) D2.out⟩
    | false =>
      have HS := hide hs
      have HV := hide (errS_none HE.out (s := s) (by rw [HOL.out]; exact hs))
      clear hs
      go_enter Try.func69, Try.ntmps69
      go_wp2_with (first
        | (go_at_call 64; refine (isState_any A n c A' n' c' s _).mono ?_; rintro e w2 ⟨rfl, b2⟩; rw [HS.out]; have D2 := hide b2; clear b2)
        | (go_at_call 25; refine (Validate_any _ _ _ _ _ _ b _ HR0.out).mono ?_; rintro e w1 ⟨rfl, D1⟩; have f1 := bk_two (HK0.out.keep D1 HK0.out.in_); have B1 := hide D1; clear D1))
      go_ret
      exact ⟨ret_i64 HV.out.symm, le_call (le_call HB0.out B1.out) D2.out⟩
  · have hee : (errX b != 0) = true := by simp [he]
    have HV := hide (errS_bad he s)
    clear he
    go_enter Try.func69, Try.ntmps69
    go_wp2_with (go_at_call 25; refine (Validate_any _ _ _ _ _ _ b _ HR0.out).mono ?_; rintro e w1 ⟨rfl, D1⟩; have B1 := hide D1; clear D1)
    go_ret
    exact ⟨ret_i64 HV.out.symm, le_call HB0.out B1.out⟩
set_option maxHeartbeats 2000000 in
theorem rstate_any (A : Option Addr) (n c : Nat) (A' : Option Addr) (n' c' : Nat) (b : Bx) (s : Int) (w : World) (h : BxR w A n c A' n' c' b) :
    Calls Try.prog 70 #[bV A n c A' n' c', .int .i64 s] w fun e w' => e = .returned (.int .i64 (errS b s)) ∧ Below w.heap.size w w' := by
  have HB0 := hide ((Below.refl w.heap.size w).alloc (Nat.le_refl _) (.cells #[.slice A n c, .slice A' n' c'] 25))
  have HK0 := hide (Bk.born w 25 #[.slice A n c, .slice A' n' c'])
  have HR0 := hide (h.below HB0.out (Nat.le_refl _))
  have HOL := hide h.ou.length
  clear h
  by_cases he : errX b = 0
  · have hee : (errX b != 0) = false := by simp [he]
    have HE := hide he
    have hn6 : n' ≤ 6 := by rw [← HOL.out]; exact (okx_of he).n6
    clear he
    have HW := hide (inB_within n' s)
    have wv : IntKind.i64.wrap ((n' : Int) - 1) = (n' : Int) - 1 := IntWalk.i64_in _ (by omega)
    cases hs : inB n' s with
    | true =>
      have HS := hide hs
      have HV := hide (errS_fine HE.out (s := s) (by rw [HOL.out]; exact hs))
      clear hs
      go_enter Try.func70, Try.ntmps70
      go_wp2_with (first
        | (go_at_call 66; refine (within_any s 0 ((n' : Int) - 1) _).mono ?_; rintro e w2 ⟨rfl, b2⟩; rw [HW.out, HS.out]; subst b2)
        | (go_at_call 26; refine (rValidate_any _ _ _ _ _ _ b _ HR0.out).mono ?_; rintro e w1 ⟨rfl, D1⟩; have f1 := bk_two (HK0.out.keep D1 HK0.out.in_); have B1 := hide D1; clear D1))
      go_ret
      exact ⟨ret_i64 HV.out.symm, le_call HB0.out B1.out⟩
    | false =>
      have HS := hide hs
      have HV := hide (errS_none HE.out (s := s) (by rw [HOL.out]; exact hs))
      clear hs
      go_enter Try.func70, Try.ntmps70
      go_wp2_with (first
        | (go_at_call 66; refine (within_any s 0 ((n' : Int) - 1) _).mono ?_; rintro e w2 ⟨rfl, b2⟩; rw [HW.out, HS.out]; subst b2)
        | (go_at_call 26; refine (rValidate_any _ _ _ _ _ _ b _ HR0.out).mono ?_; rintro e w1 ⟨rfl, D1⟩; have f1 := bk_two (HK0.out.keep D1 HK0.out.in_); have B1 := hide D1; clear D1))
      go_ret
      exact ⟨ret_i64 HV.out.symm, le_call HB0.out B1.out⟩
  · have hee : (errX b != 0) = true := by simp [he]
    have HV := hide (errS_bad he s)
    clear he
    go_enter Try.func70, Try.ntmps70
    go_wp2_with (go_at_call 26; refine (rValidate_any _ _ _ _ _ _ b _ HR0.out).mono ?_; rintro e w1 ⟨rfl, D1⟩; have B1 := hide D1; clear D1)
    go_ret
    exact ⟨ret_i64 HV.out.symm, le_call HB0.out B1.out⟩
end Go.Proofs.Ytkjnhdkbojcojaa
