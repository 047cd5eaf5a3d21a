/- EchoHomes: the walk. -/
import Derived.Test.YtllfkhcpdgdmnaaAdm
namespace Go.Proofs.Ytllfkhcpdgdmnaa
open Go.RowKit

theorem madV_at {l : List Int} (h : errM l = 0) : madV l = sortZ l ∧ errC (sortZ l) = 0 := by
  have ht : twoB (sortZ l) = false := by
    rw [← Bool.not_eq_true]
    intro e
    rw [errM_two e] at h
    omega
  rw [errM_one ht] at h
  exact ⟨if_pos (by rw [errM_one ht]; exact h), h⟩
theorem homes {xs ys : List Int} (h1 : errS (fun x y => x + y) xs ys = 0) (h2 : errS (fun x y => x - y) xs ys = 0) :
    samV (cmbV (fun x y => x + y) xs ys) (cmbV (fun x y => x - y) xs ys) = true ∧ errB (cmbV (fun x y => x + y) xs ys) (cmbV (fun x y => x - y) xs ys) = 0 ∧ (cmbV (fun x y => x + y) xs ys).length = xs.length * ys.length := by
  have hb : errB xs ys = 0 := by
    by_cases h : errB xs ys = 0
    · exact h
    · rw [errS_no _ h] at h1
      exact h1
  rw [errS_ok _ hb] at h1 h2
  obtain ⟨a1, a2⟩ := madV_at h1
  obtain ⟨b1, b2⟩ := madV_at h2
  rw [cmbV_ok _ hb, cmbV_ok _ hb, a1, b1]
  have he : errB (sortZ (cmb (fun x y => x + y) xs ys)) (sortZ (cmb (fun x y => x - y) xs ys)) = 0 := by unfold errB; rw [if_pos a2]; exact b2
  refine ⟨?_, he, by rw [sortZ_len, cmb_len]⟩
  rw [samV_ok he, beq_iff_eq]
  refine dif_same (sortZ_sorted _) (sortZ_sorted _) (by rw [sortZ_len, sortZ_len, cmb_len, cmb_len]) fun d => ?_
  rw [ad_perm d (sortZ_perm _), ad_perm d (sortZ_perm _), ad_homes]
set_option maxRecDepth 100000 in
set_option maxHeartbeats 4000000 in
theorem EchoHomes_walk (A : Option Addr) (n c : Nat) (xs : List Int) (A' : Option Addr) (n' c' : Nat) (ys : List Int) (w : World) (h : R E1 w A n c xs) (h' : R E1 w A' n' c' ys) :
    Calls Try.prog 13 #[.slice A n c, .slice A' n' c'] w fun e w' => e = .returned (.bool true) ∧ Below w.heap.size w w' := by
  have HX := hide h
  have HY := hide h'
  have HL := hide h.length
  have HL' := hide h'.length
  have hm9 := h.le
  have hm9' := h'.le
  have HCP := hide (cmbV_len (fun x y => x + y) xs ys)
  have HCM := hide (cmbV_len (fun x y => x - y) xs ys)
  clear h h'
  by_cases hn : 100 < n ∨ 100 < n'
  · have HLn := hide (show (decide (100 < n) || decide (100 < n')) = true from by simpa using hn)
    go_enter Try.func13, Try.ntmps13
    go_wp2_with (first
      | (go_at_call 18; refine (Long2_any A n c A' n' c' w hm9 hm9').mono ?_; rintro e w1 ⟨rfl, b1⟩; have D1 := hide b1; clear b1; rw [HLn.out])
      | (go_at_call 19; refine (sane_any _).mono ?_; rintro e w2 ⟨rfl, b2⟩; have D2 := hide b2; clear b2))
    go_ret
    exact ⟨rfl, (le_call D1.out D2.out)⟩
  · have HLn := hide (show (decide (100 < n) || decide (100 < n')) = false from by simp; omega)
    by_cases hp : errS (fun x y => x + y) xs ys = 0
    · have HP := hide hp
      by_cases hq : errS (fun x y => x - y) xs ys = 0
      · have HM := hide hq
        have HS := hide (homes hp hq)
        have hnn : n * n' ≤ 10000 := Nat.mul_le_mul (show n ≤ 100 by omega) (show n' ≤ 100 by omega)
        have hcast : (n : Int) * (n' : Int) = ((n * n' : Nat) : Int) := (Int.natCast_mul n n').symm
        have hwr : IntKind.i64.wrap ((n : Int) * (n' : Int)) = (n : Int) * (n' : Int) := IntWalk.i64_in _ (by omega)
        clear hp hq hcast
        go_enter Try.func13, Try.ntmps13
        go_wp2_with (first
          | (go_at_call 18; refine (Long2_any A n c A' n' c' w hm9 hm9').mono ?_; rintro e w1 ⟨rfl, b1⟩; have D1 := hide b1; clear b1; rw [HLn.out])
          | (go_at_call 48; refine (Plus_any A n c xs A' n' c' ys _ (HX.out.below D1.out (Nat.le_refl _)) (HY.out.below D1.out (Nat.le_refl _)) (by omega) (by omega)).mono ?_; rw [HP.out]; rintro e w2 ⟨A2, n2, c2, rfl, o2, b2⟩; have D2 := hide b2; have O2 := hide o2; have HN2 := hide o2.len; clear o2 b2)
          | (go_at_call 50; refine (Minus_any A n c xs A' n' c' ys _ ((HX.out.below D1.out (Nat.le_refl _)).below D2.out (Nat.le_refl _)) ((HY.out.below D1.out (Nat.le_refl _)).below D2.out (Nat.le_refl _)) (by omega) (by omega)).mono ?_; rw [HM.out]; rintro e w3 ⟨A3, n3, c3, rfl, o3, b3⟩; have D3 := hide b3; have O3 := hide o3; have HN3 := hide o3.len; clear o3 b3)
          | (go_at_call 29; refine (Same_any A2 n2 c2 (cmbV (fun x y => x + y) xs ys) A3 n3 c3 (cmbV (fun x y => x - y) xs ys) _ (O2.out.row.below D3.out (Nat.le_refl _)) O3.out.row (by have h1 := HN2.out; have h2 := HCP.out; omega) (by have h1 := HN3.out; have h2 := HCM.out; omega)).mono ?_; rw [HS.out.1, HS.out.2.1]; rintro e w4 ⟨rfl, b4⟩; have D4 := hide b4; clear b4; obtain rfl : n2 = n * n' := (by rw [← HN2.out, HS.out.2.2, HL.out, HL'.out]))
          | (go_at_call 19; refine (sane_any _).mono ?_; rintro e w5 ⟨rfl, b5⟩; have D5 := hide b5; clear b5))
        go_ret
        exact ⟨ret_bool (by simp), (le_call (le_call (le_call (le_call D1.out D2.out) D3.out) D4.out) D5.out)⟩
      · have hm : (errS (fun x y => x - y) xs ys != 0) = true := by simpa using hq
        clear hp hq
        go_enter Try.func13, Try.ntmps13
        go_wp2_with (first
          | (go_at_call 18; refine (Long2_any A n c A' n' c' w hm9 hm9').mono ?_; rintro e w1 ⟨rfl, b1⟩; have D1 := hide b1; clear b1; rw [HLn.out])
          | (go_at_call 48; refine (Plus_any A n c xs A' n' c' ys _ (HX.out.below D1.out (Nat.le_refl _)) (HY.out.below D1.out (Nat.le_refl _)) (by omega) (by omega)).mono ?_; rw [HP.out]; rintro e w2 ⟨A2, n2, c2, rfl, o2, b2⟩; have D2 := hide b2; have O2 := hide o2; have HN2 := hide o2.len; clear o2 b2)
          | (go_at_call 50; refine (Minus_any A n c xs A' n' c' ys _ ((HX.out.below D1.out (Nat.le_refl _)).below D2.out (Nat.le_refl _)) ((HY.out.below D1.out (Nat.le_refl _)).below D2.out (Nat.le_refl _)) (by omega) (by omega)).mono ?_; rintro e w3 ⟨A3, n3, c3, rfl, o3, b3⟩; have D3 := hide b3; have O3 := hide o3; have HN3 := hide o3.len; clear o3 b3)
          | (go_at_call 19; refine (sane_any _).mono ?_; rintro e w4 ⟨rfl, b4⟩; have D4 := hide b4; clear b4))
        go_ret
        exact ⟨rfl, (le_call (le_call (le_call D1.out D2.out) D3.out) D4.out)⟩
    · have hm : (errS (fun x y => x + y) xs ys != 0) = true := by simpa using hp
      clear hp
      go_enter Try.func13, Try.ntmps13
      go_wp2_with (first
        | (go_at_call 18; refine (Long2_any A n c A' n' c' w hm9 hm9').mono ?_; rintro e w1 ⟨rfl, b1⟩; have D1 := hide b1; clear b1; rw [HLn.out])
        | (go_at_call 48; refine (Plus_any A n c xs A' n' c' ys _ (HX.out.below D1.out (Nat.le_refl _)) (HY.out.below D1.out (Nat.le_refl _)) (by omega) (by omega)).mono ?_; rintro e w2 ⟨A2, n2, c2, rfl, o2, b2⟩; have D2 := hide b2; have O2 := hide o2; have HN2 := hide o2.len; clear o2 b2)
        | (go_at_call 50; refine (Minus_any A n c xs A' n' c' ys _ ((HX.out.below D1.out (Nat.le_refl _)).below D2.out (Nat.le_refl _)) ((HY.out.below D1.out (Nat.le_refl _)).below D2.out (Nat.le_refl _)) (by omega) (by omega)).mono ?_; rintro e w3 ⟨A3, n3, c3, rfl, o3, b3⟩; have D3 := hide b3; have O3 := hide o3; have HN3 := hide o3.len; clear o3 b3)
        | (go_at_call 19; refine (sane_any _).mono ?_; rintro e w4 ⟨rfl, b4⟩; have D4 := hide b4; clear b4))
      go_ret
      exact ⟨rfl, (le_call (le_call (le_call D1.out D2.out) D3.out) D4.out)⟩
end Go.Proofs.Ytllfkhcpdgdmnaa
