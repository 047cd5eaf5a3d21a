/- EchoForms: the walk. -/
import Derived.Test.YtllfkhcpdgdmnaaRct
namespace Go.Proofs.Ytllfkhcpdgdmnaa
open Go.RowKit

theorem hit_sub (d t u v : Int) : hit d (u - t) (v - t) = hit d u v := by
  unfold hit
  have : (u - t - (v - t)).natAbs = (u - v).natAbs := by congr 1; omega
  rw [this]
theorem hit_neg (d e u v : Int) : hit d (e - u) (e - v) = hit d u v := by
  unfold hit
  have : (e - u - (e - v)).natAbs = (u - v).natAbs := by omega
  rw [this]
theorem sh0_sorted {c : List Int} (h : c.Pairwise (· ≤ ·)) : (sh0 c).Pairwise (· ≤ ·) := by
  unfold sh0
  rw [List.pairwise_map]
  exact h.imp fun h => by omega
theorem mir_sorted {c : List Int} (h : c.Pairwise (· ≤ ·)) : (mir c).Pairwise (· ≤ ·) := by
  unfold mir
  rw [List.pairwise_map, List.pairwise_reverse]
  exact h.imp fun h => by omega
theorem ad_sh0 (d : Int) (c : List Int) : ad d (sh0 c) = ad d c := ad_map d _ (fun u v => hit_sub d _ u v) c
theorem ad_mir (d : Int) (c : List Int) : ad d (mir c) = ad d c := (ad_map d _ (fun u v => hit_neg d _ u v) _).trans (ad_perm d (List.reverse_perm c))
theorem nor_sorted {c : List Int} (h : c.Pairwise (· ≤ ·)) : (norF c).Pairwise (· ≤ ·) := by
  unfold norF
  split
  · exact sh0_sorted h
  · exact mir_sorted (sh0_sorted h)
theorem ad_nor (d : Int) (c : List Int) : ad d (norF c) = ad d c := by
  unfold norF
  split
  · exact ad_sh0 d c
  · rw [ad_mir, ad_sh0]
theorem nor_dif {c : List Int} (h : c.Pairwise (· ≤ ·)) : sortZ (dif (norF c)) = sortZ (dif c) :=
  dif_same (nor_sorted h) h (norF_len c) fun d => ad_nor d c
theorem errC_sorted {xs : List Int} (h : errC xs = 0) : xs.Pairwise (· ≤ ·) := lt_le (okTo_sorted (errC_ok.1 h).2.2.1)
theorem alike_same (xs ys : List Int) : (!alkV xs ys || samV xs ys) = true := by
  by_cases h : errB xs ys = 0
  · obtain ⟨h1, h2⟩ := errB_ok h
    rw [alkV_ok h, samV_ok h]
    cases hh : (norF xs == norF ys) with
    | false => rfl
    | true =>
      have e := eq_of_beq hh
      have e2 : sortZ (dif xs) = sortZ (dif ys) := by rw [← nor_dif (errC_sorted h1), ← nor_dif (errC_sorted h2), e]
      rw [e2]
      simp
  · rw [alkV_no h]
    rfl
theorem norV_len (xs : List Int) : (norV xs).length ≤ 36 := by
  by_cases h : errC xs = 0
  · rw [norV_ok h, norF_len]
    have := (errC_ok.1 h).2.1
    omega
  · rw [norV_no h]
    simp
set_option maxRecDepth 100000 in
set_option maxHeartbeats 4000000 in
theorem EchoForms_walk (A : Option Addr) (n c : Nat) (xs : List Int) (A' : Option Addr) (n' c' : Nat) (ys : List Int) (w : World) (h : R E1 w A n c xs) (h' : R E1 w A' n' c' ys) :
    Calls Try.prog 4 #[.slice A n c, .slice A' n' c'] w fun e w' => e = .returned (.bool true) ∧ Below w.heap.size w w' := by
  have HX := hide h
  have HY := hide h'
  have hm9 := h.le
  have hm9' := h'.le
  have HNV := hide (norV_len xs)
  have HAS := hide (alike_same xs ys)
  clear h h'
  by_cases hn : 100 < n ∨ 100 < n'
  · have HLn := hide (show (decide (100 < n) || decide (100 < n')) = true from by simpa using hn)
    go_enter Try.func4, Try.ntmps4
    go_wp2_with (first
      | (go_at_call 18; refine (Long2_any A n c A' n' c' w hm9 hm9').mono ?_; rintro e w1 ⟨rfl, b1⟩; have D1 := hide b1; clear b1; rw [HLn.out])
      | (go_at_call 19; refine (sane_any _).mono ?_; rintro e w2 ⟨rfl, b2⟩; have D2 := hide b2; clear b2))
    go_ret
    exact ⟨rfl, (le_call D1.out D2.out)⟩
  · have HLn := hide (show (decide (100 < n) || decide (100 < n')) = false from by simp; omega)
    generalize hu : alkV xs ys = u at HAS
    generalize hs : samV xs ys = s at HAS
    have HU := hide hu
    have HSS := hide hs
    clear hu hs
    cases u with
    | true =>
      obtain rfl : s = true := by simpa using HAS.out
      go_enter Try.func4, Try.ntmps4
      go_wp2_with (first
        | (go_at_call 18; refine (Long2_any A n c A' n' c' w hm9 hm9').mono ?_; rintro e w1 ⟨rfl, b1⟩; have D1 := hide b1; clear b1; rw [HLn.out])
        | (go_at_call 27; refine (Normal_any A n c xs _ (HX.out.below D1.out (Nat.le_refl _)) (by omega)).mono ?_; rintro e w2 ⟨A2, n2, c2, rfl, o2, b2⟩; have D2 := hide b2; have O2 := hide o2; have HN2 := hide o2.len; clear o2 b2)
        | (go_at_call 28; refine (rNormal_any A n c xs _ ((HX.out.below D1.out (Nat.le_refl _)).below D2.out (Nat.le_refl _)) (by omega)).mono ?_; rintro e w3 ⟨A3, n3, c3, rfl, o3, b3⟩; have D3 := hide b3; have O3 := hide o3; have HN3 := hide o3.len; clear o3 b3)
        | (go_at_call 29; refine (Same_any A n c xs A' n' c' ys _ (((HX.out.below D1.out (Nat.le_refl _)).below D2.out (Nat.le_refl _)).below D3.out (Nat.le_refl _)) (((HY.out.below D1.out (Nat.le_refl _)).below D2.out (Nat.le_refl _)).below D3.out (Nat.le_refl _)) (by omega) (by omega)).mono ?_; rw [HSS.out]; rintro e w4 ⟨rfl, b4⟩; have D4 := hide b4; clear b4)
        | (go_at_call 30; refine (rSame_any A n c xs A' n' c' ys _ ((((HX.out.below D1.out (Nat.le_refl _)).below D2.out (Nat.le_refl _)).below D3.out (Nat.le_refl _)).below D4.out (Nat.le_refl _)) ((((HY.out.below D1.out (Nat.le_refl _)).below D2.out (Nat.le_refl _)).below D3.out (Nat.le_refl _)).below D4.out (Nat.le_refl _)) (by omega) (by omega)).mono ?_; rw [HSS.out]; rintro e w5 ⟨rfl, b5⟩; have D5 := hide b5; clear b5)
        | (go_at_call 31; refine (Alike_any A n c xs A' n' c' ys _ (((((HX.out.below D1.out (Nat.le_refl _)).below D2.out (Nat.le_refl _)).below D3.out (Nat.le_refl _)).below D4.out (Nat.le_refl _)).below D5.out (Nat.le_refl _)) (((((HY.out.below D1.out (Nat.le_refl _)).below D2.out (Nat.le_refl _)).below D3.out (Nat.le_refl _)).below D4.out (Nat.le_refl _)).below D5.out (Nat.le_refl _)) (by omega) (by omega)).mono ?_; rw [HU.out]; rintro e w6 ⟨rfl, b6⟩; have D6 := hide b6; clear b6)
        | (go_at_call 32; refine (rAlike_any A n c xs A' n' c' ys _ ((((((HX.out.below D1.out (Nat.le_refl _)).below D2.out (Nat.le_refl _)).below D3.out (Nat.le_refl _)).below D4.out (Nat.le_refl _)).below D5.out (Nat.le_refl _)).below D6.out (Nat.le_refl _)) ((((((HY.out.below D1.out (Nat.le_refl _)).below D2.out (Nat.le_refl _)).below D3.out (Nat.le_refl _)).below D4.out (Nat.le_refl _)).below D5.out (Nat.le_refl _)).below D6.out (Nat.le_refl _)) (by omega) (by omega)).mono ?_; rw [HU.out]; rintro e w7 ⟨rfl, b7⟩; have D7 := hide b7; clear b7)
        | (go_at_call 26; refine (SameInts_any A2 n2 c2 A3 n3 c3 (norV xs) (norV xs) _ (((((O2.out.row.below D3.out (Nat.le_refl _)).below D4.out (Nat.le_refl _)).below D5.out (Nat.le_refl _)).below D6.out (Nat.le_refl _)).below D7.out (Nat.le_refl _)) ((((O3.out.row.below D4.out (Nat.le_refl _)).below D5.out (Nat.le_refl _)).below D6.out (Nat.le_refl _)).below D7.out (Nat.le_refl _)) (by have h1 := HN2.out; have h2 := HNV.out; omega) (by have h1 := HN3.out; have h2 := HNV.out; omega)).mono ?_; rintro e w8 ⟨rfl, q8, hw8⟩; have D8 := hide (show Below w7.heap.size w7 w8 from by rw [hw8]; exact below_drewN (Below.refl _ _) q8); clear hw8; rw [beq_self_eq_true])
        | (go_at_call 19; refine (sane_any _).mono ?_; rintro e w9 ⟨rfl, b9⟩; have D9 := hide b9; clear b9))
      go_ret
      exact ⟨ret_bool (by simp), (le_call (le_call (le_call (le_call (le_call (le_call (le_call (le_call D1.out D2.out) D3.out) D4.out) D5.out) D6.out) D7.out) D8.out) D9.out)⟩
    | false =>
      go_enter Try.func4, Try.ntmps4
      go_wp2_with (first
        | (go_at_call 18; refine (Long2_any A n c A' n' c' w hm9 hm9').mono ?_; rintro e w1 ⟨rfl, b1⟩; have D1 := hide b1; clear b1; rw [HLn.out])
        | (go_at_call 27; refine (Normal_any A n c xs _ (HX.out.below D1.out (Nat.le_refl _)) (by omega)).mono ?_; rintro e w2 ⟨A2, n2, c2, rfl, o2, b2⟩; have D2 := hide b2; have O2 := hide o2; have HN2 := hide o2.len; clear o2 b2)
        | (go_at_call 28; refine (rNormal_any A n c xs _ ((HX.out.below D1.out (Nat.le_refl _)).below D2.out (Nat.le_refl _)) (by omega)).mono ?_; rintro e w3 ⟨A3, n3, c3, rfl, o3, b3⟩; have D3 := hide b3; have O3 := hide o3; have HN3 := hide o3.len; clear o3 b3)
        | (go_at_call 29; refine (Same_any A n c xs A' n' c' ys _ (((HX.out.below D1.out (Nat.le_refl _)).below D2.out (Nat.le_refl _)).below D3.out (Nat.le_refl _)) (((HY.out.below D1.out (Nat.le_refl _)).below D2.out (Nat.le_refl _)).below D3.out (Nat.le_refl _)) (by omega) (by omega)).mono ?_; rw [HSS.out]; rintro e w4 ⟨rfl, b4⟩; have D4 := hide b4; clear b4)
        | (go_at_call 30; refine (rSame_any A n c xs A' n' c' ys _ ((((HX.out.below D1.out (Nat.le_refl _)).below D2.out (Nat.le_refl _)).below D3.out (Nat.le_refl _)).below D4.out (Nat.le_refl _)) ((((HY.out.below D1.out (Nat.le_refl _)).below D2.out (Nat.le_refl _)).below D3.out (Nat.le_refl _)).below D4.out (Nat.le_refl _)) (by omega) (by omega)).mono ?_; rw [HSS.out]; rintro e w5 ⟨rfl, b5⟩; have D5 := hide b5; clear b5)
        | (go_at_call 31; refine (Alike_any A n c xs A' n' c' ys _ (((((HX.out.below D1.out (Nat.le_refl _)).below D2.out (Nat.le_refl _)).below D3.out (Nat.le_refl _)).below D4.out (Nat.le_refl _)).below D5.out (Nat.le_refl _)) (((((HY.out.below D1.out (Nat.le_refl _)).below D2.out (Nat.le_refl _)).below D3.out (Nat.le_refl _)).below D4.out (Nat.le_refl _)).below D5.out (Nat.le_refl _)) (by omega) (by omega)).mono ?_; rw [HU.out]; rintro e w6 ⟨rfl, b6⟩; have D6 := hide b6; clear b6)
        | (go_at_call 32; refine (rAlike_any A n c xs A' n' c' ys _ ((((((HX.out.below D1.out (Nat.le_refl _)).below D2.out (Nat.le_refl _)).below D3.out (Nat.le_refl _)).below D4.out (Nat.le_refl _)).below D5.out (Nat.le_refl _)).below D6.out (Nat.le_refl _)) ((((((HY.out.below D1.out (Nat.le_refl _)).below D2.out (Nat.le_refl _)).below D3.out (Nat.le_refl _)).below D4.out (Nat.le_refl _)).below D5.out (Nat.le_refl _)).below D6.out (Nat.le_refl _)) (by omega) (by omega)).mono ?_; rw [HU.out]; rintro e w7 ⟨rfl, b7⟩; have D7 := hide b7; clear b7)
        | (go_at_call 26; refine (SameInts_any A2 n2 c2 A3 n3 c3 (norV xs) (norV xs) _ (((((O2.out.row.below D3.out (Nat.le_refl _)).below D4.out (Nat.le_refl _)).below D5.out (Nat.le_refl _)).below D6.out (Nat.le_refl _)).below D7.out (Nat.le_refl _)) ((((O3.out.row.below D4.out (Nat.le_refl _)).below D5.out (Nat.le_refl _)).below D6.out (Nat.le_refl _)).below D7.out (Nat.le_refl _)) (by have h1 := HN2.out; have h2 := HNV.out; omega) (by have h1 := HN3.out; have h2 := HNV.out; omega)).mono ?_; rintro e w8 ⟨rfl, q8, hw8⟩; have D8 := hide (show Below w7.heap.size w7 w8 from by rw [hw8]; exact below_drewN (Below.refl _ _) q8); clear hw8; rw [beq_self_eq_true])
        | (go_at_call 19; refine (sane_any _).mono ?_; rintro e w9 ⟨rfl, b9⟩; have D9 := hide b9; clear b9))
      go_ret
      exact ⟨ret_bool (by simp), (le_call (le_call (le_call (le_call (le_call (le_call (le_call (le_call D1.out D2.out) D3.out) D4.out) D5.out) D6.out) D7.out) D8.out) D9.out)⟩
end Go.Proofs.Ytllfkhcpdgdmnaa
