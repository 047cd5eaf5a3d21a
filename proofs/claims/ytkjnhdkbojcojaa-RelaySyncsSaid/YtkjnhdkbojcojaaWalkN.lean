/- Walks: the first one of the shortest words that lead to one and the same state. -/
import Derived.Test.YtkjnhdkbojcojaaWalkM
namespace Go.Proofs.Ytkjnhdkbojcojaa
open Go.RowKit Go.Shelf
attribute [local go_sem] Oper.semAt_some

def syncF (b : Bx) : Option (List Int) := if errX b = 0 then syncW b else none
theorem syncF_ok {b : Bx} (h : errX b = 0) : syncF b = syncW b := if_pos h
theorem syncF_no {b : Bx} (h : ¬ errX b = 0) : syncF b = none := if_neg h
/-- A word, whether there is one, and an error. -/
def FindPost (er : Int) (r : Option (List Int)) (w : World) (e : Ending) (w' : World) : Prop :=
  ∃ A n c, e = .returned (.tuple #[.slice A n c, .bool r.isSome, .int .i64 er]) ∧ Own E1 w' w.heap.size 3 A n c (r.getD []) ∧ Below w.heap.size w w'
set_option maxRecDepth 100000 in
set_option maxHeartbeats 4000000 in
theorem Sync_any (A : Option Addr) (n c : Nat) (A' : Option Addr) (n' c' : Nat) (b : Bx) (w : World) (h : BxR w A n c A' n' c' b) :
    Calls Try.prog 43 #[bV A n c A' n' c'] w (FindPost (errX b) (syncF b) w) := by
  have HB0 := hide ((Below.refl w.heap.size w).alloc (Nat.le_refl _) (.cells #[.slice A n c, .slice A' n' c'] 25))
  have HR0 := hide (h.below HB0.out (Nat.le_refl _))
  have HX0 := hide (BoxAt.born h)
  have HKB := hide (Bk.born w 25 #[.slice A n c, .slice A' n' c'])
  have HN := hide h.ou.length
  clear h
  by_cases he : errX b = 0
  · have hee : (errX b != 0) = false := by simp [he]
    have HE := hide he
    have hok := okx_of he
    have hn6 : n' ≤ 6 := by rw [← HN.out]; exact hok.n6
    have HOK := hide hok
    clear he hok
    have BSA := hide (fun (x : World) => (show Below x.heap.size x (x.alloc (.cells (setA w.heap.size 0) 94)) from le_two (Below.refl _ _) _))
    have BKS := hide (fun (x : World) => Bk.born x 94 (setA w.heap.size 0))
    have HZA := hide (show (#[.pointer (some ⟨w.heap.size, 0, none⟩), .bool false, .bool false, .bool false, .bool false, .bool false, .bool false] : Array Value) = setA w.heap.size 0 from rfl)
    go_enter Try.func43, Try.ntmps43
    go_wp2_with (go_at_call 25; refine (Validate_any _ _ _ _ _ _ b _ HR0.out).mono ?_; rintro e w1 ⟨rfl, D1⟩; have f1 := bk_two (HKB.out.keep D1 HKB.out.in_); have f0 := (HKB.out.keep D1 HKB.out.in_).in_; have HD1 := hide D1; clear D1)
    rw [HZA.out]
    have HK1 := hide (BKS.out w1)
    have HB1 := hide (BSA.out w1)
    have HZ1 := hide (show (w1.alloc (.cells (setA w.heap.size 0) 94)).heap.size = w1.heap.size + 1 from by simp)
    generalize w1.alloc (.cells (setA w.heap.size 0) 94) = W2 at *
    have HBX := hide (HX0.out.below HD1.out (Nat.le_refl _))
    have HKB1 := hide (HKB.out.keep HD1.out HKB.out.in_)
    clear f1
    go_loopw [19] (fun i wr => ∃ k : Nat, k ≤ n' ∧ i = .int .i64 k ∧ Hid (Bk wr w1.heap.size 94 (setA w.heap.size (allS k))) ∧ Hid (Below w1.heap.size w1 wr)) (fun i _ => n' - (intOf i).toNat)
    case atStart => exact ⟨0, Nat.zero_le _, rfl, HK1, HB1⟩
    case round =>
      obtain ⟨k, hk, rfl, HK, HBL⟩ := hrel
      have hcb := bk_two (HKB1.out.keep HBL.out HKB1.out.in_)
      by_cases hlt : k < n'
      · have i1 : (k : Int) < (n' : Int) := by omega
        have i6 : (k : Int) < 6 := by omega
        have hfr := HK.out.fr (1 + k)
        obtain ⟨_, u, hu⟩ := bk_res HK.out (1 + k) (.bool true) (by simp; omega)
        have HP := hide (HK.out.put (1 + k) (.bool true))
        rw [setA_put (by omega)] at HP
        have HAS := hide (show allS (k + 1) = allS k ||| (1 <<< k) from rfl)
        go_wp2_with fail
        go_roundw
        case rel => exact ⟨k + 1, by omega, by go_num, by rw [HAS.out]; exact HP, hide (Below.setCell HBL.out (Nat.le_refl _) _)⟩
        case measure => simp [intOf]; omega
      · obtain rfl : k = n' := by omega
        have hcs := bk_set HK.out
        have HPL := hide (placesS_any w.heap.size (allS k) b _ (HBX.out.below HBL.out (Nat.le_refl _)) HOK.out (allS_lt (by rw [HN.out]; exact Nat.le_refl _)))
        have HWS := hide (show plN (aftS b) (allS k) 64 = syncL b from by rw [syncL, HN.out])
        rw [HWS.out] at HPL
        have hsz := HBL.out.size
        go_wp2_with (first
          | (go_at_call 82; refine HPL.out.mono ?_; rintro e w5 ⟨A5, n5, c5, hs5, rfl, pl5, hn5, b5⟩; have P5 := hide pl5; have B5 := hide b5; clear pl5 b5)
          | (go_at_call 81; refine (firstS_any w.heap.size P5.out (by omega)).mono ?_; rintro e w7 ⟨A7, n7, c7, rfl, o7, b7⟩; have O7 := hide o7; have B7 := hide (B5.out.trans (b7.mono B5.out.size)); clear o7 b7))
        trace_state
        rw [syncF_ok HE.out, HE.out]
        have h1 := O7.out
        refine bodyPost_ret (v := .tuple #[.slice A7 n7 c7, .bool (syncW b).isSome, .int .i64 0]) (by simp [results, Try.results43, go_sem, syncW]) rfl ?_
        have e0 := HD1.out
        have e1 : Below w.heap.size w w1 := le_call HB0.out e0
        exact ⟨A7, n7, c7, rfl, h1.more (Nat.le_trans e1.size HBL.out.size), (e1.trans (HBL.out.mono e1.size)).trans (B7.out.mono (Nat.le_trans e1.size HBL.out.size))⟩
  · have hee : (errX b != 0) = true := by simp [he]
    have HE := hide (syncF_no he)
    clear he
    go_enter Try.func43, Try.ntmps43
    go_wp2_with (go_at_call 25; refine (Validate_any _ _ _ _ _ _ b _ HR0.out).mono ?_; rintro e w1 ⟨rfl, D1⟩)
    rw [HE.out]
    refine bodyPost_ret (v := .tuple #[.slice none 0 0, .bool false, .int .i64 (errX b)]) (by simp [results, Try.results43, go_sem]) rfl ?_
    exact ⟨none, 0, 0, rfl, Own.nil _ _ _ _, le_call HB0.out D1⟩
end Go.Proofs.Ytkjnhdkbojcojaa
