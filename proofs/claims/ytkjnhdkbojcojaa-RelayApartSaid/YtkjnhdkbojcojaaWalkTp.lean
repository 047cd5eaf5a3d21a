/- Walks: what follows on pairs; the word that tells two states apart. -/
import Derived.Test.YtkjnhdkbojcojaaWalkPm
import Derived.Test.YtkjnhdkbojcojaaWalkL
import Derived.Test.YtkjnhdkbojcojaaMW
namespace Go.Proofs.Ytkjnhdkbojcojaa
open Go.RowKit Go.Shelf
attribute [local go_sem] Oper.semAt_some

set_option maxRecDepth 100000 in
set_option maxHeartbeats 4000000 in
theorem pairTold_any (g g2 : Nat) (a b : Bx) (s t : Nat) (w : World) (h : BoxAt w g a) (h2 : BoxAt w g2 b) (ha : Okx a) (hb : Okx b) (hs : s < a.2.length) (ht : t < b.2.length) :
    Calls Try.prog 103 #[pV g s g2 t] w fun e w' => e = .returned (.bool (toldP a b (s, t))) ∧ Below w.heap.size w w' := by
  have HB0 := hide ((Below.refl w.heap.size w).alloc (Nat.le_refl _) (.cells #[.pointer (some ⟨g, 0, none⟩), .int .i64 (s : Int), .pointer (some ⟨g2, 0, none⟩), .int .i64 (t : Int)] 91))
  have HQ := hide (Bk.born w 91 #[.pointer (some ⟨g, 0, none⟩), .int .i64 (s : Int), .pointer (some ⟨g2, 0, none⟩), .int .i64 (t : Int)])
  have HX := hide (h.below HB0.out (Nat.le_refl _))
  have HY := hide (h2.below HB0.out (Nat.le_refl _))
  have HM := hide (fun x (hx : Below (w.alloc (.cells #[.pointer (some ⟨g, 0, none⟩), .int .i64 (s : Int), .pointer (some ⟨g2, 0, none⟩), .int .i64 (t : Int)] 91)).heap.size (w.alloc (.cells #[.pointer (some ⟨g, 0, none⟩), .int .i64 (s : Int), .pointer (some ⟨g2, 0, none⟩), .int .i64 (t : Int)] 91)) x) => signal_any g a s x (HX.out.below hx (Nat.le_refl _)) ha hs)
  have HM2 := hide (fun x (hx : Below (w.alloc (.cells #[.pointer (some ⟨g, 0, none⟩), .int .i64 (s : Int), .pointer (some ⟨g2, 0, none⟩), .int .i64 (t : Int)] 91)).heap.size (w.alloc (.cells #[.pointer (some ⟨g, 0, none⟩), .int .i64 (s : Int), .pointer (some ⟨g2, 0, none⟩), .int .i64 (t : Int)] 91)) x) => signal_any g2 b t x (HY.out.below hx (Nat.le_refl _)) hb ht)
  have HC := hide (fun x (hx : Below (w.alloc (.cells #[.pointer (some ⟨g, 0, none⟩), .int .i64 (s : Int), .pointer (some ⟨g2, 0, none⟩), .int .i64 (t : Int)] 91)).heap.size (w.alloc (.cells #[.pointer (some ⟨g, 0, none⟩), .int .i64 (s : Int), .pointer (some ⟨g2, 0, none⟩), .int .i64 (t : Int)] 91)) x) => bk_four (HQ.out.keep hx HQ.out.in_))
  clear h h2 ha hb hs ht
  go_enter Try.func103, Try.ntmps103
  go_wp2_with fail
  generalize w.alloc (.cells #[.pointer (some ⟨g, 0, none⟩), .int .i64 (s : Int), .pointer (some ⟨g2, 0, none⟩), .int .i64 (t : Int)] 91) = W1 at *
  have H0 := HC.out W1 (Below.refl _ _)
  go_region_held_law (fun w' => w'.cell? ⟨w.heap.size, 0, none⟩ = some (.pointer (some ⟨g, 0, none⟩)) ∧ w'.cell? ⟨w.heap.size, 1, none⟩ = some (.int .i64 (s : Int)) ∧ w'.cell? ⟨w.heap.size, 2, none⟩ = some (.pointer (some ⟨g2, 0, none⟩)) ∧ w'.cell? ⟨w.heap.size, 3, none⟩ = some (.int .i64 (t : Int)))
    (first
      | exact K7.out
      | exact K5.out
      | exact ⟨H0.1, H0.2.1, H0.2.2.1, H0.2.2.2⟩
      | go_keep)
    (first
      | (have hgd := K5; clear hgd; go_at_call 61; refine (HM2.out w5 B5.out).mono ?_; rintro e7 w7 ⟨rfl, b7⟩; have B7 := hide (B5.out.trans (b7.mono B5.out.size)); have K7 := hide (HC.out w7 B7.out); clear b7)
      | (go_at_call 61; refine (HM.out W1.drew (below_drewN (Below.refl _ _) 1)).mono ?_; rintro e5 w5 ⟨rfl, b5⟩; have B5 := hide (show Below W1.heap.size W1 w5 from (below_drewN (Below.refl _ _) 1).trans b5); have K5 := hide (HC.out w5 B5.out); clear b5))
  go_wp2_with fail
  go_ret
  exact ⟨ret_bool (rfl), HB0.out.trans (B7.out.mono HB0.out.size)⟩
set_option maxRecDepth 100000 in
set_option maxHeartbeats 4000000 in
theorem pairAfter_any (g g2 : Nat) (a b : Bx) (s t : Nat) (k : Int) (w : World) (h : BoxAt w g a) (h2 : BoxAt w g2 b) (ha : Okx a) (hb : Okx b) (hs : s < a.2.length) (ht : t < b.2.length) (hk : k = 0 ∨ k = 1) :
    Calls Try.prog 102 #[pV g s g2 t, .int .i64 k] w fun e w' => e = .returned (pV g (aft a s k) g2 (aft b t k)) ∧ Below w.heap.size w w' := by
  have HB0 := hide (show Below w.heap.size w ((w.alloc (.cells #[.pointer (some ⟨g, 0, none⟩), .int .i64 (s : Int), .pointer (some ⟨g2, 0, none⟩), .int .i64 (t : Int)] 91)).alloc (.cells #[.pointer none, .int .i64 0, .pointer none, .int .i64 0] 91)) from le_two (le_two (Below.refl _ _) _) _)
  have HQ := hide ((Bk.born w 91 #[.pointer (some ⟨g, 0, none⟩), .int .i64 (s : Int), .pointer (some ⟨g2, 0, none⟩), .int .i64 (t : Int)]).more (.cells #[.pointer none, .int .i64 0, .pointer none, .int .i64 0] 91))
  have HZ := hide (Bk.born (w.alloc (.cells #[.pointer (some ⟨g, 0, none⟩), .int .i64 (s : Int), .pointer (some ⟨g2, 0, none⟩), .int .i64 (t : Int)] 91)) 91 #[.pointer none, .int .i64 0, .pointer none, .int .i64 0])
  rw [show (w.alloc (.cells #[.pointer (some ⟨g, 0, none⟩), .int .i64 (s : Int), .pointer (some ⟨g2, 0, none⟩), .int .i64 (t : Int)] 91)).heap.size = w.heap.size + 1 from by simp] at HZ
  have HX := hide (h.below HB0.out (Nat.le_refl _))
  have HY := hide (h2.below HB0.out (Nat.le_refl _))
  have HHK := hide hk
  have HM := hide (fun x (hx : Below ((w.alloc (.cells #[.pointer (some ⟨g, 0, none⟩), .int .i64 (s : Int), .pointer (some ⟨g2, 0, none⟩), .int .i64 (t : Int)] 91)).alloc (.cells #[.pointer none, .int .i64 0, .pointer none, .int .i64 0] 91)).heap.size ((w.alloc (.cells #[.pointer (some ⟨g, 0, none⟩), .int .i64 (s : Int), .pointer (some ⟨g2, 0, none⟩), .int .i64 (t : Int)] 91)).alloc (.cells #[.pointer none, .int .i64 0, .pointer none, .int .i64 0] 91)) x) => after_any g a s k x (HX.out.below hx (Nat.le_refl _)) ha hs hk)
  have HM2 := hide (fun x (hx : Below ((w.alloc (.cells #[.pointer (some ⟨g, 0, none⟩), .int .i64 (s : Int), .pointer (some ⟨g2, 0, none⟩), .int .i64 (t : Int)] 91)).alloc (.cells #[.pointer none, .int .i64 0, .pointer none, .int .i64 0] 91)).heap.size ((w.alloc (.cells #[.pointer (some ⟨g, 0, none⟩), .int .i64 (s : Int), .pointer (some ⟨g2, 0, none⟩), .int .i64 (t : Int)] 91)).alloc (.cells #[.pointer none, .int .i64 0, .pointer none, .int .i64 0] 91)) x) => after_any g2 b t k x (HY.out.below hx (Nat.le_refl _)) hb ht hk)
  clear h h2 ha hb hs ht hk
  generalize aft a s k = s' at *
  generalize aft b t k = t' at *
  go_enter Try.func102, Try.ntmps102
  go_wp2_with fail
  generalize (w.alloc (.cells #[.pointer (some ⟨g, 0, none⟩), .int .i64 (s : Int), .pointer (some ⟨g2, 0, none⟩), .int .i64 (t : Int)] 91)).alloc (.cells #[.pointer none, .int .i64 0, .pointer none, .int .i64 0] 91) = W1 at *
  have HC := hide (fun x (hx : Below W1.heap.size W1 x) => bk_four (HQ.out.keep hx HQ.out.in_))
  have H0 := HC.out W1 (Below.refl _ _)
  have hin := HQ.out.in_
  go_region_held_law (fun w' => w'.cell? ⟨w.heap.size, 0, none⟩ = some (.pointer (some ⟨g, 0, none⟩)) ∧ w'.cell? ⟨w.heap.size, 1, none⟩ = some (.int .i64 (s : Int)) ∧ w'.cell? ⟨w.heap.size, 2, none⟩ = some (.pointer (some ⟨g2, 0, none⟩)) ∧ w'.cell? ⟨w.heap.size, 3, none⟩ = some (.int .i64 (t : Int)))
    (first
      | exact K8.out
      | exact K7.out
      | exact K5.out
      | exact ⟨H0.1, H0.2.1, H0.2.2.1, H0.2.2.2⟩
      | go_keep)
    (first
      | (have hgd := K5; clear hgd; go_at_call 74; refine (HM2.out w5 B5.out).mono ?_; rintro e7 w7 ⟨rfl, b7⟩; have B7 := hide (B5.out.trans (b7.mono B5.out.size)); have K7 := hide (HC.out w7 B7.out); have KZ := hide (HZ.out.keep B7.out HZ.out.in_); have z0 := KZ.out.fr 0; have z1 := KZ.out.fr 1; have z2 := KZ.out.fr 2; have z3 := KZ.out.fr 3; have z4 := bk_four KZ.out; have K8 := hide (bk_four (((((HQ.out.keep B7.out HQ.out.in_).apart (p := ⟨w.heap.size + 1, 0, none⟩) (Nat.ne_of_lt (Nat.lt_succ_self _)) (.pointer (some ⟨g, 0, none⟩))).apart (p := ⟨w.heap.size + 1, 1, none⟩) (Nat.ne_of_lt (Nat.lt_succ_self _)) (.int .i64 (s' : Int))).apart (p := ⟨w.heap.size + 1, 2, none⟩) (Nat.ne_of_lt (Nat.lt_succ_self _)) (.pointer (some ⟨g2, 0, none⟩))).apart (p := ⟨w.heap.size + 1, 3, none⟩) (Nat.ne_of_lt (Nat.lt_succ_self _)) (.int .i64 (t' : Int)))); clear b7)
      | (go_at_call 74; refine (HM.out W1.drew (below_drewN (Below.refl _ _) 1)).mono ?_; rintro e5 w5 ⟨rfl, b5⟩; have B5 := hide (show Below W1.heap.size W1 w5 from (below_drewN (Below.refl _ _) 1).trans b5); have K5 := hide (HC.out w5 B5.out); clear b5))
  all_goals
    go_wp2_with fail
    have HF := hide ((((KZ.out.put 0 (.pointer (some ⟨g, 0, none⟩))).put 1 (.int .i64 (s' : Int))).put 2 (.pointer (some ⟨g2, 0, none⟩))).put 3 (.int .i64 (t' : Int)))
    have hf := bk_four HF.out
    have hbl := HB0.out.trans (B7.out.mono HB0.out.size)
    refine bodyPost_ret (v := pV g s' g2 t') (by simp [results, Try.results102, go_sem, hf]) rfl ⟨rfl, ?_⟩
    exact Below.setCell (Below.setCell (Below.setCell (Below.setCell hbl (by simp) _) (by simp) _) (by simp) _) (by simp) _
end Go.Proofs.Ytkjnhdkbojcojaa
