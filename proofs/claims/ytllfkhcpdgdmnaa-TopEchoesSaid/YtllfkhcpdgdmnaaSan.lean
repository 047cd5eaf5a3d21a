/- Rows that are the same, and the chapter's examples. -/
import Derived.Test.YtllfkhcpdgdmnaaDls
import Derived.Deep.RegionWith
namespace Go.Proofs.Ytllfkhcpdgdmnaa
open Go.RowKit

/-- The slice value reads as rows. -/
def RowsR (w : World) (A : Option Addr) (n c : Nat) (rows : List (List Int)) : Prop :=
  ∃ hs : List Hd, R EH w A n c hs ∧ rows.length = n ∧ ∀ i, i < n → R E1 w (hs.getD i EH.d).1 (hs.getD i EH.d).2.1 (hs.getD i EH.d).2.2 (rows.getD i [])
theorem cH {w : World} {A : Option Addr} {n c b off : Nat} {hs : List Hd} (h : RAt EH w A n c hs b off) {k : Nat} (hk : k < n) : w.cell? ⟨b, off + k, none⟩ = some (.slice (hs.getD k EH.d).1 (hs.getD k EH.d).2.1 (hs.getD k EH.d).2.2) := by
  have h1 := h.cell k hk 0 (by decide)
  rw [show k * EH.size + 0 = k from Nat.mul_one k] at h1
  exact h1
theorem RowsR.below {w w' : World} {A : Option Addr} {n c : Nat} {rows : List (List Int)} (h : RowsR w A n c rows) (hb : Below w.heap.size w w') : RowsR w' A n c rows := by
  obtain ⟨hs, h1, h2, h3⟩ := h
  exact ⟨hs, h1.below hb (Nat.le_refl _), h2, fun i hi => (h3 i hi).below hb (Nat.le_refl _)⟩
theorem rows_end {xs ys : List (List Int)} (hl : xs.length = ys.length) (h : ∀ i, i < xs.length → xs.getD i [] = ys.getD i []) : xs = ys := by
  apply List.ext_getElem hl
  intro i h1 h2
  have := h i h1
  simpa [List.getD_eq_getElem?_getD, h1, h2] using this
theorem R.drewN {α : Type} {E : Enc α} {w : World} {A : Option Addr} {n c : Nat} {xs : List α} (h : R E w A n c xs) (q : Nat) : R E (w.drewN q) A n c xs := h.below (below_drewN (Below.refl _ _) q) (Nat.le_refl _)
theorem same_quiet {w : World} {A : Option Addr} {n c : Nat} {A' : Option Addr} {n' c' : Nat} {xs ys : List Int} {v : Bool} (h : R E1 w A n c xs) (h' : R E1 w A' n' c' ys) (hn : n ≤ 100000) (hn' : n' ≤ 100000) (hv : (xs == ys) = v) (q : Nat) :
    Calls Try.prog 26 #[.slice A n c, .slice A' n' c'] (w.drewN q) fun e w'' => e = .returned (.bool v) ∧ ∃ m, w'' = w.drewN m := by
  subst hv
  refine (SameInts_any A n c A' n' c' xs ys (w.drewN q) (h.drewN q) (h'.drewN q) hn hn').mono ?_
  rintro e w' ⟨rfl, m, rfl⟩
  exact ⟨rfl, q + m, by rw [World.drewN_drewN]⟩
theorem same_quiet2 {w : World} {A : Option Addr} {n c : Nat} {A' : Option Addr} {n' c' : Nat} {xs ys : List Int} {v : Bool} (h : R E1 w A n c xs) (h' : R E1 w A' n' c' ys) (hn : n ≤ 100000) (hn' : n' ≤ 100000) (hv : (xs == ys) = v) (a q : Nat) :
    Calls Try.prog 26 #[.slice A n c, .slice A' n' c'] (w.drewN (a + q)) fun e w'' => e = .returned (.bool v) ∧ ∃ m, w'' = w.drewN (a + m) := by
  subst hv
  refine (SameInts_any A n c A' n' c' xs ys (w.drewN (a + q)) (h.drewN _) (h'.drewN _) hn hn').mono ?_
  rintro e w' ⟨rfl, m, rfl⟩
  exact ⟨rfl, q + m, by rw [World.drewN_drewN, Nat.add_assoc]⟩
set_option maxRecDepth 100000 in
set_option maxHeartbeats 2000000 in
theorem SameRows_any (A : Option Addr) (n c : Nat) (A' : Option Addr) (n' c' : Nat) (xs ys : List (List Int)) (w : World) (h : RowsR w A n c xs) (h' : RowsR w A' n' c' ys) (hn : n ≤ 1000000000) (hx : ∀ i, i < n → (xs.getD i []).length ≤ 1000) (hy : ∀ i, i < n' → (ys.getD i []).length ≤ 1000) :
    Calls Try.prog 41 #[.slice A n c, .slice A' n' c'] w fun e w' => e = .returned (.bool (xs == ys)) ∧ ∃ q, w' = w.drewN q := by
  obtain ⟨hs, h1, h2, h3⟩ := h
  obtain ⟨hs', h1', h2', h3'⟩ := h'
  have H2 := hide h2
  have H2' := hide h2'
  by_cases hnn : n = n'
  · subst hnn
    obtain ⟨b, off, hr⟩ := h1
    obtain ⟨b', off', hr'⟩ := h1'
    have HR := hide hr
    have HR' := hide hr'
    have HX := hide hx
    have HY := hide hy
    have H3 := hide h3
    have H3' := hide h3'
    have hcap := hr.cap
    have hmax := hr.max
    have hcap' := hr'.cap
    have hmax' := hr'.max
    clear hr hr' hx hy h3 h3'
    go_enter Try.func41, Try.ntmps41
    go_wp2_with fail
    go_loopw [5] (fun i wr => ∃ k q : Nat, k ≤ n ∧ i = .int .i64 k ∧ wr = w.drewN q ∧ Hid (∀ j, j < k → xs.getD j [] = ys.getD j [])) (fun i _ => n - (intOf i).toNat)
    case atStart => exact ⟨0, 0, Nat.zero_le _, rfl, rfl, fun j hj => absurd hj (Nat.not_lt_zero j)⟩
    case round =>
      obtain ⟨k, q, hk, rfl, rfl, HS⟩ := hrel
      by_cases hlt : k < n
      · obtain rfl := HR.out.at_ (by omega)
        obtain rfl := HR'.out.at_ (by omega)
        have hbl := HR.out.lt (by omega)
        have hbl' := HR'.out.lt (by omega)
        have a1 := cH HR.out hlt
        have d1 := cH HR'.out hlt
        have i1 : (k : Int) < (n : Int) := by omega
        have r1 := H3.out k hlt
        have r2 := H3'.out k hlt
        have l1 := HX.out k hlt
        have l2 := HY.out k hlt
        have hxn := r1.length
        have hyn := r2.length
        have HR1 := hide r1
        have HR2 := hide r2
        clear r1 r2
        have HK := hide (fun (h : (xs.getD k [] == ys.getD k []) = true) j (hj : j < k + 1) => (show xs.getD j [] = ys.getD j [] from by
          by_cases e : j = k
          · subst e; exact eq_of_beq h
          · exact HS.out j (by omega)))
        have HN := hide (fun (h : (xs.getD k [] == ys.getD k []) = false) => (show (xs == ys) = false from by
          rw [beq_eq_false_iff_ne]; intro e; rw [e] at h; simp at h))
        generalize hs.getD k EH.d = hd at *
        generalize hs'.getD k EH.d = hd' at *
        obtain ⟨A1, n1, c1'⟩ := hd
        obtain ⟨A2, n2, c2'⟩ := hd'
        dsimp only at *
        cases hv : (xs.getD k [] == ys.getD k []) with
        | true =>
          have HV := hide hv
          clear hv
          go_wp2_with fail
          go_quiet ((go_at_call 26; first | exact same_quiet (HR1.out.drewN _) (HR2.out.drewN _) (by omega) (by omega) HV.out _ | exact same_quiet2 HR1.out HR2.out (by omega) (by omega) HV.out _ _))
          go_wp2_with fail
          go_roundw
          case rel => exact ⟨k + 1, q + nq, by omega, by go_num, by first | rfl | (rw [World.drewN_drewN]), hide (HK.out HV.out)⟩
          case measure => simp [intOf]; omega
        | false =>
          have HV := hide hv
          clear hv
          go_wp2_with fail
          go_quiet ((go_at_call 26; first | exact same_quiet (HR1.out.drewN _) (HR2.out.drewN _) (by omega) (by omega) HV.out _ | exact same_quiet2 HR1.out HR2.out (by omega) (by omega) HV.out _ _))
          go_wp2_with fail
          go_ret
          exact ⟨ret_bool (by rw [HN.out HV.out]), q + nq, by first | rfl | (rw [World.drewN_drewN])⟩
      · obtain rfl : k = n := by omega
        go_wp2_with fail
        go_ret
        exact ⟨ret_bool (by rw [rows_end (H2.out.trans H2'.out.symm) (fun i hi => HS.out i (by rw [H2.out] at hi; exact hi))]; simp), q, rfl⟩
  · have hne : ((n : Int) != (n' : Int)) = true := by simp; omega
    go_enter Try.func41, Try.ntmps41
    go_wp2_with fail
    go_ret
    exact ⟨ret_bool (by symm; rw [beq_eq_false_iff_ne]; intro e; rw [e] at H2; exact hnn (H2.out.symm.trans H2'.out)), 0, rfl⟩
theorem shoV3 : shoV 3 = [0, 1, 4, 6] := by decide +kernel
theorem allV134 : allV [1, 3, 4] = [[0, 1, 4]] := by decide +kernel
theorem minS : sortZ (cmb (fun x y => x - y) [0, 1] [0, 3]) = [-3, -2, 0, 1] :=
  sorted_unique ((sortZ_perm _).trans (by decide +kernel)) (sortZ_sorted _) (by decide +kernel)
theorem minB : errB [0, 1] [0, 3] = 0 := by decide +kernel
theorem minE : errS (fun x y => x - y) [0, 1] [0, 3] = 0 := by
  rw [errS_ok _ minB]
  unfold errM
  rw [minS]
  decide +kernel
theorem minV : cmbV (fun x y => x - y) [0, 1] [0, 3] = [-3, -2, 0, 1] := by
  rw [cmbV_ok _ minB]
  unfold madV
  have h := minE
  rw [errS_ok _ minB] at h
  rw [if_pos h, minS]

/-- A row that is laid anew. -/
theorem lit_row (w : World) (l : List Int) (h : l.length ≤ maxLen) : R E1 (w.alloc (.cells (E1.cells l).toArray 3)) (some ⟨w.heap.size, 0, none⟩) l.length l.length l := (Own.lit (B := w.heap.size) w l (Nat.le_refl _) h).row
theorem short014 : ∀ i, i < 1 → (([[0, 1, 4]] : List (List Int)).getD i []).length ≤ 1000 := fun i hi => by
  obtain rfl : i = 0 := by omega
  decide
theorem le_two {w x : World} (h : Below w.heap.size w x) (o : Obj) : Below w.heap.size w (x.alloc o) := h.alloc h.size o
theorem le_call {w x y : World} (h : Below w.heap.size w x) (k : Below x.heap.size x y) : Below w.heap.size w y := h.trans (k.mono h.size)
theorem rows_lit (x : World) : RowsR ((x.alloc (.cells #[.int .i64 0, .int .i64 1, .int .i64 4] 3)).alloc (.cells #[.slice (some ⟨x.heap.size, 0, none⟩) 3 3] 22)) (some ⟨x.heap.size + 1, 0, none⟩) 1 1 [[0, 1, 4]] := by
  have h1 := (Own.lit (E := E1) (B := 0) (e := 3) x [0, 1, 4] (by omega) (by decide)).alloc (.cells #[.slice (some ⟨x.heap.size, 0, none⟩) 3 3] 22)
  have h2 := Own.lit (E := EH) (B := 0) (e := 22) (x.alloc (.cells #[.int .i64 0, .int .i64 1, .int .i64 4] 3)) [(some ⟨x.heap.size, 0, none⟩, 3, 3)] (by omega) (by simp [maxLen])
  rw [show (x.alloc (.cells #[.int .i64 0, .int .i64 1, .int .i64 4] 3)).heap.size = x.heap.size + 1 by simp] at h2
  refine ⟨[(some ⟨x.heap.size, 0, none⟩, 3, 3)], h2.row, rfl, fun i hi => ?_⟩
  obtain rfl : i = 0 := by omega
  exact h1.row
set_option maxRecDepth 100000 in
set_option maxHeartbeats 4000000 in
theorem sane_any (w : World) : Calls Try.prog 19 #[] w fun e w' => e = .returned (.bool true) ∧ Below w.heap.size w w' := by
  have HE := hide (show errD [1, 3, 4] = 0 by decide +kernel)
  have HA := hide allV134
  have HS := hide shoV3
  have HM := hide minV
  have HME := hide minE
  go_enter Try.func19, Try.ntmps19
  go_wp2_with (first
    | (go_at_call 37; refine (All_any _ 3 3 [1, 3, 4] _ (lit_row w [1, 3, 4] (by decide)) (by omega)).mono ?_; rw [HE.out, HA.out]; rintro e w1 ⟨A1, n1, c1, hs1, rfl, o1, l1, r1, b1⟩; obtain rfl : n1 = 1 := l1.symm; have D1 := hide (le_call ((Below.refl _ w).alloc (Nat.le_refl _) _) b1); have HR1 := hide (show RowsR w1 A1 1 c1 [[0, 1, 4]] from ⟨hs1, o1.row, rfl, fun i hi => (r1 i hi).row⟩); clear o1 r1 b1 l1)
    | (go_at_call 50; refine (Minus_any _ 2 2 [0, 1] _ 2 2 [0, 3] _ ((lit_row w1 [0, 1] (by decide)).below ((Below.refl _ _).alloc (Nat.le_refl _) _) (Nat.le_refl _)) (by have h := lit_row (w1.alloc (.cells #[.int .i64 0, .int .i64 1] 3)) [0, 3] (by decide); rwa [show (w1.alloc (.cells #[.int .i64 0, .int .i64 1] 3)).heap.size = w1.heap.size + 1 by simp] at h) (by omega) (by omega)).mono ?_; rw [HM.out, HME.out]; rintro e w2 ⟨A2, n2, c2, rfl, o2, b2⟩; obtain rfl : n2 = 4 := o2.len.symm; have D2 := hide (le_call (((Below.refl _ w1).alloc (Nat.le_refl _) _).alloc (by simp) _) b2); have HR2 := hide o2.row; clear o2 b2)
    | (go_at_call 42; refine (Shortest_any 3 4 rfl (by omega) _).mono ?_; rw [HS.out]; rintro e w3 ⟨A3, n3, c3, rfl, o3, b3⟩; obtain rfl : n3 = 4 := o3.len.symm; have D3 := hide b3; have HR3 := hide o3.row; clear o3 b3)
    | (go_at_call 41; refine (SameRows_any _ 1 _ _ 1 1 [[0, 1, 4]] [[0, 1, 4]] _ (((HR1.out.below D2.out).below D3.out).below (le_two (le_two (Below.refl _ w3) _) _)) (rows_lit w3) (by omega) short014 short014).mono ?_; rintro e w4 ⟨rfl, q4, hw4⟩; have D4 := hide (show Below w3.heap.size w3 w4 from by rw [hw4]; exact below_drewN (le_two (le_two (Below.refl _ w3) _) _) q4); clear hw4; rw [show (([[0, 1, 4]] : List (List Int)) == [[0, 1, 4]]) = true from by decide])
    | (go_at_call_of 26 (Value.slice A2 4 c2); refine (SameInts_any A2 4 c2 _ 4 4 [-3, -2, 0, 1] [-3, -2, 0, 1] _ (((HR2.out.below D3.out (Nat.le_refl _)).below D4.out (Nat.le_refl _)).below (le_two (Below.refl _ w4) _) (Nat.le_refl _)) (lit_row w4 [-3, -2, 0, 1] (by decide)) (by omega) (by omega)).mono ?_; rintro e w5 ⟨rfl, q5, hw5⟩; have D5 := hide (show Below w4.heap.size w4 w5 from by rw [hw5]; exact below_drewN (le_two (Below.refl _ w4) _) q5); clear hw5; rw [show (([-3, -2, 0, 1] : List Int) == [-3, -2, 0, 1]) = true from by decide])
    | (go_at_call_of 26 (Value.slice A3 4 c3); refine (SameInts_any A3 4 c3 _ 4 4 [0, 1, 4, 6] [0, 1, 4, 6] _ (((HR3.out.below D4.out (Nat.le_refl _)).below D5.out (Nat.le_refl _)).below (le_two (Below.refl _ w5) _) (Nat.le_refl _)) (lit_row w5 [0, 1, 4, 6] (by decide)) (by omega) (by omega)).mono ?_; rintro e w6 ⟨rfl, q6, hw6⟩; have D6 := hide (show Below w5.heap.size w5 w6 from by rw [hw6]; exact below_drewN (le_two (Below.refl _ w5) _) q6); clear hw6; rw [show (([0, 1, 4, 6] : List Int) == [0, 1, 4, 6]) = true from by decide]))
  go_ret
  exact ⟨rfl, le_call (le_call (le_call (le_call (le_call D1.out D2.out) D3.out) D4.out) D5.out) D6.out⟩
end Go.Proofs.Ytllfkhcpdgdmnaa
