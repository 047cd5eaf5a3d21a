/- Walks: a log from its last sign on, on both sides. -/
import Derived.Test.YtndfdminjegldaaWalkL
import Derived.Ground.NamesProg
import Derived.Shelf.Slices.Reverse
import Derived.Sort.OwnSortedInts
namespace Go.Proofs.Ytndfdminjegldaa
open Go.RowKit Go.Shelf Go.Sort
attribute [local go_sem] Oper.semAt_some

def revRen : Go.Shelf.Ren := ⟨fun | 112 => 80 | n => n, fun | 28 => 22 | 3 => 3 | 4 => 4 | 0 => 0 | n => n, fun | n => n⟩
theorem revLays : Lays.n112 Try.prog revRen where
  mixed := by kernel_rfl
  f112 := Try.func80.trans (congrArg some (by kernel_rfl))
  t0 := Try.underlying0
  a0 := Try.isAgg0
  z0 := Try.sizeOf0
  v0 := Try.zeroValue0
  t3 := Try.underlying3
  a3 := Try.isAgg3
  z3 := Try.sizeOf3
  v3 := Try.zeroValue3
  t4 := Try.underlying4
  a4 := Try.isAgg4
  z4 := Try.sizeOf4
  v4 := Try.zeroValue4
  t28 := Try.underlying22
  a28 := Try.isAgg22
  z28 := Try.sizeOf22
  v28 := Try.zeroValue22
theorem cells_E1 (l : List Int) : E1.cells l = l.map (Value.int .i64) := by
  induction l with
  | nil => rfl
  | cons x l ih => simp [Enc.cells, E1] at ih ⊢; exact ih
set_option maxHeartbeats 400000 in
theorem ReverseI_any (A : Option Addr) (B n c : Nat) (l : List Int) (w : World) (h : Own E1 w B 3 A n c l) (hB : B ≤ w.heap.size) (hn : n ≤ 1000000) :
    Calls Try.prog 80 #[.slice A n c] w fun e w' => e = .returned (.tuple #[]) ∧ Own E1 w' B 3 A n c l.reverse ∧ Below B w w' := by
  have hl := h.len
  rcases h.2.2 with ⟨hv, h0⟩ | ⟨g, cap, cur, hv, hb, hg, h1, h2, h3, h4⟩
  · subst h0
    cases hv
    obtain rfl := List.eq_nil_of_length_eq_zero hl
    refine (Any.slices_Reverse_int_empty revLays none 0 w).mono ?_
    rintro e w' ⟨rfl, rfl⟩
    exact ⟨rfl, by simpa using h, Below.refl _ _⟩
  · cases hv
    subst hl
    have h3' : cur.size = c * 1 := h3
    have h4' : cur.toList.take l.length = l.map (Value.int .i64) := by rw [← cells_E1, ← h4]; show _ = List.take (l.length * 1) _; rw [Nat.mul_one]
    refine (Any.slices_Reverse_int revLays g 0 c l w (holds_of_blockI hg h4') (by omega)).mono ?_
    rintro e w' ⟨rfl, k, rfl⟩
    have hgr : ∀ W : World, grow W #[] = W := fun W => by simp [grow]
    have hgb := grownBy_sortedI (w := w) (g := g) (n := k) (os := #[]) l.reverse.toArray
    have how := ownsRow_sortedI (n := k) (os := #[]) (ts := l.reverse) (ss := l) (by simp) hb hg h1 h2 h3'
    rw [hgr] at hgb how
    refine ⟨rfl, ⟨by simp, ?_⟩, (Below.refl B w).grown hgb hB fun j hj => by cases hj; exact hb⟩
    rw [cells_E1]
    exact how
def bacV (xs : List Int) : List Int := if errL xs = 0 then xs.reverse else []
theorem bacV_ok {xs : List Int} (h : errL xs = 0) : bacV xs = xs.reverse := if_pos h
theorem bacV_no {xs : List Int} (h : errL xs ≠ 0) : bacV xs = [] := if_neg h
theorem bac_len (xs : List Int) : (bacV xs).length ≤ 10 := by
  by_cases h : errL xs = 0
  · rw [bacV_ok h, List.length_reverse]; exact (errL_ok.1 h).1
  · rw [bacV_no h]; simp
theorem bac_err {xs : List Int} (h : errL xs = 0) : errL (bacV xs) = 0 := by
  have h1 := errL_ok.1 h
  rw [bacV_ok h, errL_ok, List.length_reverse]
  exact ⟨h1.1, fun x hx => h1.2 x (by simpa using hx)⟩
theorem rev_take {xs : List Int} {t : Nat} (h : t < xs.length) : xs.reverse.take (t + 1) = xs.reverse.take t ++ [xs.getD (xs.length - 1 - t) 0] := by
  rw [List.take_succ_eq_append_getElem (by simpa using h), List.getElem_reverse, List.getD_eq_getElem?_getD, List.getElem?_eq_getElem (by omega)]
  rfl
set_option maxRecDepth 100000 in
set_option maxHeartbeats 2000000 in
theorem Back_any (A : Option Addr) (n c : Nat) (xs : List Int) (w : World) (h : R E1 w A n c xs) :
    Calls Try.prog 47 #[.slice A n c] w (RowPost (errL xs) (bacV xs) w) := by
  have H := hide h
  by_cases he : errL xs = 0
  · have HE := hide he
    have hn : n ≤ 10 := by rw [← h.length]; exact (errL_ok.1 he).1
    have HV := hide (bacV_ok he)
    clear h he
    go_enter Try.func47, Try.ntmps47
    go_wp2_with (first
      | (go_at_call 22; refine (Validate_any A n c xs _ H.out).mono ?_; rintro e w1 ⟨rfl, rfl⟩; rw [HE.out])
      | (go_at_call 79; refine (CloneI_any A n c xs _ H.out (by omega)).mono ?_; rintro e w2 ⟨A2, c2, rfl, o2, b2⟩; have O2 := hide o2; have B2 := hide b2; clear o2 b2)
      | (go_at_call 80; refine (ReverseI_any A2 w.heap.size n c2 xs _ O2.out B2.out.size (by omega)).mono ?_; rintro e w3 ⟨rfl, o3, b3⟩; have O3 := hide o3; have B3 := hide (B2.out.trans b3); clear o3 b3))
    go_ret2
    exact ⟨_, _, _, by rw [HE.out]; rfl, by rw [HV.out]; exact O3.out, B3.out⟩
  · have HV := hide (bacV_no he)
    have hne : (errL xs != 0) = true := by simpa using he
    clear h he
    go_enter Try.func47, Try.ntmps47
    go_wp2_with (go_at_call 22; refine (Validate_any A n c xs _ H.out).mono ?_; rintro e w1 ⟨rfl, rfl⟩)
    go_ret2
    exact ⟨none, 0, 0, rfl, by rw [HV.out]; exact Own.nil _ _ _ _, Below.refl _ _⟩
set_option maxRecDepth 100000 in
set_option maxHeartbeats 2000000 in
theorem rback_any (A : Option Addr) (n c : Nat) (xs : List Int) (w : World) (h : R E1 w A n c xs) (hn : n ≤ 10) :
    Calls Try.prog 81 #[.slice A n c] w (IntsPost xs.reverse w) := by
  have HL := hide h.length
  have H := hide h
  clear h
  go_enter Try.func81, Try.ntmps81
  go_wp2_with fail
  go_loopw [3, 4] (fun v iv wr => ∃ (t : Nat) (B : Option Addr) (q : Nat), t ≤ n ∧ iv = .int .i64 ((n : Int) - 1 - t) ∧ v = .slice B t q ∧ Hid (Own E1 wr w.heap.size 3 B t q (xs.reverse.take t)) ∧ Hid (Below w.heap.size w wr)) (fun _ iv _ => (intOf iv + 1).toNat)
  case atStart => exact ⟨0, none, 0, Nat.zero_le _, by simp, rfl, hide (Own.nil E1 _ _ _), hide (Below.refl _ _)⟩
  case round =>
    obtain ⟨t, B, q, ht, rfl, rfl, HO, HB⟩ := hrel
    by_cases hlt : t < n
    · obtain ⟨b, off, hr⟩ := H.out
      obtain rfl := hr.at_ (by omega)
      have a1 := c1 (hr.below HB.out (Nat.le_refl _)) (k := n - 1 - t) (by omega)
      have HST := hide (rev_take (xs := xs) (t := t) (by rw [HL.out]; exact hlt))
      rw [HL.out] at HST
      have hsz := HB.out.size
      have e1 : (n : Int) - 1 - (t : Int) = ((n - 1 - t : Nat) : Int) := by omega
      rw [e1]
      have i2 : ((n - 1 - t : Nat) : Int) < (n : Int) := by omega
      have HK := hide (show ((n - 1 - t : Nat) : Int) - 1 = (n : Int) - 1 - ((t + 1 : Nat) : Int) from by omega)
      have hkn : n - 1 - t ≤ 10 := by omega
      clear hr e1
      generalize xs.getD (n - 1 - t) 0 = x at *
      generalize n - 1 - t = k at *
      go_wp2_with (at_builtin; refine wpList_app1 (E := E1) wr (.int .i64 0) 8 rfl (.tmp 12) (.tmp 17) 22 3 rfl Try.underlying22 info_int rfl (by decide) (by omega) w.heap.size t q B _ (x : Int) _ rfl rfl rfl HO.out (by omega) hsz ?_; intro A5 q5 w5 o5 b5 g5; have HO5 := hide o5; have B5 := hide (HB.out.trans b5); clear o5 b5 g5)
      go_roundw
      case rel => exact ⟨t + 1, A5, q5, by omega, by rw [HK.out], rfl, hide (by rw [HST.out]; exact HO5.out), B5⟩
      case measure => simp [intOf]
    · obtain rfl : t = n := by omega
      have e1 : (t : Int) - 1 - (t : Int) = -1 := by omega
      have hL : xs.reverse.take t = xs.reverse := by rw [List.take_of_length_le]; rw [List.length_reverse, HL.out]; exact Nat.le_refl _
      rw [hL] at HO
      rw [e1]
      go_wp2_with fail
      go_ret
      exact ⟨_, _, _, rfl, HO.out, HB.out⟩
set_option maxRecDepth 100000 in
set_option maxHeartbeats 2000000 in
theorem rBack_any (A : Option Addr) (n c : Nat) (xs : List Int) (w : World) (h : R E1 w A n c xs) :
    Calls Try.prog 48 #[.slice A n c] w (RowPost (errL xs) (bacV xs) w) := by
  have H := hide h
  by_cases he : errL xs = 0
  · have HE := hide he
    have hn : n ≤ 10 := by rw [← h.length]; exact (errL_ok.1 he).1
    have HV := hide (bacV_ok he)
    clear h he
    go_enter Try.func48, Try.ntmps48
    go_wp2_with (first
      | (go_at_call 23; refine (rValidate_any A n c xs _ H.out).mono ?_; rintro e w1 ⟨rfl, rfl⟩; rw [HE.out])
      | (go_at_call 81; refine (rback_any A n c xs _ H.out hn).mono ?_; rintro e w2 ⟨A2, n2, c2, rfl, o2, b2⟩; have O2 := hide o2; have B2 := hide b2; clear o2 b2))
    go_ret2
    exact ⟨_, _, _, by rw [HE.out]; rfl, by rw [HV.out]; exact O2.out, B2.out⟩
  · have HV := hide (bacV_no he)
    have hne : (errL xs != 0) = true := by simpa using he
    clear h he
    go_enter Try.func48, Try.ntmps48
    go_wp2_with (go_at_call 23; refine (rValidate_any A n c xs _ H.out).mono ?_; rintro e w1 ⟨rfl, rfl⟩)
    go_ret2
    exact ⟨none, 0, 0, rfl, by rw [HV.out]; exact Own.nil _ _ _ _, Below.refl _ _⟩
end Go.Proofs.Ytndfdminjegldaa
