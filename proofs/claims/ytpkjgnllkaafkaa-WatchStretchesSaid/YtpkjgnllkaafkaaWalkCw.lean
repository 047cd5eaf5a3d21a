/- Covered and Spells of the program; equal lists of shifts. -/
import Derived.Test.YtpkjgnllkaafkaaWalkSp
namespace Go.Proofs.Ytpkjgnllkaafkaa
open Go.RowKit

set_option maxHeartbeats 1000000 in
theorem SameShifts_self (A : Option Addr) (n c : Nat) (A' : Option Addr) (n' c' : Nat) (v : Ls) (w : World) (h : R E3 w A n c v) (h' : R E3 w A' n' c' v) (hn : n ≤ 100000) :
    Calls Try.prog 49 #[.slice A n c, .slice A' n' c'] w fun e w' => e = .returned (.bool true) ∧ Below w.heap.size w w' := by
  have e1 := h.length
  have e2 := h'.length
  obtain rfl : n' = n := by omega
  clear e1 e2
  obtain ⟨b, off, hr⟩ := h
  obtain ⟨b', off', hr'⟩ := h'
  have HR := hide hr
  have HR' := hide hr'
  have hcap := hr.cap
  have hmax := hr.max
  have hcap' := hr'.cap
  have hmax' := hr'.max
  clear hr hr'
  go_enter Try.func49, Try.ntmps49
  go_wp2_with fail
  go_loopw [5] (fun i wr => ∃ k q : Nat, k ≤ n' ∧ i = .int .i64 k ∧ wr = w.drewN q) (fun i _ => n' - (intOf i).toNat)
  case atStart => exact ⟨0, 0, Nat.zero_le _, rfl, rfl⟩
  case round =>
    obtain ⟨k, q, hk, rfl, rfl⟩ := hrel
    by_cases hlt : k < n'
    · obtain rfl := HR.out.at_ (by omega)
      obtain rfl := HR'.out.at_ (by omega)
      have hbl := HR.out.lt (by omega)
      have hbl' := HR'.out.lt (by omega)
      obtain ⟨a1, a2, a3⟩ := c3 HR.out hlt
      obtain ⟨d1, d2, d3⟩ := c3 HR'.out hlt
      have i1 : (k : Int) < (n' : Int) := by omega
      generalize v.getD k sh0 = x at *
      obtain ⟨x1, x2, x3⟩ := x
      dsimp only at a1 a2 a3 d1 d2 d3
      go_wp2_with fail
      go_quiet (fail)
      go_wp2_with fail
      go_roundw
      case rel => exact ⟨k + 1, q + nq, by omega, by go_num, by first | rfl | (rw [World.drewN_drewN])⟩
      case measure => simp [intOf]; omega
    · go_wp2_with fail
      go_ret
      exact ⟨rfl, below_drewN (Below.refl _ _) _⟩
def lenTo (P : Ls) (k : Nat) : Int := lenSp (P.take k)
theorem lenTo_zero (P : Ls) : lenTo P 0 = 0 := by simp [lenTo, lenSp]
theorem lenTo_succ {P : Ls} {k : Nat} (h : k < P.length) : lenTo P (k + 1) = lenTo P k + ((P.getD k sh0).2.1 - (P.getD k sh0).1) := by
  have e : P.getD k sh0 = P[k] := by simp [List.getD_eq_getElem?_getD, h]
  unfold lenTo
  rw [List.take_succ_eq_append_getElem h, e]
  unfold lenSp
  rw [List.map_append, List.sum_append]
  simp only [List.map_cons, List.map_nil, List.sum_cons, List.sum_nil]
  omega
theorem lenTo_all {P : Ls} {n : Nat} (h : P.length = n) : lenTo P n = lenSp P := by unfold lenTo; rw [List.take_of_length_le (by omega)]
theorem lenTo_bd {P : Ls} (h : Gap P) : ∀ (k : Nat), 0 ≤ lenTo P k ∧ lenTo P k ≤ 1000 * k
  | 0 => by rw [lenTo_zero]; omega
  | k + 1 => by
    have ih := lenTo_bd h k
    by_cases hk : k < P.length
    · rw [lenTo_succ hk]
      have e : P.getD k sh0 = P[k] := by simp [List.getD_eq_getElem?_getD, hk]
      have := h.each P[k] (List.getElem_mem hk)
      rw [e]
      omega
    · have e : lenTo P (k + 1) = lenTo P k := by unfold lenTo; rw [List.take_of_length_le (by omega), List.take_of_length_le (by omega)]
      rw [e]; omega
theorem gap_get {P : Ls} (h : Gap P) {k : Nat} (hk : k < P.length) : 0 ≤ (P.getD k sh0).1 ∧ (P.getD k sh0).1 < (P.getD k sh0).2.1 ∧ (P.getD k sh0).2.1 ≤ 1000 := by
  have e : P.getD k sh0 = P[k] := by simp [List.getD_eq_getElem?_getD, hk]
  have := h.each P[k] (List.getElem_mem hk)
  rw [e]
  omega

set_option maxHeartbeats 2000000 in
theorem Covered_any (A : Option Addr) (n c : Nat) (xs : Ls) (w : World) (h : R E3 w A n c xs) (hn : n ≤ 1000) :
    Calls Try.prog 45 #[.slice A n c] w (CvPost xs w) := by
  by_cases he : errV xs = 0
  · have HE := hide he
    have HX := hide h
    have hle := errV_le he
    have hl := h.length
    clear he h
    go_enter Try.func45, Try.ntmps45
    go_wp2_with (first
        | (go_at_call 23; refine (Validate_any _ _ _ xs _ HX.out hn).mono ?_; rintro e w1 ⟨rfl, b1⟩; rw [HE.out]; have B1 := hide b1; clear b1)
        | (go_at_call 85; refine (spells_any _ _ _ xs _ (HX.out.below B1.out (Nat.le_refl _)) HE.out).mono ?_; rintro e w2 ⟨A2, n2, c2, P, rfl, hP, o2, b2⟩; have HP := hide hP; have O2 := hide o2; clear hP o2; have B2 := hide (B1.out.trans (b2.mono B1.out.size)); clear b2))
    have HL2 := hide O2.out.len
    have hn2 : n2 ≤ 12 := by have h1 := HP.out.len; have h2 := HL2.out; omega
    have hs2 := B2.out.size
    clear hle hl
    go_loopw [5, 16] (fun a i wr => ∃ k : Nat, k ≤ n2 ∧ i = .int .i64 k ∧ a = .int .i64 (lenTo P k) ∧ Hid (Below w2.heap.size w2 wr)) (fun _ i _ => n2 - (intOf i).toNat)
    case atStart => exact ⟨0, Nat.zero_le _, rfl, by rw [lenTo_zero], hide (Below.refl _ _)⟩
    case round =>
      obtain ⟨k, hk, rfl, rfl, HB⟩ := hrel
      by_cases hlt : k < n2
      · obtain ⟨g, rfl, hg1, hg2, hg3, hg4⟩ := O2.out.addr (by omega)
        have hg4' : c2 ≤ 9223372036854775807 := hg4
        obtain ⟨a1, a2, a3⟩ := own3 (O2.out.below HB.out (Nat.le_refl _)) hlt
        have HS := hide (@lenTo_succ P k (by rw [HL2.out]; exact hlt))
        have hb := lenTo_bd HP.out.gap k
        have hy := gap_get HP.out.gap (k := k) (by rw [HL2.out]; exact hlt)
        have hsz := HB.out.size
        generalize lenTo P k = z at *
        generalize P.getD k sh0 = y at *
        obtain ⟨y1, y2, y3⟩ := y
        dsimp only at *
        clear hg4
        have hgr : g < wr.heap.size := by omega
        have hw1 : IntKind.i64.wrap (y2 - y1) = y2 - y1 := IntWalk.i64_in _ (by omega)
        have hw2 : IntKind.i64.wrap (z + (y2 - y1)) = z + (y2 - y1) := IntWalk.i64_in _ (by omega)
        go_wp2_with fail
        go_roundw
        case rel => exact ⟨k + 1, by omega, by go_num, by rw [HS.out], hide (HB.out.alloc hsz _)⟩
        case measure => simp [intOf]; omega
      · obtain rfl : k = n2 := by omega
        have HA := hide (show lenTo P k = covV xs by rw [lenTo_all HL2.out, HP.out.sum, covV_ok HE.out])
        rw [HA.out]
        go_wp2_with fail
        go_ret2
        exact ⟨by rw [HE.out]; rfl, B2.out.trans (HB.out.mono hs2)⟩
  · have HV := hide (covV_no he)
    have hne : (errV xs != 0) = true := by simpa using he
    clear he
    go_enter Try.func45, Try.ntmps45
    go_wp2_with (first
        | (go_at_call 23; refine (Validate_any _ _ _ xs _ h hn).mono ?_; rintro e w1 ⟨rfl, b1⟩))
    go_ret2
    exact ⟨by rw [HV.out]; rfl, b1⟩
def PsSp (xs : Ls) (w : World) (e : Ending) (w' : World) : Prop :=
  ∃ (A : Option Addr) (n c : Nat) (P : Ls), e = .returned (.tuple #[.slice A n c, .int .i64 (errV xs)]) ∧ (errV xs = 0 → SpellsOf xs P) ∧ (errV xs ≠ 0 → P = []) ∧ Own E3 w' w.heap.size 57 A n c P ∧ Below w.heap.size w w'
set_option maxHeartbeats 1000000 in
theorem Spells_any (A : Option Addr) (n c : Nat) (xs : Ls) (w : World) (h : R E3 w A n c xs) (hn : n ≤ 1000) :
    Calls Try.prog 47 #[.slice A n c] w (PsSp xs w) := by
  by_cases he : errV xs = 0
  · have HE := hide he
    have HX := hide h
    clear he h
    go_enter Try.func47, Try.ntmps47
    go_wp2_with (first
        | (go_at_call 23; refine (Validate_any _ _ _ xs _ HX.out hn).mono ?_; rintro e w1 ⟨rfl, b1⟩; rw [HE.out]; have B1 := hide b1; clear b1)
        | (go_at_call 85; refine (spells_any _ _ _ xs _ (HX.out.below B1.out (Nat.le_refl _)) HE.out).mono ?_; rintro e w2 ⟨A2, n2, c2, P, rfl, hP, o2, b2⟩; have HP := hide hP; have O2 := hide o2; clear hP o2; have B2 := hide (B1.out.trans (b2.mono B1.out.size)); clear b2))
    go_ret2
    exact ⟨A2, n2, c2, P, by rw [HE.out]; rfl, fun _ => HP.out, fun h => absurd HE.out h, O2.out.more B1.out.size, B2.out⟩
  · have HE := hide he
    have hne : (errV xs != 0) = true := by simpa using he
    clear he
    go_enter Try.func47, Try.ntmps47
    go_wp2_with (first
        | (go_at_call 23; refine (Validate_any _ _ _ xs _ h hn).mono ?_; rintro e w1 ⟨rfl, b1⟩))
    go_ret2
    exact ⟨none, 0, 0, [], rfl, fun h => absurd h HE.out, fun _ => rfl, Own.nil _ _ _ _, b1⟩
end Go.Proofs.Ytpkjgnllkaafkaa
