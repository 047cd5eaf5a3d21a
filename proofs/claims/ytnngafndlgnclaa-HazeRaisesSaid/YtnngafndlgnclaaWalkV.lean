/- Walks of Raise, RaiseAll and Opposite on both sides. -/
import Derived.Test.YtnngafndlgnclaaWalkU
namespace Go.Proofs.Ytnngafndlgnclaa
open Go.RowKit

/-- The list with the numbers of f from a on, before i. -/
def modTo (f : Nat → Int × Int) (xs : Rd) (a i : Nat) : Rd := (List.range xs.length).map fun j => if a ≤ j ∧ j < i then f j else xs.getD j (0, 0)
theorem modTo_len (f : Nat → Int × Int) (xs : Rd) (a i : Nat) : (modTo f xs a i).length = xs.length := by simp [modTo]
theorem modTo_get (f : Nat → Int × Int) (xs : Rd) (a i : Nat) {j : Nat} (hj : j < xs.length) : (modTo f xs a i).getD j (0, 0) = if a ≤ j ∧ j < i then f j else xs.getD j (0, 0) := by
  simp [modTo, List.getD_eq_getElem?_getD, hj]
theorem ext_getD {xs ys : Rd} (hl : xs.length = ys.length) (h : ∀ j, j < xs.length → xs.getD j (0, 0) = ys.getD j (0, 0)) : xs = ys :=
  List.ext_getElem hl fun j h1 h2 => by
    have := h j h1
    simpa [List.getD_eq_getElem?_getD, h1, h2] using this
theorem modTo_start (f : Nat → Int × Int) (xs : Rd) (a : Nat) : modTo f xs a a = xs :=
  ext_getD (modTo_len ..) fun j hj => by rw [modTo_len] at hj; rw [modTo_get f xs a a hj, if_neg (by omega)]
theorem modTo_succ (f : Nat → Int × Int) (xs : Rd) {a i : Nat} (ha : a ≤ i) (hi : i < xs.length) : (modTo f xs a i).set i (f i) = modTo f xs a (i + 1) :=
  ext_getD (by rw [List.length_set, modTo_len, modTo_len]) fun j hj => by
    rw [List.length_set, modTo_len] at hj
    rw [getD_set _ _ _ _ (by rw [modTo_len]; exact hi), modTo_get f xs a (i + 1) hj, modTo_get f xs a i hj]
    by_cases h1 : j = i
    · subst h1; rw [if_pos rfl, if_pos (by omega)]
    · rw [if_neg h1]
      by_cases h2 : a ≤ j ∧ j < i
      · rw [if_pos h2, if_pos (by omega)]
      · rw [if_neg h2, if_neg (by omega)]
def upF (xs : Rd) (by' : Int) (j : Nat) : Int × Int := (vI xs j + by', wI xs j)
def opF (xs : Rd) (j : Nat) : Int × Int := (100 - vI xs j, wI xs j)
def upL (xs : Rd) (a b : Nat) (by' : Int) : Rd := modTo (upF xs by') xs a (b + 1)
def opL (xs : Rd) : Rd := modTo (opF xs) xs 0 xs.length
def errU (xs : Rd) (a b : Nat) (by' : Int) : Int := if (-100 ≤ by' ∧ by' ≤ 100) ∧ okH (upL xs a b by') = true then 0 else 1
theorem errH_up {xs : Rd} (h1 : 1 ≤ xs.length) (h2 : xs.length ≤ 12) (a b : Nat) (by' : Int) : errH (upL xs a b by') = if okH (upL xs a b by') then 0 else 1 :=
  errH_fit (by unfold upL; rw [modTo_len]; exact h1) (by unfold upL; rw [modTo_len]; exact h2)

set_option maxHeartbeats 1000000 in
theorem told_any (A : Option Addr) (n c : Nat) (ys : Rd) (w : World) (h : Row w A n c ys) (hn2 : n ≤ 1000) :
    Calls Try.prog 78 #[.slice A n c] w fun e w' => e = .returned (.tuple #[if errH ys = 0 then .slice A n c else .slice none 0 0, .int .i64 (if errH ys = 0 then 0 else 1)]) ∧ w = w' := by
  have HR := hide h
  by_cases he : errH ys = 0
  · rw [if_pos he, if_pos he]
    have HE := hide he
    clear h he
    go_enter Try.func78, Try.ntmps78
    go_wp2_with fail
    refine (rValidate_any _ _ _ ys _ HR.out (by omega)).mono ?_
    rw [HE.out]
    rintro e w1 ⟨rfl, rfl⟩
    go_wp2_with fail
    go_ret2
    exact ⟨rfl, rfl⟩
  · rw [if_neg he, if_neg he]
    have he' := errH_ne he
    clear h he
    go_enter Try.func78, Try.ntmps78
    go_wp2_with fail
    refine (rValidate_any _ _ _ ys _ HR.out (by omega)).mono ?_
    rintro e w1 ⟨rfl, rfl⟩
    go_wp2_with fail
    go_ret2
    exact ⟨rfl, rfl⟩

theorem upL_stored {w : World} {B g n c : Nat} {e : TypeId} {xs : Rd} {a i : Nat} {by' : Int} (h : Own w B e (some ⟨g, 0, none⟩) n c (modTo (upF xs by') xs a i)) (ha : a ≤ i) (hi : i < n) :
    Own (w.setCell ⟨g, i * 2, none⟩ (.int .i64 (vI xs i + by'))) B e (some ⟨g, 0, none⟩) n c (modTo (upF xs by') xs a (i + 1)) := by
  have hl : xs.length = n := by have := h.len; rwa [modTo_len] at this
  have := h.stored1 hi (vI xs i + by')
  rw [modTo_get _ _ _ _ (by omega), if_neg (by omega)] at this
  rw [← modTo_succ _ xs ha (by omega)]
  exact this
theorem opL_stored {w : World} {B g n c : Nat} {e : TypeId} {xs : Rd} {i : Nat} (h : Own w B e (some ⟨g, 0, none⟩) n c (modTo (opF xs) xs 0 i)) (hi : i < n) :
    Own (w.setCell ⟨g, i * 2, none⟩ (.int .i64 (100 - vI xs i))) B e (some ⟨g, 0, none⟩) n c (modTo (opF xs) xs 0 (i + 1)) := by
  have hl : xs.length = n := by have := h.len; rwa [modTo_len] at this
  have := h.stored1 hi (100 - vI xs i)
  rw [modTo_get _ _ _ _ (by omega), if_neg (by omega)] at this
  rw [← modTo_succ _ xs (Nat.zero_le _) (by omega)]
  exact this
theorem modTo_cell {w : World} {B g n c : Nat} {e : TypeId} {xs : Rd} {f : Nat → Int × Int} {a i : Nat} (h : Own w B e (some ⟨g, 0, none⟩) n c (modTo f xs a i)) (hi : i < n) : w.cell? ⟨g, i * 2, none⟩ = some (.int .i64 (vI xs i)) := by
  have hl : xs.length = n := by have := h.len; rwa [modTo_len] at this
  have := (h.cell hi).1
  rw [modTo_get _ _ _ _ (by omega), if_neg (by omega)] at this
  exact this

set_option maxHeartbeats 2000000 in
theorem raise_any (A : Option Addr) (n c : Nat) (xs : Rd) (a b : Nat) (by' : Int) (w : World) (h : Row w A n c xs) (o : okH xs = true) (hab : a ≤ b) (hb : b < n) (hn2 : n ≤ 12) :
    Calls Try.prog 77 #[.slice A n c, .int .i64 a, .int .i64 b, .int .i64 by'] w (ListPost w.heap.size (upL xs a b by') (errU xs a b by') w) := by
  have HR := hide h
  have hl := h.length
  have HL := hide hl
  have O := hide o
  clear h hl o
  by_cases hby : -100 ≤ by' ∧ by' ≤ 100
  · obtain ⟨h1, h2⟩ := hby
    have hE : errU xs a b by' = if okH (upL xs a b by') = true then 0 else 1 := by
      unfold errU
      by_cases ho : okH (upL xs a b by') = true
      · rw [if_pos ⟨⟨h1, h2⟩, ho⟩, if_pos ho]
      · rw [if_neg (fun hh => ho hh.2), if_neg ho]
    have hV := errH_up (xs := xs) (by rw [HL.out]; omega) (by rw [HL.out]; omega) a b by'
    have HE := hide hE
    have HV := hide hV
    clear hE hV
    go_enter Try.func77, Try.ntmps77
    go_wp2_with fail
    refine (Clone_any _ _ _ _ _ HR.out (by omega) (by omega)).mono ?_
    rintro e w1 ⟨A', c', rfl, hown, hb1⟩
    rcases hown.form with ⟨_, h0, _⟩ | ⟨g, rfl, hgB, hgl, hnc, hcm⟩
    · omega
    · have HO := hide hown
      clear hown
      go_wp2_with fail
      go_loopw [11] (fun s wr => ∃ i : Nat, a ≤ i ∧ i ≤ b + 1 ∧ s = .int .i64 i ∧ Own wr w.heap.size 51 (some ⟨g, 0, none⟩) n c' (modTo (upF xs by') xs a i) ∧ Below w.heap.size w wr) (fun s _ => b + 1 - (intOf s).toNat)
      case atStart => exact ⟨a, Nat.le_refl _, by omega, rfl, by rw [modTo_start]; exact HO.out, hb1⟩
      case round =>
        obtain ⟨i, hi1, hi2, rfl, hown, hbel⟩ := hrel
        by_cases hlt : i ≤ b
        · have hc := modTo_cell hown (show i < n by omega)
          have hf := hown.frozen (i * 2)
          have HO2 := hide (upL_stored hown hi1 (show i < n by omega))
          obtain ⟨a1, a2, _, _⟩ := okH_get O.out (show i < xs.length by rw [HL.out]; omega)
          clear hown
          generalize vI xs i = v at *
          have l1 : (i : Int) < n := by omega
          go_wp2_with fail
          go_roundw
          case rel => exact ⟨i + 1, by omega, by omega, by go_num, HO2.out, hbel.setCell hgB _⟩
          case measure => simp [intOf]; omega
        · obtain rfl : i = b + 1 := by omega
          have HO2 := hide (show Own wr w.heap.size 51 (some ⟨g, 0, none⟩) n c' (upL xs a b by') from hown)
          clear hown
          go_wp2_with fail
          refine (Validate_any _ _ _ _ _ HO2.out.row (by omega)).mono ?_
          rw [HV.out]
          rintro e w3 ⟨rfl, hb3⟩
          have HO3 := hide (HO2.out.below hb3 (Nat.le_refl _))
          have hbel3 := hbel.trans (hb3.mono hbel.size)
          cases ho : okH (upL xs a b by') with
          | true =>
            have HEE := hide (show errU xs a b by' = 0 by rw [HE.out, ho]; rfl)
            rw [if_pos rfl]
            clear ho HO2 hb3
            go_wp2_with fail
            go_ret2
            exact list_ok HEE.out rfl HO3.out hbel3
          | false =>
            have HEE := hide (show errU xs a b by' = 1 by rw [HE.out, ho]; rfl)
            rw [if_neg (by simp)]
            clear ho HO2 hb3
            go_wp2_with fail
            go_ret2
            exact list_none HEE.out (by omega) hbel3
  · have hE : errU xs a b by' = 1 := by unfold errU; rw [if_neg (fun hh => hby hh.1)]
    have HE := hide hE
    clear hE
    go_enter Try.func77, Try.ntmps77
    go_wp2_with fail
    all_goals first
      | (exfalso; omega)
      | (go_ret2; exact list_none HE.out (by omega) (Below.refl _ _))

def errRA (xs : Rd) (by' : Int) : Int := if errH xs = 0 then errU xs 0 (xs.length - 1) by' else errH xs
set_option maxHeartbeats 1000000 in
theorem RaiseAll_any (A : Option Addr) (n c : Nat) (xs : Rd) (by' : Int) (w : World) (h : Row w A n c xs) (hn2 : n ≤ 1000) :
    Calls Try.prog 49 #[.slice A n c, .int .i64 by'] w (ListPost w.heap.size (upL xs 0 (xs.length - 1) by') (errRA xs by') w) := by
  have HR := hide h
  have hl := h.length
  by_cases he : errH xs = 0
  · obtain ⟨e1, e2, e3⟩ := errH_zero he
    have hn1 : 1 ≤ n := by omega
    have hn12 : n ≤ 12 := by omega
    have hE : errRA xs by' = errU xs 0 (n - 1) by' := by unfold errRA; rw [if_pos he, hl]
    have HE := hide he
    have HL := hide hl
    have HEE := hide hE
    rw [hE, hl]
    clear h hl he e1 e2 hE
    go_enter Try.func49, Try.ntmps49
    go_wp2_with fail
    refine (Validate_any _ _ _ xs _ HR.out (by omega)).mono ?_
    rw [HE.out]
    rintro e w1 ⟨rfl, hb1⟩
    have HROW := hide (HR.out.below hb1 (Nat.le_refl _))
    have hcast : ((n - 1 : Nat) : Int) = (n : Int) - 1 := by omega
    have HC := hide (raise_any _ _ _ xs 0 (n - 1) by' _ HROW.out e3 (Nat.zero_le _) (by omega) hn12)
    rw [hcast] at HC
    clear hcast
    go_wp2_with fail
    refine HC.out.mono ?_
    rintro e w2 ⟨A', n', c', rfl, hown, hb2⟩
    go_wp2_with fail
    go_ret2
    exact ⟨A', n', c', rfl, hown.more hb1.size, hb1.trans (hb2.mono hb1.size)⟩
  · have he' := errH_ne he
    have hE : errRA xs by' = errH xs := by unfold errRA; rw [if_neg he]
    have HE := hide he
    have HEE := hide hE
    clear h hl hE
    go_enter Try.func49, Try.ntmps49
    go_wp2_with fail
    refine (Validate_any _ _ _ xs _ HR.out (by omega)).mono ?_
    rintro e w1 ⟨rfl, hb1⟩
    go_wp2_with fail
    go_ret2
    exact list_none HEE.out HE.out hb1

end Go.Proofs.Ytnngafndlgnclaa
