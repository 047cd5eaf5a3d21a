/- Walk of Dearer (program). -/
import Derived.Test.YtjhnfcmijijdcaaWalkCp
namespace Go.Proofs.Ytjhnfcmijijdcaa
open Go.RowKit

/-- The call hands back a task in memory of its own, and an error. -/
def TaskPost (K h : Int) (cs ds : List Int) (er : Int) (w : World) (e : Ending) (w' : World) : Prop :=
  ∃ A n c A' n' c', e = .returned (.tuple #[.agg #[.int .i64 K, .int .i64 h, .slice A n c, .slice A' n' c'], .int .i64 er]) ∧ Own w' w.heap.size A n c cs ∧ Own w' w.heap.size A' n' c' ds ∧ Below w.heap.size w w'
/-- A task as four things, or none. -/
structure Four where
  K : Int
  h : Int
  cs : List Int
  ds : List Int
  er : Int
def Four.none_ (er : Int) : Four := ⟨0, 0, [], [], er⟩
def FourPost (f : Four) (w : World) (e : Ending) (w' : World) : Prop := TaskPost f.K f.h f.cs f.ds f.er w e w'
/-- A task if it is valid. -/
def toldF (K h : Int) (cs ds : List Int) : Four := if OkT K h cs ds then ⟨K, h, cs, ds, 0⟩ else Four.none_ 1
theorem toldF_ok {K h : Int} {cs ds : List Int} (o : OkT K h cs ds) : toldF K h cs ds = ⟨K, h, cs, ds, 0⟩ := by unfold toldF; rw [if_pos o]
theorem toldF_no {K h : Int} {cs ds : List Int} (o : ¬ OkT K h cs ds) : toldF K h cs ds = Four.none_ 1 := by unfold toldF; rw [if_neg o]
/-- The task with another start. -/
def dearF (K h : Int) (cs ds : List Int) (s : Int) : Four := if OkT K h cs ds then toldF s h cs ds else Four.none_ 1
theorem dearF_task {K h : Int} {cs ds : List Int} {s : Int} (o : ¬ OkT K h cs ds) : dearF K h cs ds s = Four.none_ 1 := by unfold dearF; rw [if_neg o]
theorem dearF_ok {K h : Int} {cs ds : List Int} {s : Int} (o : OkT K h cs ds) : dearF K h cs ds s = toldF s h cs ds := by unfold dearF; rw [if_pos o]
theorem not_okT {K h : Int} {cs ds : List Int} (e : ¬ errT K h cs ds = 0) : ¬ OkT K h cs ds := fun o => e (errT_ok o)
theorem Bk.apart4 {w : World} {g b : Nat} {t : TypeId} {cs : Array Value} (h : Bk w g t cs) (hg : g ≠ b) (x y z u : Value) :
    Bk ((((w.setCell ⟨b, 0, none⟩ x).setCell ⟨b, 1, none⟩ y).setCell ⟨b, 2, none⟩ z).setCell ⟨b, 3, none⟩ u) g t cs := (((h.apart hg x).apart hg y).apart hg z).apart hg u

set_option maxHeartbeats 4000000 in
theorem Dearer_any (K h : Int) (A : Option Addr) (n c : Nat) (cs : List Int) (A' : Option Addr) (n' c' : Nat) (ds : List Int) (s : Int) (w : World) (hT : Tin w A n c cs A' n' c' ds) :
    Calls Try.prog 49 #[.agg #[.int .i64 K, .int .i64 h, .slice A n c, .slice A' n' c'], .int .i64 s] w (FourPost (dearF K h cs ds s) w) := by
  have HT := hide hT
  have L1 := hT.1.length
  have L2 := hT.2.length
  have B0 := hide ((Below.refl w.heap.size w).alloc (Nat.le_refl _) (.cells #[.int .i64 K, .int .i64 h, .slice A n c, .slice A' n' c'] 24))
  have K0 := hide (Bk.born w 24 #[.int .i64 K, .int .i64 h, .slice A n c, .slice A' n' c'])
  have R0 := hide (Bk.bornAt (w := w.alloc (.cells #[.int .i64 K, .int .i64 h, .slice A n c, .slice A' n' c'] 24)) (g := w.heap.size + 1) (t := 24) (cs := #[.int .i64 0, .int .i64 0, .slice none 0 0, .slice none 0 0]) (by simp))
  replace K0 := hide (K0.out.more (.cells #[.int .i64 0, .int .i64 0, .slice none 0 0, .slice none 0 0] 24))
  replace B0 := hide (B0.out.alloc (by simp) (.cells #[.int .i64 0, .int .i64 0, .slice none 0 0, .slice none 0 0] 24))
  clear hT
  by_cases he : errT K h cs ds = 0
  case neg =>
    have HV := hide (dearF_task (s := s) (not_okT he))
    have HE := hide (errT_ne he)
    clear he
    go_enter Try.func49, Try.ntmps49
    go_wp2_with fail
    refine (Validate_any K h _ n c cs _ n' c' ds _ (HT.out.below B0.out (Nat.le_refl _))).mono ?_
    rw [HE.out]
    rintro e w1 ⟨rfl, b1⟩
    have B1 := hide (B0.out.trans (b1.mono B0.out.size))
    have R1 := hide (R0.out.keep b1 R0.out.in_)
    clear b1
    obtain ⟨r0, r1, r2, r3, _⟩ := R1.out.four
    have f0 := R1.out.fr 0
    have f1 := R1.out.fr 1
    have f2 := R1.out.fr 2
    have f3 := R1.out.fr 3
    obtain ⟨z0, z1, z2, z3, _⟩ := (R1.out.set4 (.int .i64 0) (.int .i64 0) (.slice none 0 0) (.slice none 0 0)).four
    go_wp2_with fail
    refine bodyPost_ret (v := .tuple #[.agg #[.int .i64 0, .int .i64 0, .slice none 0 0, .slice none 0 0], .int .i64 1]) ?_ rfl (by rw [HV.out]; exact ⟨_, _, _, _, _, _, rfl, Own.nil _ _, Own.nil _ _, below_set4 B1.out (by omega) _ _ _ _⟩)
    simp [results, Try.results49, go_sem, z0, z1, z2, z3]
  have o := errT_zero he
  have hn1 : 1 ≤ n' := by have := o.n1; omega
  have hn2 : n' ≤ 12 := by have := o.n2; omega
  obtain rfl : n = n' := by have := o.c.1; omega
  have OT := hide o
  have HE := hide he
  clear o he
  go_enter Try.func49, Try.ntmps49
  go_wp2_with fail
  refine (Validate_any K h _ n c cs _ n c' ds _ (HT.out.below B0.out (Nat.le_refl _))).mono ?_
  rw [HE.out]
  rintro e w1 ⟨rfl, b1⟩
  have B1 := hide (B0.out.trans (b1.mono B0.out.size))
  have K1 := hide (K0.out.keep b1 K0.out.in_)
  have R1 := hide (R0.out.keep b1 R0.out.in_)
  clear b1
  obtain ⟨k0, k1, k2, k3, _⟩ := K1.out.four
  go_wp2_with fail
  refine (copied_any K h _ n c cs _ n c' ds _ (HT.out.below B1.out (Nat.le_refl _)) (by omega) (by omega) (by omega) (by omega)).mono ?_
  rintro e w2 ⟨A2, n2, c2, A3, n3, c3, rfl, o2, o3, b2, dj⟩
  obtain rfl : n2 = n := by have := o2.len; omega
  obtain rfl : n3 = n2 := by have := o3.len; omega
  have B2 := hide (B1.out.trans (b2.mono B1.out.size))
  have K2 := hide (K1.out.keep b2 K1.out.in_)
  have R2 := hide (R1.out.keep b2 R1.out.in_)
  have P2 := hide (o2.more (B' := w.heap.size + 2) R1.out.in_)
  have Q2 := hide (o3.more (B' := w.heap.size + 2) R1.out.in_)
  have DJ := hide dj
  clear b2 o2 o3 k0 k1 k2 k3 dj
  have K3 := hide ((K2.out.set4 (.int .i64 K) (.int .i64 h) (.slice A2 n3 c2) (.slice A3 n3 c3)).put 0 (.int .i64 s))
  have P3 := hide ((P2.out.set4 (g := w.heap.size) (by omega) (.int .i64 K) (.int .i64 h) (.slice A2 n3 c2) (.slice A3 n3 c3)).set_apart (g := w.heap.size) (by omega) 0 (.int .i64 s))
  have Q3 := hide ((Q2.out.set4 (g := w.heap.size) (by omega) (.int .i64 K) (.int .i64 h) (.slice A2 n3 c2) (.slice A3 n3 c3)).set_apart (g := w.heap.size) (by omega) 0 (.int .i64 s))
  have R3 := hide ((R2.out.apart4 (b := w.heap.size) (by omega) (.int .i64 K) (.int .i64 h) (.slice A2 n3 c2) (.slice A3 n3 c3)).apart (p := ⟨w.heap.size, 0, none⟩) (by simp) (.int .i64 s))
  have B3 := hide ((below_set4 (g := w.heap.size) B2.out (Nat.le_refl _) (.int .i64 K) (.int .i64 h) (.slice A2 n3 c2) (.slice A3 n3 c3)).setCell (p := ⟨w.heap.size, 0, none⟩) (Nat.le_refl _) (.int .i64 s))
  obtain ⟨k0, k1, k2, k3, _⟩ := K2.out.four
  have f0 := K2.out.fr 0
  have f1 := K2.out.fr 1
  have f2 := K2.out.fr 2
  have f3 := K2.out.fr 3
  obtain ⟨y0, y1, y2, y3, _⟩ := (K2.out.set4 (.int .i64 K) (.int .i64 h) (.slice A2 n3 c2) (.slice A3 n3 c3)).four
  obtain ⟨x0, x1, x2, x3, _⟩ := K3.out.four
  go_wp2_with fail
  refine (checked_any s h _ n3 c2 cs _ n3 c3 ds _ ⟨P3.out.row, Q3.out.row⟩).mono ?_
  clear f0 f1 f2 f3 k0 k1 k2 k3 y0 y1 y2 y3 x0 x1 x2 x3
  generalize ((((w2.setCell ⟨w.heap.size, 0, none⟩ (.int .i64 K)).setCell ⟨w.heap.size, 1, none⟩ (.int .i64 h)).setCell ⟨w.heap.size, 2, none⟩ (.slice A2 n3 c2)).setCell ⟨w.heap.size, 3, none⟩ (.slice A3 n3 c3)).setCell ⟨w.heap.size, 0, none⟩ (.int .i64 s) = W3 at *
  rintro e w4 ⟨rfl, b4⟩
  have B4 := hide (B3.out.trans (b4.mono B3.out.size))
  have R4 := hide (R3.out.keep b4 R3.out.in_)
  have P4 := hide (P3.out.below b4 (Nat.le_refl _))
  have Q4 := hide (Q3.out.below b4 (Nat.le_refl _))
  clear b4
  by_cases o2 : OkT s h cs ds
  · have HV := hide ((dearF_ok OT.out).trans (toldF_ok o2))
    rw [toldV_ok (errT_ok o2)]
    clear o2
    obtain ⟨r0, r1, r2, r3, _⟩ := R4.out.four
    have f0 := R4.out.fr 0
    have f1 := R4.out.fr 1
    have f2 := R4.out.fr 2
    have f3 := R4.out.fr 3
    obtain ⟨z0, z1, z2, z3, _⟩ := (R4.out.set4 (.int .i64 s) (.int .i64 h) (.slice A2 n3 c2) (.slice A3 n3 c3)).four
    go_wp2_with fail
    refine bodyPost_ret (v := .tuple #[.agg #[.int .i64 s, .int .i64 h, .slice A2 n3 c2, .slice A3 n3 c3], .int .i64 0]) ?_ rfl (by rw [HV.out]; exact ⟨_, _, _, _, _, _, rfl, (P4.out.set4 (by omega) _ _ _ _).more (by omega), (Q4.out.set4 (by omega) _ _ _ _).more (by omega), below_set4 B4.out (by omega) _ _ _ _⟩)
    simp [results, Try.results49, go_sem, z0, z1, z2, z3]
  · have HV := hide ((dearF_ok OT.out).trans (toldF_no o2))
    have e2 := errT_no o2
    rw [toldV_no (by rw [e2]; decide), e2]
    clear o2 e2
    obtain ⟨r0, r1, r2, r3, _⟩ := R4.out.four
    have f0 := R4.out.fr 0
    have f1 := R4.out.fr 1
    have f2 := R4.out.fr 2
    have f3 := R4.out.fr 3
    obtain ⟨z0, z1, z2, z3, _⟩ := (R4.out.set4 (.int .i64 0) (.int .i64 0) (.slice none 0 0) (.slice none 0 0)).four
    go_wp2_with fail
    refine bodyPost_ret (v := .tuple #[.agg #[.int .i64 0, .int .i64 0, .slice none 0 0, .slice none 0 0], .int .i64 1]) ?_ rfl (by rw [HV.out]; exact ⟨_, _, _, _, _, _, rfl, Own.nil _ _, Own.nil _ _, below_set4 B4.out (by omega) _ _ _ _⟩)
    simp [results, Try.results49, go_sem, z0, z1, z2, z3]

end Go.Proofs.Ytjhnfcmijijdcaa
