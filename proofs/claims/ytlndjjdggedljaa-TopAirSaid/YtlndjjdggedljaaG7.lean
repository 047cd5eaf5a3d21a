/- Group 7: texts WalkCp, WalkDe, WalkRc, WalkRd, WalkLd. -/
import Derived.Test.YtlndjjdggedljaaG6
import Derived.Laws.IdiomCopy
import Derived.Deep.RegionLawGrows
/- WalkCp -/
namespace Go.Proofs.Ytlndjjdggedljaa
open Go.RowKit

set_option maxHeartbeats 400000 in
theorem Clone_any (A : Option Addr) (n c : Nat) (xs : List Int) (w : World) (h : Row w A n c xs) (hn1 : 1 ≤ n) (hn : n ≤ 1000) :
    Calls Try.prog 86 #[.slice A n c] w fun e w' => ∃ A' c', e = .returned (.slice A' n c') ∧ Own w' w.heap.size A' n c' xs ∧ Below w.heap.size w w' := by
  have HR := hide h
  obtain ⟨b, off, h1, hcap, hmax, h2, h3, h4⟩ := h
  obtain rfl := h2 (by omega)
  clear h1 h2 h3 h4
  have hq := fun W : World => Lib.run_eql_slice_nil (P := Try.prog) W 22 3 (some ⟨b, off, none⟩) n c 0 0 Try.underlying22
  go_enter Try.func86, Try.ntmps86
  go_wp2_with (at_builtin; refine wpList_appN _ rfl (.tmp 5) (.tmp 6) rfl w.heap.size 0 0 (some ⟨w.heap.size, 0, none⟩) [] (some ⟨b, off, none⟩) n c xs rfl rfl (Own.lit w [] (Nat.le_refl _) (by simp)) (HR.out.alloc _) hn1 (by omega) (by omega) (by simp) ?_; intro A1 c1 w1 hown hb hg; rw [Nat.zero_add] at hown ⊢)
  go_ret
  exact ⟨A1, c1, rfl, by simpa using hown, ((Below.refl _ _).alloc (Nat.le_refl _) _).trans hb⟩


theorem Bk.set4 {w : World} {g : Nat} {t : TypeId} {x y z u : Value} (h : Bk w g t #[x, y, z, u]) (x' y' z' u' : Value) :
    Bk ((((w.setCell ⟨g, 0, none⟩ x').setCell ⟨g, 1, none⟩ y').setCell ⟨g, 2, none⟩ z').setCell ⟨g, 3, none⟩ u') g t #[x', y', z', u'] := (((h.put 0 x').put 1 y').put 2 z').put 3 u'
theorem Bk.set23 {w : World} {g : Nat} {t : TypeId} {x y z u : Value} (h : Bk w g t #[x, y, z, u]) (z' u' : Value) :
    Bk ((w.setCell ⟨g, 2, none⟩ z').setCell ⟨g, 3, none⟩ u') g t #[x, y, z', u'] := (h.put 2 z').put 3 u'
theorem Own.set_apart {w : World} {B g k c : Nat} {A : Option Addr} {l : List Int} (h : Own w B A k c l) (hg : g < B) (i : Nat) (u : Value) : Own (w.setCell ⟨g, i, none⟩ u) B A k c l := by
  rcases h.form with ⟨rfl, rfl, rfl, rfl⟩ | ⟨g', rfl, hb, _⟩
  · exact Own.nil _ _
  · exact h.apart (by simp [Value.ownBlock]; omega) _
theorem Own.set4 {w : World} {B g k c : Nat} {A : Option Addr} {l : List Int} (h : Own w B A k c l) (hg : g < B) (x y z u : Value) :
    Own ((((w.setCell ⟨g, 0, none⟩ x).setCell ⟨g, 1, none⟩ y).setCell ⟨g, 2, none⟩ z).setCell ⟨g, 3, none⟩ u) B A k c l :=
  (((h.set_apart hg 0 x).set_apart hg 1 y).set_apart hg 2 z).set_apart hg 3 u
theorem below_set4 {B : Nat} {w0 w : World} {g : Nat} (h : Below B w0 w) (hg : B ≤ g) (x y z u : Value) : Below B w0 ((((w.setCell ⟨g, 0, none⟩ x).setCell ⟨g, 1, none⟩ y).setCell ⟨g, 2, none⟩ z).setCell ⟨g, 3, none⟩ u) :=
  (((h.setCell hg x).setCell hg y).setCell hg z).setCell hg u

theorem own_apart {w8 w9 : World} {B C n c n' c' : Nat} {A A' : Option Addr} {xs ys : List Int} (o8 : Own w8 B A n c xs) (o9 : Own w9 C A' n' c' ys) (h : w8.heap.size ≤ C) : ∀ g, A = some ⟨g, 0, none⟩ → A' ≠ some ⟨g, 0, none⟩ := by
  intro g h1 h2
  rcases o8.form with ⟨e, _⟩ | ⟨g8, e, _, l8, _⟩
  · rw [e] at h1; cases h1
  · rcases o9.form with ⟨e', _⟩ | ⟨g9, e', l9, _⟩
    · rw [e'] at h2; cases h2
    · rw [e] at h1
      rw [e'] at h2
      injection h1 with h1
      injection h1 with h1
      injection h2 with h2
      injection h2 with h2
      omega

/-- The call hands back a task in memory of its own. -/
def CopyPost (K h : Int) (cs ds : List Int) (w : World) (e : Ending) (w' : World) : Prop :=
  ∃ A n c A' n' c', e = .returned (.agg #[.int .i64 K, .int .i64 h, .slice A n c, .slice A' n' c']) ∧ Own w' w.heap.size A n c cs ∧ Own w' w.heap.size A' n' c' ds ∧ Below w.heap.size w w' ∧ ∀ g, A = some ⟨g, 0, none⟩ → A' ≠ some ⟨g, 0, none⟩
set_option maxHeartbeats 4000000 in
theorem copied_any (K h : Int) (A : Option Addr) (n c : Nat) (cs : List Int) (A' : Option Addr) (n' c' : Nat) (ds : List Int) (w : World)
    (hT : Tin w A n c cs A' n' c' ds) (hn1 : 1 ≤ n) (hn : n ≤ 1000) (hn1' : 1 ≤ n') (hn' : n' ≤ 1000) :
    Calls Try.prog 75 #[.agg #[.int .i64 K, .int .i64 h, .slice A n c, .slice A' n' c']] w (CopyPost K h cs ds w) := by
  have HT := hide hT
  have B0 := hide ((Below.refl w.heap.size w).alloc (Nat.le_refl _) (.cells #[.int .i64 K, .int .i64 h, .slice A n c, .slice A' n' c'] 24))
  have K0 := hide (Bk.born w 24 #[.int .i64 K, .int .i64 h, .slice A n c, .slice A' n' c'])
  have R0 := hide (Bk.bornAt (w := w.alloc (.cells #[.int .i64 K, .int .i64 h, .slice A n c, .slice A' n' c'] 24)) (g := w.heap.size + 1) (t := 24) (cs := #[.int .i64 0, .int .i64 0, .slice none 0 0, .slice none 0 0]) (by simp))
  replace K0 := hide (K0.out.more (.cells #[.int .i64 0, .int .i64 0, .slice none 0 0, .slice none 0 0] 24))
  replace B0 := hide (B0.out.alloc (by simp) (.cells #[.int .i64 0, .int .i64 0, .slice none 0 0, .slice none 0 0] 24))
  clear hT
  go_enter Try.func75, Try.ntmps75
  go_wp2_with fail
  obtain ⟨k0, k1, k2, k3, _⟩ := K0.out.four
  have B1 := hide B0.out.drew
  have K1 := hide K0.out.draw
  have R1 := hide R0.out.draw
  have C1 := hide (Clone_any _ _ _ cs _ (HT.out.1.below B1.out (Nat.le_refl _)) hn1 hn)
  have D1 := hide (fun W hb => Clone_any _ _ _ ds W (HT.out.2.below hb (Nat.le_refl _)) hn1' hn')
  have fz1 := K1.out.fr 2
  have fz2 := K1.out.fr 3
  go_region_law (first
    | (go_simp; go_at_call 86; refine C1.out.mono ?_; rintro e8 w8 ⟨A8, c8, rfl, o8, hb8⟩; have B8 := hide (B1.out.trans (hb8.mono (by simp; omega))); have K8 := hide (K1.out.keep hb8 (by simp; try omega)); have R8 := hide (R1.out.keep hb8 (by simp; try omega)); have O8 := hide (o8.more (B' := w.heap.size + 2) (by simp; try omega)); obtain ⟨p0, p1, p2, p3, _⟩ := K8.out.four; have q2 := K8.out.fr 2; have q3 := K8.out.fr 3; clear o8 hb8)
    | (go_simp; go_at_call 86; refine (D1.out w8 B8.out).mono ?_; rintro e9 w9 ⟨A9, c9, rfl, o9, hb9⟩; have s8 := hb9.size; have B9 := hide (B8.out.trans (hb9.mono B8.out.size)); have K9 := hide (K8.out.keep hb9 K8.out.in_); have R9 := hide (R8.out.keep hb9 R8.out.in_); have O89 := hide (O8.out.below hb9 (Nat.le_refl _)); have DJ := hide (own_apart O8.out o9 (Nat.le_refl _)); have O9 := hide (o9.more (B' := w.heap.size + 2) R8.out.in_); obtain ⟨p0, p1, p2, p3, _⟩ := K9.out.four; have q2 := K9.out.fr 2; have q3 := K9.out.fr 3; clear o9 hb9))
  all_goals
    have K10 := hide (K9.out.set23 (.slice A8 n c8) (.slice A9 n' c9))
    have R10 := hide ((R9.out.apart (p := ⟨w.heap.size, 2, none⟩) (by simp) (.slice A8 n c8)).apart (p := ⟨w.heap.size, 3, none⟩) (by simp) (.slice A9 n' c9))
    have P10 := hide ((O89.out.set_apart (g := w.heap.size) (by omega) 2 (.slice A8 n c8)).set_apart (g := w.heap.size) (by omega) 3 (.slice A9 n' c9))
    have Q10 := hide ((O9.out.set_apart (g := w.heap.size) (by omega) 2 (.slice A8 n c8)).set_apart (g := w.heap.size) (by omega) 3 (.slice A9 n' c9))
    have B10 := hide ((B9.out.setCell (p := ⟨w.heap.size, 2, none⟩) (Nat.le_refl _) (.slice A8 n c8)).setCell (p := ⟨w.heap.size, 3, none⟩) (Nat.le_refl _) (.slice A9 n' c9))
    generalize (w9.setCell ⟨w.heap.size, 2, none⟩ (.slice A8 n c8)).setCell ⟨w.heap.size, 3, none⟩ (.slice A9 n' c9) = W at *
    clear p0 p1 p2 p3 q2 q3 k0 k1 k2 k3 fz1 fz2 s8
    obtain ⟨k0, k1, k2, k3, _⟩ := K10.out.four
    obtain ⟨r0, r1, r2, r3, _⟩ := R10.out.four
    have f0 := R10.out.fr 0
    have f1 := R10.out.fr 1
    have f2 := R10.out.fr 2
    have f3 := R10.out.fr 3
    obtain ⟨z0, z1, z2, z3, _⟩ := (R10.out.set4 (.int .i64 K) (.int .i64 h) (.slice A8 n c8) (.slice A9 n' c9)).four
    go_wp2_with fail
    refine bodyPost_ret (v := .agg #[.int .i64 K, .int .i64 h, .slice A8 n c8, .slice A9 n' c9]) ?_ rfl ⟨_, _, _, _, _, _, rfl, (P10.out.set4 (by omega) _ _ _ _).more (by omega), (Q10.out.set4 (by omega) _ _ _ _).more (by omega), below_set4 B10.out (by omega) _ _ _ _, DJ.out⟩
    simp [results, Try.results75, go_sem, z0, z1, z2, z3]

/-- The task, or none, with the error. -/
def toldV (K h : Int) (A : Option Addr) (n c : Nat) (A' : Option Addr) (n' c' : Nat) (er : Int) : Value :=
  if er = 0 then .tuple #[.agg #[.int .i64 K, .int .i64 h, .slice A n c, .slice A' n' c'], .int .i64 0] else .tuple #[.agg #[.int .i64 0, .int .i64 0, .slice none 0 0, .slice none 0 0], .int .i64 er]
theorem toldV_ok {K h : Int} {A : Option Addr} {n c : Nat} {A' : Option Addr} {n' c' : Nat} {er : Int} (e : er = 0) : toldV K h A n c A' n' c' er = .tuple #[.agg #[.int .i64 K, .int .i64 h, .slice A n c, .slice A' n' c'], .int .i64 0] := by
  unfold toldV; rw [if_pos e]
theorem toldV_no {K h : Int} {A : Option Addr} {n c : Nat} {A' : Option Addr} {n' c' : Nat} {er : Int} (e : ¬ er = 0) : toldV K h A n c A' n' c' er = .tuple #[.agg #[.int .i64 0, .int .i64 0, .slice none 0 0, .slice none 0 0], .int .i64 er] := by
  unfold toldV; rw [if_neg e]
set_option maxHeartbeats 4000000 in
theorem checked_any (K h : Int) (A : Option Addr) (n c : Nat) (cs : List Int) (A' : Option Addr) (n' c' : Nat) (ds : List Int) (w : World) (hT : Tin w A n c cs A' n' c' ds) :
    Calls Try.prog 76 #[.agg #[.int .i64 K, .int .i64 h, .slice A n c, .slice A' n' c']] w fun e w' => e = .returned (toldV K h A n c A' n' c' (errT K h cs ds)) ∧ Below w.heap.size w w' := by
  have HT := hide hT
  have B0 := hide ((Below.refl w.heap.size w).alloc (Nat.le_refl _) (.cells #[.int .i64 K, .int .i64 h, .slice A n c, .slice A' n' c'] 24))
  have K0 := hide (Bk.born w 24 #[.int .i64 K, .int .i64 h, .slice A n c, .slice A' n' c'])
  have R0 := hide (Bk.bornAt (w := w.alloc (.cells #[.int .i64 K, .int .i64 h, .slice A n c, .slice A' n' c'] 24)) (g := w.heap.size + 1) (t := 24) (cs := #[.int .i64 0, .int .i64 0, .slice none 0 0, .slice none 0 0]) (by simp))
  replace K0 := hide (K0.out.more (.cells #[.int .i64 0, .int .i64 0, .slice none 0 0, .slice none 0 0] 24))
  replace B0 := hide (B0.out.alloc (by simp) (.cells #[.int .i64 0, .int .i64 0, .slice none 0 0, .slice none 0 0] 24))
  clear hT
  go_enter Try.func76, Try.ntmps76
  go_wp2_with fail
  refine (Validate_any K h _ n c cs _ n' c' ds _ (HT.out.below B0.out (Nat.le_refl _))).mono ?_
  rintro e w1 ⟨rfl, b1⟩
  have B1 := hide (B0.out.trans (b1.mono B0.out.size))
  have K1 := hide (K0.out.keep b1 K0.out.in_)
  have R1 := hide (R0.out.keep b1 R0.out.in_)
  clear b1
  obtain ⟨k0, k1, k2, k3, _⟩ := K1.out.four
  obtain ⟨r0, r1, r2, r3, _⟩ := R1.out.four
  have f0 := R1.out.fr 0
  have f1 := R1.out.fr 1
  have f2 := R1.out.fr 2
  have f3 := R1.out.fr 3
  by_cases he : errT K h cs ds = 0
  · have HE := hide (toldV_ok (K := K) (h := h) (A := A) (n := n) (c := c) (A' := A') (n' := n') (c' := c') he)
    rw [he]
    clear he
    obtain ⟨z0, z1, z2, z3, _⟩ := (R1.out.set4 (.int .i64 K) (.int .i64 h) (.slice A n c) (.slice A' n' c')).four
    go_wp2_with fail
    refine bodyPost_ret (v := .tuple #[.agg #[.int .i64 K, .int .i64 h, .slice A n c, .slice A' n' c'], .int .i64 0]) ?_ rfl ⟨by rw [HE.out], below_set4 B1.out (by omega) _ _ _ _⟩
    simp [results, Try.results76, go_sem, z0, z1, z2, z3]
  · have HE := hide (toldV_no (K := K) (h := h) (A := A) (n := n) (c := c) (A' := A') (n' := n') (c' := c') he)
    have he' : (errT K h cs ds != 0) = true := by simpa using he
    obtain ⟨z0, z1, z2, z3, _⟩ := (R1.out.set4 (.int .i64 0) (.int .i64 0) (.slice none 0 0) (.slice none 0 0)).four
    go_wp2_with fail
    refine bodyPost_ret (v := .tuple #[.agg #[.int .i64 0, .int .i64 0, .slice none 0 0, .slice none 0 0], .int .i64 (errT K h cs ds)]) ?_ rfl ⟨by rw [HE.out], below_set4 B1.out (by omega) _ _ _ _⟩
    simp [results, Try.results76, go_sem, z0, z1, z2, z3]

end Go.Proofs.Ytlndjjdggedljaa

/- WalkDe -/
namespace Go.Proofs.Ytlndjjdggedljaa
open Go.RowKit

/-- The call hands back a task in memory of its own, and an error. -/
def TaskPost (K h : Int) (cs ds : List Int) (er : Int) (w : World) (e : Ending) (w' : World) : Prop :=
  ∃ A n c A' n' c', e = .returned (.tuple #[.agg #[.int .i64 K, .int .i64 h, .slice A n c, .slice A' n' c'], .int .i64 er]) ∧ Own w' w.heap.size A n c cs ∧ Own w' w.heap.size A' n' c' ds ∧ Below w.heap.size w w'
/-- A task as four things, or none. -/
structure Four where
  K : Int
  h : Int
  cs : List Int
  ds : List Int
  er : Int
def Four.none_ (er : Int) : Four := ⟨0, 0, [], [], er⟩
def FourPost (f : Four) (w : World) (e : Ending) (w' : World) : Prop := TaskPost f.K f.h f.cs f.ds f.er w e w'
/-- A task if it is valid. -/
def toldF (K h : Int) (cs ds : List Int) : Four := if OkT K h cs ds then ⟨K, h, cs, ds, 0⟩ else Four.none_ 1
theorem toldF_ok {K h : Int} {cs ds : List Int} (o : OkT K h cs ds) : toldF K h cs ds = ⟨K, h, cs, ds, 0⟩ := by unfold toldF; rw [if_pos o]
theorem toldF_no {K h : Int} {cs ds : List Int} (o : ¬ OkT K h cs ds) : toldF K h cs ds = Four.none_ 1 := by unfold toldF; rw [if_neg o]
/-- The task with another start. -/
def dearF (K h : Int) (cs ds : List Int) (s : Int) : Four := if OkT K h cs ds then toldF s h cs ds else Four.none_ 1
theorem dearF_task {K h : Int} {cs ds : List Int} {s : Int} (o : ¬ OkT K h cs ds) : dearF K h cs ds s = Four.none_ 1 := by unfold dearF; rw [if_neg o]
theorem dearF_ok {K h : Int} {cs ds : List Int} {s : Int} (o : OkT K h cs ds) : dearF K h cs ds s = toldF s h cs ds := by unfold dearF; rw [if_pos o]
theorem not_okT {K h : Int} {cs ds : List Int} (e : ¬ errT K h cs ds = 0) : ¬ OkT K h cs ds := fun o => e (errT_ok o)
theorem Bk.apart4 {w : World} {g b : Nat} {t : TypeId} {cs : Array Value} (h : Bk w g t cs) (hg : g ≠ b) (x y z u : Value) :
    Bk ((((w.setCell ⟨b, 0, none⟩ x).setCell ⟨b, 1, none⟩ y).setCell ⟨b, 2, none⟩ z).setCell ⟨b, 3, none⟩ u) g t cs := (((h.apart hg x).apart hg y).apart hg z).apart hg u

set_option maxHeartbeats 4000000 in
theorem Dearer_any (K h : Int) (A : Option Addr) (n c : Nat) (cs : List Int) (A' : Option Addr) (n' c' : Nat) (ds : List Int) (s : Int) (w : World) (hT : Tin w A n c cs A' n' c' ds) :
    Calls Try.prog 49 #[.agg #[.int .i64 K, .int .i64 h, .slice A n c, .slice A' n' c'], .int .i64 s] w (FourPost (dearF K h cs ds s) w) := by
  have HT := hide hT
  have L1 := hT.1.length
  have L2 := hT.2.length
  have B0 := hide ((Below.refl w.heap.size w).alloc (Nat.le_refl _) (.cells #[.int .i64 K, .int .i64 h, .slice A n c, .slice A' n' c'] 24))
  have K0 := hide (Bk.born w 24 #[.int .i64 K, .int .i64 h, .slice A n c, .slice A' n' c'])
  have R0 := hide (Bk.bornAt (w := w.alloc (.cells #[.int .i64 K, .int .i64 h, .slice A n c, .slice A' n' c'] 24)) (g := w.heap.size + 1) (t := 24) (cs := #[.int .i64 0, .int .i64 0, .slice none 0 0, .slice none 0 0]) (by simp))
  replace K0 := hide (K0.out.more (.cells #[.int .i64 0, .int .i64 0, .slice none 0 0, .slice none 0 0] 24))
  replace B0 := hide (B0.out.alloc (by simp) (.cells #[.int .i64 0, .int .i64 0, .slice none 0 0, .slice none 0 0] 24))
  clear hT
  by_cases he : errT K h cs ds = 0
  case neg =>
    have HV := hide (dearF_task (s := s) (not_okT he))
    have HE := hide (errT_ne he)
    clear he
    go_enter Try.func49, Try.ntmps49
    go_wp2_with fail
    refine (Validate_any K h _ n c cs _ n' c' ds _ (HT.out.below B0.out (Nat.le_refl _))).mono ?_
    rw [HE.out]
    rintro e w1 ⟨rfl, b1⟩
    have B1 := hide (B0.out.trans (b1.mono B0.out.size))
    have R1 := hide (R0.out.keep b1 R0.out.in_)
    clear b1
    obtain ⟨r0, r1, r2, r3, _⟩ := R1.out.four
    have f0 := R1.out.fr 0
    have f1 := R1.out.fr 1
    have f2 := R1.out.fr 2
    have f3 := R1.out.fr 3
    obtain ⟨z0, z1, z2, z3, _⟩ := (R1.out.set4 (.int .i64 0) (.int .i64 0) (.slice none 0 0) (.slice none 0 0)).four
    go_wp2_with fail
    refine bodyPost_ret (v := .tuple #[.agg #[.int .i64 0, .int .i64 0, .slice none 0 0, .slice none 0 0], .int .i64 1]) ?_ rfl (by rw [HV.out]; exact ⟨_, _, _, _, _, _, rfl, Own.nil _ _, Own.nil _ _, below_set4 B1.out (by omega) _ _ _ _⟩)
    simp [results, Try.results49, go_sem, z0, z1, z2, z3]
  have o := errT_zero he
  have hn1 : 1 ≤ n' := by have := o.n1; omega
  have hn2 : n' ≤ 12 := by have := o.n2; omega
  obtain rfl : n = n' := by have := o.c.1; omega
  have OT := hide o
  have HE := hide he
  clear o he
  go_enter Try.func49, Try.ntmps49
  go_wp2_with fail
  refine (Validate_any K h _ n c cs _ n c' ds _ (HT.out.below B0.out (Nat.le_refl _))).mono ?_
  rw [HE.out]
  rintro e w1 ⟨rfl, b1⟩
  have B1 := hide (B0.out.trans (b1.mono B0.out.size))
  have K1 := hide (K0.out.keep b1 K0.out.in_)
  have R1 := hide (R0.out.keep b1 R0.out.in_)
  clear b1
  obtain ⟨k0, k1, k2, k3, _⟩ := K1.out.four
  go_wp2_with fail
  refine (copied_any K h _ n c cs _ n c' ds _ (HT.out.below B1.out (Nat.le_refl _)) (by omega) (by omega) (by omega) (by omega)).mono ?_
  rintro e w2 ⟨A2, n2, c2, A3, n3, c3, rfl, o2, o3, b2, dj⟩
  obtain rfl : n2 = n := by have := o2.len; omega
  obtain rfl : n3 = n2 := by have := o3.len; omega
  have B2 := hide (B1.out.trans (b2.mono B1.out.size))
  have K2 := hide (K1.out.keep b2 K1.out.in_)
  have R2 := hide (R1.out.keep b2 R1.out.in_)
  have P2 := hide (o2.more (B' := w.heap.size + 2) R1.out.in_)
  have Q2 := hide (o3.more (B' := w.heap.size + 2) R1.out.in_)
  have DJ := hide dj
  clear b2 o2 o3 k0 k1 k2 k3 dj
  have K3 := hide ((K2.out.set4 (.int .i64 K) (.int .i64 h) (.slice A2 n3 c2) (.slice A3 n3 c3)).put 0 (.int .i64 s))
  have P3 := hide ((P2.out.set4 (g := w.heap.size) (by omega) (.int .i64 K) (.int .i64 h) (.slice A2 n3 c2) (.slice A3 n3 c3)).set_apart (g := w.heap.size) (by omega) 0 (.int .i64 s))
  have Q3 := hide ((Q2.out.set4 (g := w.heap.size) (by omega) (.int .i64 K) (.int .i64 h) (.slice A2 n3 c2) (.slice A3 n3 c3)).set_apart (g := w.heap.size) (by omega) 0 (.int .i64 s))
  have R3 := hide ((R2.out.apart4 (b := w.heap.size) (by omega) (.int .i64 K) (.int .i64 h) (.slice A2 n3 c2) (.slice A3 n3 c3)).apart (p := ⟨w.heap.size, 0, none⟩) (by simp) (.int .i64 s))
  have B3 := hide ((below_set4 (g := w.heap.size) B2.out (Nat.le_refl _) (.int .i64 K) (.int .i64 h) (.slice A2 n3 c2) (.slice A3 n3 c3)).setCell (p := ⟨w.heap.size, 0, none⟩) (Nat.le_refl _) (.int .i64 s))
  obtain ⟨k0, k1, k2, k3, _⟩ := K2.out.four
  have f0 := K2.out.fr 0
  have f1 := K2.out.fr 1
  have f2 := K2.out.fr 2
  have f3 := K2.out.fr 3
  obtain ⟨y0, y1, y2, y3, _⟩ := (K2.out.set4 (.int .i64 K) (.int .i64 h) (.slice A2 n3 c2) (.slice A3 n3 c3)).four
  obtain ⟨x0, x1, x2, x3, _⟩ := K3.out.four
  go_wp2_with fail
  refine (checked_any s h _ n3 c2 cs _ n3 c3 ds _ ⟨P3.out.row, Q3.out.row⟩).mono ?_
  clear f0 f1 f2 f3 k0 k1 k2 k3 y0 y1 y2 y3 x0 x1 x2 x3
  generalize ((((w2.setCell ⟨w.heap.size, 0, none⟩ (.int .i64 K)).setCell ⟨w.heap.size, 1, none⟩ (.int .i64 h)).setCell ⟨w.heap.size, 2, none⟩ (.slice A2 n3 c2)).setCell ⟨w.heap.size, 3, none⟩ (.slice A3 n3 c3)).setCell ⟨w.heap.size, 0, none⟩ (.int .i64 s) = W3 at *
  rintro e w4 ⟨rfl, b4⟩
  have B4 := hide (B3.out.trans (b4.mono B3.out.size))
  have R4 := hide (R3.out.keep b4 R3.out.in_)
  have P4 := hide (P3.out.below b4 (Nat.le_refl _))
  have Q4 := hide (Q3.out.below b4 (Nat.le_refl _))
  clear b4
  by_cases o2 : OkT s h cs ds
  · have HV := hide ((dearF_ok OT.out).trans (toldF_ok o2))
    rw [toldV_ok (errT_ok o2)]
    clear o2
    obtain ⟨r0, r1, r2, r3, _⟩ := R4.out.four
    have f0 := R4.out.fr 0
    have f1 := R4.out.fr 1
    have f2 := R4.out.fr 2
    have f3 := R4.out.fr 3
    obtain ⟨z0, z1, z2, z3, _⟩ := (R4.out.set4 (.int .i64 s) (.int .i64 h) (.slice A2 n3 c2) (.slice A3 n3 c3)).four
    go_wp2_with fail
    refine bodyPost_ret (v := .tuple #[.agg #[.int .i64 s, .int .i64 h, .slice A2 n3 c2, .slice A3 n3 c3], .int .i64 0]) ?_ rfl (by rw [HV.out]; exact ⟨_, _, _, _, _, _, rfl, (P4.out.set4 (by omega) _ _ _ _).more (by omega), (Q4.out.set4 (by omega) _ _ _ _).more (by omega), below_set4 B4.out (by omega) _ _ _ _⟩)
    simp [results, Try.results49, go_sem, z0, z1, z2, z3]
  · have HV := hide ((dearF_ok OT.out).trans (toldF_no o2))
    have e2 := errT_no o2
    rw [toldV_no (by rw [e2]; decide), e2]
    clear o2 e2
    obtain ⟨r0, r1, r2, r3, _⟩ := R4.out.four
    have f0 := R4.out.fr 0
    have f1 := R4.out.fr 1
    have f2 := R4.out.fr 2
    have f3 := R4.out.fr 3
    obtain ⟨z0, z1, z2, z3, _⟩ := (R4.out.set4 (.int .i64 0) (.int .i64 0) (.slice none 0 0) (.slice none 0 0)).four
    go_wp2_with fail
    refine bodyPost_ret (v := .tuple #[.agg #[.int .i64 0, .int .i64 0, .slice none 0 0, .slice none 0 0], .int .i64 1]) ?_ rfl (by rw [HV.out]; exact ⟨_, _, _, _, _, _, rfl, Own.nil _ _, Own.nil _ _, below_set4 B4.out (by omega) _ _ _ _⟩)
    simp [results, Try.results49, go_sem, z0, z1, z2, z3]

end Go.Proofs.Ytlndjjdggedljaa

/- WalkRc -/
namespace Go.Proofs.Ytlndjjdggedljaa
open Go.RowKit

/-- append([]int{}, xs...) as one step of a region. -/
theorem step_app {ops : Array Oper} {o : Oper} {a : Act} {w : World} {K : Act → World → Prop} {Q : Exit → Act → World → Prop} {E : Prop}
    (hg : o.guard = none) (s x : Operand) (hop : o.op = Op.call { callee := Callee.builtin Builtin.append, args := #[s, x], argTypes := #[22, 22] })
    (b : Addr) (A : Option Addr) (m c : Nat) (xs : List Int) (hs : a.eval s = .slice (some b) 0 0) (hx : a.eval x = .slice A m c) (hrow : Row w A m c xs) (hm1 : 1 ≤ m) (hm : m ≤ 1000)
    (hK : ∀ A' c' w', Own w' w.heap.size A' m c' xs → Below w.heap.size w w' → K (a.put o.dst (.slice A' m c')) w') :
    if Region.wanted o (yielded ops a.tmps) = true then Oper.wp Try.prog o a w K Q else E := by
  obtain ⟨i0, hi, hz0, hz1, hz2⟩ := info_parts info_int
  obtain ⟨bb, off, r⟩ := hrow
  obtain rfl := r.at_ (by omega)
  have hl := r.len
  refine step_append_grows (P := Try.prog) hg s x 22 hop 3 i0 (.int .i64 0) 1 8 Try.underlying22 hi hz0 hz1 hz2 rfl (by decide) (some b) 0 0 [] hs (fun h => by cases h) rfl (fun _ _ j u hu => by simp at hu)
    ⟨bb, off, none⟩ m c (ints xs) hx (by rw [ints_length]; omega) ?_ (ints_one xs) (by omega) (by unfold maxLen; omega) (by omega) ?_
  · intro j u hu
    have hj : j < xs.length := by
      have := (Array.getElem?_eq_some_iff (xs := (ints xs).toArray) (i := j) (b := u)).1 (by simpa using hu)
      have := this.1
      simpa [ints_length] using this
    rw [ints_get hj] at hu
    have := r.cell j (by omega)
    rw [hu] at this
    unfold Addr.add
    split
    · rename_i h0; subst h0; exact this
    · exact this
  · intro v' w' hown hgrow
    rw [Nat.zero_add, List.nil_append] at hown
    have hv : ∃ A' c', v' = .slice A' m c' := by
      rcases hown.2 with ⟨_, hn0⟩ | ⟨g, cap, cur, hv, _⟩
      · omega
      · exact ⟨_, _, hv⟩
    obtain ⟨A', c', rfl⟩ := hv
    exact hK A' c' w' hown ((Below.refl _ w).grown hgrow (Nat.le_refl _) fun k hk => by cases hk)

theorem own_step {w W w8 : World} {A : Option Addr} {m c g : Nat} {xs : List Int} {t : TypeId} {cs : Array Value} (o : Own w8 W.heap.size A m c xs) (b : Below W.heap.size W w8) (R : Bk W g t cs) (h : Below w.heap.size w W) :
    Own w8 (g + 1) A m c xs ∧ Bk w8 g t cs ∧ Below w.heap.size w w8 := ⟨o.more R.in_, R.keep b R.in_, h.trans (b.mono h.size)⟩
set_option maxHeartbeats 4000000 in
theorem rCopy_any (K h : Int) (A : Option Addr) (n c : Nat) (cs : List Int) (A' : Option Addr) (n' c' : Nat) (ds : List Int) (w : World)
    (hT : Tin w A n c cs A' n' c' ds) (hn1 : 1 ≤ n) (hn : n ≤ 1000) (hn1' : 1 ≤ n') (hn' : n' ≤ 1000) :
    Calls Try.prog 43 #[.agg #[.int .i64 K, .int .i64 h, .slice A n c, .slice A' n' c']] w (CopyPost K h cs ds w) := by
  have HT := hide hT
  have B0 := hide ((Below.refl w.heap.size w).alloc (Nat.le_refl _) (.cells #[.int .i64 K, .int .i64 h, .slice A n c, .slice A' n' c'] 24))
  have K0 := hide (Bk.born w 24 #[.int .i64 K, .int .i64 h, .slice A n c, .slice A' n' c'])
  have R0 := hide (Bk.bornAt (w := w.alloc (.cells #[.int .i64 K, .int .i64 h, .slice A n c, .slice A' n' c'] 24)) (g := w.heap.size + 1) (t := 24) (cs := #[.int .i64 0, .int .i64 0, .slice none 0 0, .slice none 0 0]) (by simp))
  replace K0 := hide (K0.out.more (.cells #[.int .i64 0, .int .i64 0, .slice none 0 0, .slice none 0 0] 24))
  replace B0 := hide (B0.out.alloc (by simp) (.cells #[.int .i64 0, .int .i64 0, .slice none 0 0, .slice none 0 0] 24))
  clear hT
  go_enter Try.func43, Try.ntmps43
  go_wp2_with fail
  obtain ⟨k0, k1, k2, k3, _⟩ := K0.out.four
  have B1 := hide (below_drewN B0.out 1)
  have K1 := hide (K0.out.draws 1)
  have R1 := hide (R0.out.draws 1)
  go_region_held3 (fun w' => w'.cell? ⟨w.heap.size, 0, none⟩ = some (.int .i64 K) ∧ w'.cell? ⟨w.heap.size, 1, none⟩ = some (.int .i64 h) ∧ w'.cell? ⟨w.heap.size, 2, none⟩ = some (.slice A n c) ∧ w'.cell? ⟨w.heap.size, 3, none⟩ = some (.slice A' n' c'))
    (first
      | go_keep
      | (go_split_ands
         refine ⟨?_, ?_, ?_, ?_⟩ <;> (rw [b8.cell (by simp; omega)]; first | assumption | (simp; assumption)))
      | (go_split_ands
         refine ⟨?_, ?_, ?_, ?_⟩ <;> (rw [b9.cell (by have := B8.out.size; simp; omega)]; first | assumption | (simp; assumption))))
    (first
      | (refine step_app rfl (.tmp 7) (.tmp 9) rfl _ A n c cs (by simp [Act.eval, Act.put]; rfl) (by simp [Act.eval, Act.put]) (HT.out.1.below (by first | exact (B0.out.alloc B0.out.size _).drew | exact ((B0.out.alloc B0.out.size _).alloc (B0.out.alloc B0.out.size _).size _).drew | exact B8.out | exact B8.out.alloc B8.out.size _ | exact B9.out | exact B9.out.alloc B9.out.size _) (Nat.le_refl _)) hn1 hn ?_; intro A8 c8 w8 o8 b8; obtain ⟨o8', r8', z8'⟩ := own_step o8 b8 (by first | exact (R0.out.more _).draw | exact ((R0.out.more _).more _).draw | exact R8.out | exact R8.out.more _ | exact R9.out | exact R9.out.more _) (by first | exact (B0.out.alloc B0.out.size _).drew | exact ((B0.out.alloc B0.out.size _).alloc (B0.out.alloc B0.out.size _).size _).drew | exact B8.out | exact B8.out.alloc B8.out.size _ | exact B9.out | exact B9.out.alloc B9.out.size _); (first | have O9 := hide (Own.below (w' := w8) (by first | exact O9.out | exact O9.out.alloc _) b8 (Nat.le_refl _)) | skip); have O8 := hide o8'; have R8 := hide r8'; have B8 := hide z8'; obtain ⟨r0, r1, r2, r3, _⟩ := R8.out.four; have f0 := R8.out.fr 0; have f1 := R8.out.fr 1; have f2 := R8.out.fr 2; have f3 := R8.out.fr 3; clear o8 o8' r8' z8')
      | (refine step_app rfl (.tmp 11) (.tmp 13) rfl _ A' n' c' ds (by simp [Act.eval, Act.put]; rfl) (by simp [Act.eval, Act.put]) (HT.out.2.below (by first | exact (B0.out.alloc B0.out.size _).drew | exact ((B0.out.alloc B0.out.size _).alloc (B0.out.alloc B0.out.size _).size _).drew | exact B8.out | exact B8.out.alloc B8.out.size _ | exact B9.out | exact B9.out.alloc B9.out.size _) (Nat.le_refl _)) hn1' hn' ?_; intro A9 c9 w9 o9 b9; obtain ⟨o9', r9', z9'⟩ := own_step o9 b9 (by first | exact (R0.out.more _).draw | exact ((R0.out.more _).more _).draw | exact R8.out | exact R8.out.more _ | exact R9.out | exact R9.out.more _) (by first | exact (B0.out.alloc B0.out.size _).drew | exact ((B0.out.alloc B0.out.size _).alloc (B0.out.alloc B0.out.size _).size _).drew | exact B8.out | exact B8.out.alloc B8.out.size _ | exact B9.out | exact B9.out.alloc B9.out.size _); (first | have DJ := hide (own_apart O8.out o9 (by simp)) | skip); (first | have O8 := hide (Own.below (w' := w9) (by first | exact O8.out | exact O8.out.alloc _) b9 (Nat.le_refl _)) | skip); have O9 := hide o9'; have R9 := hide r9'; have B9 := hide z9'; obtain ⟨r0, r1, r2, r3, _⟩ := R9.out.four; have f0 := R9.out.fr 0; have f1 := R9.out.fr 1; have f2 := R9.out.fr 2; have f3 := R9.out.fr 3; clear o9 o9' r9' z9'))
  all_goals
    obtain ⟨z0, z1, z2, z3, _⟩ := (R9.out.set4 (.int .i64 K) (.int .i64 h) (.slice A8 n c8) (.slice A9 n' c9)).four
    go_wp2_with fail
    refine bodyPost_ret (v := .agg #[.int .i64 K, .int .i64 h, .slice A8 n c8, .slice A9 n' c9]) ?_ rfl ⟨_, _, _, _, _, _, rfl, (O8.out.set4 (by omega) _ _ _ _).more (by omega), (O9.out.set4 (by omega) _ _ _ _).more (by omega), below_set4 B9.out (by omega) _ _ _ _, DJ.out⟩
    simp [results, Try.results43, go_sem, z0, z1, z2, z3]

set_option maxHeartbeats 4000000 in
theorem rtold_any (K h : Int) (A : Option Addr) (n c : Nat) (cs : List Int) (A' : Option Addr) (n' c' : Nat) (ds : List Int) (w : World) (hT : Tin w A n c cs A' n' c' ds) :
    Calls Try.prog 77 #[.agg #[.int .i64 K, .int .i64 h, .slice A n c, .slice A' n' c']] w fun e w' => e = .returned (toldV K h A n c A' n' c' (errT K h cs ds)) ∧ Below w.heap.size w w' := by
  have HT := hide hT
  have B0 := hide ((Below.refl w.heap.size w).alloc (Nat.le_refl _) (.cells #[.int .i64 K, .int .i64 h, .slice A n c, .slice A' n' c'] 24))
  have K0 := hide (Bk.born w 24 #[.int .i64 K, .int .i64 h, .slice A n c, .slice A' n' c'])
  have R0 := hide (Bk.bornAt (w := w.alloc (.cells #[.int .i64 K, .int .i64 h, .slice A n c, .slice A' n' c'] 24)) (g := w.heap.size + 1) (t := 24) (cs := #[.int .i64 0, .int .i64 0, .slice none 0 0, .slice none 0 0]) (by simp))
  replace K0 := hide (K0.out.more (.cells #[.int .i64 0, .int .i64 0, .slice none 0 0, .slice none 0 0] 24))
  replace B0 := hide (B0.out.alloc (by simp) (.cells #[.int .i64 0, .int .i64 0, .slice none 0 0, .slice none 0 0] 24))
  clear hT
  go_enter Try.func77, Try.ntmps77
  go_wp2_with fail
  refine (rValidate_any K h _ n c cs _ n' c' ds _ (HT.out.below B0.out (Nat.le_refl _))).mono ?_
  rintro e w1 ⟨rfl, b1⟩
  have B1 := hide (B0.out.trans (b1.mono B0.out.size))
  have K1 := hide (K0.out.keep b1 K0.out.in_)
  have R1 := hide (R0.out.keep b1 R0.out.in_)
  clear b1
  obtain ⟨k0, k1, k2, k3, _⟩ := K1.out.four
  obtain ⟨r0, r1, r2, r3, _⟩ := R1.out.four
  have f0 := R1.out.fr 0
  have f1 := R1.out.fr 1
  have f2 := R1.out.fr 2
  have f3 := R1.out.fr 3
  by_cases he : errT K h cs ds = 0
  · have HE := hide (toldV_ok (K := K) (h := h) (A := A) (n := n) (c := c) (A' := A') (n' := n') (c' := c') he)
    rw [he]
    clear he
    obtain ⟨z0, z1, z2, z3, _⟩ := (R1.out.set4 (.int .i64 K) (.int .i64 h) (.slice A n c) (.slice A' n' c')).four
    go_wp2_with fail
    refine bodyPost_ret (v := .tuple #[.agg #[.int .i64 K, .int .i64 h, .slice A n c, .slice A' n' c'], .int .i64 0]) ?_ rfl ⟨by rw [HE.out], below_set4 B1.out (by omega) _ _ _ _⟩
    simp [results, Try.results77, go_sem, z0, z1, z2, z3]
  · have HEN := hide he
    have HE := hide (toldV_no (K := K) (h := h) (A := A) (n := n) (c := c) (A' := A') (n' := n') (c' := c') he)
    have he' : (errT K h cs ds != 0) = true := by simpa using he
    obtain ⟨z0, z1, z2, z3, _⟩ := (R1.out.set4 (.int .i64 0) (.int .i64 0) (.slice none 0 0) (.slice none 0 0)).four
    go_wp2_with fail
    refine bodyPost_ret (v := .tuple #[.agg #[.int .i64 0, .int .i64 0, .slice none 0 0, .slice none 0 0], .int .i64 1]) ?_ rfl ⟨by rw [HE.out, errT_ne HEN.out], below_set4 B1.out (by omega) _ _ _ _⟩
    simp [results, Try.results77, go_sem, z0, z1, z2, z3]

end Go.Proofs.Ytlndjjdggedljaa

/- WalkRd -/
namespace Go.Proofs.Ytlndjjdggedljaa
open Go.RowKit

set_option maxHeartbeats 4000000 in
theorem rDearer_any (K h : Int) (A : Option Addr) (n c : Nat) (cs : List Int) (A' : Option Addr) (n' c' : Nat) (ds : List Int) (s : Int) (w : World) (hT : Tin w A n c cs A' n' c' ds) :
    Calls Try.prog 50 #[.agg #[.int .i64 K, .int .i64 h, .slice A n c, .slice A' n' c'], .int .i64 s] w (FourPost (dearF K h cs ds s) w) := by
  have HT := hide hT
  have L1 := hT.1.length
  have L2 := hT.2.length
  have B0 := hide ((Below.refl w.heap.size w).alloc (Nat.le_refl _) (.cells #[.int .i64 K, .int .i64 h, .slice A n c, .slice A' n' c'] 24))
  have K0 := hide (Bk.born w 24 #[.int .i64 K, .int .i64 h, .slice A n c, .slice A' n' c'])
  have R0 := hide (Bk.bornAt (w := w.alloc (.cells #[.int .i64 K, .int .i64 h, .slice A n c, .slice A' n' c'] 24)) (g := w.heap.size + 1) (t := 24) (cs := #[.int .i64 0, .int .i64 0, .slice none 0 0, .slice none 0 0]) (by simp))
  replace K0 := hide (K0.out.more (.cells #[.int .i64 0, .int .i64 0, .slice none 0 0, .slice none 0 0] 24))
  replace B0 := hide (B0.out.alloc (by simp) (.cells #[.int .i64 0, .int .i64 0, .slice none 0 0, .slice none 0 0] 24))
  clear hT
  by_cases he : errT K h cs ds = 0
  case neg =>
    have HV := hide (dearF_task (s := s) (not_okT he))
    have HE := hide (errT_ne he)
    clear he
    go_enter Try.func50, Try.ntmps50
    go_wp2_with fail
    refine (rValidate_any K h _ n c cs _ n' c' ds _ (HT.out.below B0.out (Nat.le_refl _))).mono ?_
    rw [HE.out]
    rintro e w1 ⟨rfl, b1⟩
    have B1 := hide (B0.out.trans (b1.mono B0.out.size))
    have R1 := hide (R0.out.keep b1 R0.out.in_)
    clear b1
    obtain ⟨r0, r1, r2, r3, _⟩ := R1.out.four
    have f0 := R1.out.fr 0
    have f1 := R1.out.fr 1
    have f2 := R1.out.fr 2
    have f3 := R1.out.fr 3
    obtain ⟨z0, z1, z2, z3, _⟩ := (R1.out.set4 (.int .i64 0) (.int .i64 0) (.slice none 0 0) (.slice none 0 0)).four
    go_wp2_with fail
    refine bodyPost_ret (v := .tuple #[.agg #[.int .i64 0, .int .i64 0, .slice none 0 0, .slice none 0 0], .int .i64 1]) ?_ rfl (by rw [HV.out]; exact ⟨_, _, _, _, _, _, rfl, Own.nil _ _, Own.nil _ _, below_set4 B1.out (by omega) _ _ _ _⟩)
    simp [results, Try.results50, go_sem, z0, z1, z2, z3]
  have o := errT_zero he
  have hn1 : 1 ≤ n' := by have := o.n1; omega
  have hn2 : n' ≤ 12 := by have := o.n2; omega
  obtain rfl : n = n' := by have := o.c.1; omega
  have OT := hide o
  have HE := hide he
  clear o he
  go_enter Try.func50, Try.ntmps50
  go_wp2_with fail
  refine (rValidate_any K h _ n c cs _ n c' ds _ (HT.out.below B0.out (Nat.le_refl _))).mono ?_
  rw [HE.out]
  rintro e w1 ⟨rfl, b1⟩
  have B1 := hide (B0.out.trans (b1.mono B0.out.size))
  have K1 := hide (K0.out.keep b1 K0.out.in_)
  have R1 := hide (R0.out.keep b1 R0.out.in_)
  clear b1
  obtain ⟨k0, k1, k2, k3, _⟩ := K1.out.four
  go_wp2_with fail
  refine (rCopy_any K h _ n c cs _ n c' ds _ (HT.out.below B1.out (Nat.le_refl _)) (by omega) (by omega) (by omega) (by omega)).mono ?_
  rintro e w2 ⟨A2, n2, c2, A3, n3, c3, rfl, o2, o3, b2, dj⟩
  obtain rfl : n2 = n := by have := o2.len; omega
  obtain rfl : n3 = n2 := by have := o3.len; omega
  have B2 := hide (B1.out.trans (b2.mono B1.out.size))
  have K2 := hide (K1.out.keep b2 K1.out.in_)
  have R2 := hide (R1.out.keep b2 R1.out.in_)
  have P2 := hide (o2.more (B' := w.heap.size + 2) R1.out.in_)
  have Q2 := hide (o3.more (B' := w.heap.size + 2) R1.out.in_)
  have DJ := hide dj
  clear b2 o2 o3 k0 k1 k2 k3 dj
  have P3 := hide (P2.out.alloc (.cells #[.int .i64 s, .int .i64 h, .slice A2 n3 c2, .slice A3 n3 c3] 24))
  have Q3 := hide (Q2.out.alloc (.cells #[.int .i64 s, .int .i64 h, .slice A2 n3 c2, .slice A3 n3 c3] 24))
  have R3 := hide (R2.out.more (.cells #[.int .i64 s, .int .i64 h, .slice A2 n3 c2, .slice A3 n3 c3] 24))
  have B3 := hide (B2.out.alloc B2.out.size (.cells #[.int .i64 s, .int .i64 h, .slice A2 n3 c2, .slice A3 n3 c3] 24))
  go_wp2_with fail
  refine (rtold_any s h _ n3 c2 cs _ n3 c3 ds _ ⟨P3.out.row, Q3.out.row⟩).mono ?_
  rintro e w4 ⟨rfl, b4⟩
  have B4 := hide (B3.out.trans (b4.mono B3.out.size))
  have R4 := hide (R3.out.keep b4 R3.out.in_)
  have P4 := hide (P3.out.below b4 (Nat.le_refl _))
  have Q4 := hide (Q3.out.below b4 (Nat.le_refl _))
  clear b4
  by_cases o2 : OkT s h cs ds
  · have HV := hide ((dearF_ok OT.out).trans (toldF_ok o2))
    rw [toldV_ok (errT_ok o2)]
    clear o2
    obtain ⟨r0, r1, r2, r3, _⟩ := R4.out.four
    have f0 := R4.out.fr 0
    have f1 := R4.out.fr 1
    have f2 := R4.out.fr 2
    have f3 := R4.out.fr 3
    obtain ⟨z0, z1, z2, z3, _⟩ := (R4.out.set4 (.int .i64 s) (.int .i64 h) (.slice A2 n3 c2) (.slice A3 n3 c3)).four
    go_wp2_with fail
    refine bodyPost_ret (v := .tuple #[.agg #[.int .i64 s, .int .i64 h, .slice A2 n3 c2, .slice A3 n3 c3], .int .i64 0]) ?_ rfl (by rw [HV.out]; exact ⟨_, _, _, _, _, _, rfl, (P4.out.set4 (by omega) _ _ _ _).more (by omega), (Q4.out.set4 (by omega) _ _ _ _).more (by omega), below_set4 B4.out (by omega) _ _ _ _⟩)
    simp [results, Try.results50, go_sem, z0, z1, z2, z3]
  · have HV := hide ((dearF_ok OT.out).trans (toldF_no o2))
    have e2 := errT_no o2
    rw [toldV_no (by rw [e2]; decide), e2]
    clear o2 e2
    obtain ⟨r0, r1, r2, r3, _⟩ := R4.out.four
    have f0 := R4.out.fr 0
    have f1 := R4.out.fr 1
    have f2 := R4.out.fr 2
    have f3 := R4.out.fr 3
    obtain ⟨z0, z1, z2, z3, _⟩ := (R4.out.set4 (.int .i64 0) (.int .i64 0) (.slice none 0 0) (.slice none 0 0)).four
    go_wp2_with fail
    refine bodyPost_ret (v := .tuple #[.agg #[.int .i64 0, .int .i64 0, .slice none 0 0, .slice none 0 0], .int .i64 1]) ?_ rfl (by rw [HV.out]; exact ⟨_, _, _, _, _, _, rfl, Own.nil _ _, Own.nil _ _, below_set4 B4.out (by omega) _ _ _ _⟩)
    simp [results, Try.results50, go_sem, z0, z1, z2, z3]

set_option maxHeartbeats 4000000 in
theorem Same_yes (K h : Int) (A : Option Addr) (n c : Nat) (cs : List Int) (A' : Option Addr) (n' c' : Nat) (ds : List Int) (D : Option Addr) (e : Nat) (D' : Option Addr) (e' : Nat) (w : World) (hT : Tin w A n c cs A' n' c' ds) (hU : Tin w D n e cs D' n' e' ds) :
    Calls Try.prog 46 #[.agg #[.int .i64 K, .int .i64 h, .slice A n c, .slice A' n' c'], .agg #[.int .i64 K, .int .i64 h, .slice D n e, .slice D' n' e']] w fun en w' => en = .returned (.bool true) ∧ Below w.heap.size w w' := by
  obtain ⟨⟨b1, o1, r1⟩, ⟨b2, o2, r2⟩⟩ := hT
  obtain ⟨⟨b3, o3, r3⟩, ⟨b4, o4, r4⟩⟩ := hU
  have m1 := r1.max
  have m2 := r2.max
  have m3 := r3.max
  have m4 := r4.max
  have p1 := r1.cap
  have p2 := r2.cap
  have p3 := r3.cap
  have p4 := r4.cap
  have B0 := hide (((Below.refl w.heap.size w).alloc (Nat.le_refl _) (.cells #[.int .i64 K, .int .i64 h, .slice A n c, .slice A' n' c'] 24)).alloc (by simp) (.cells #[.int .i64 K, .int .i64 h, .slice D n e, .slice D' n' e'] 24))
  have K0 := hide ((Bk.born w 24 #[.int .i64 K, .int .i64 h, .slice A n c, .slice A' n' c']).more (.cells #[.int .i64 K, .int .i64 h, .slice D n e, .slice D' n' e'] 24))
  have J0 := hide (Bk.bornAt (w := w.alloc (.cells #[.int .i64 K, .int .i64 h, .slice A n c, .slice A' n' c'] 24)) (g := w.heap.size + 1) (t := 24) (cs := #[.int .i64 K, .int .i64 h, .slice D n e, .slice D' n' e']) (by simp))
  have R1 := hide (r1.below B0.out (Nat.le_refl _))
  have R2 := hide (r2.below B0.out (Nat.le_refl _))
  have R3 := hide (r3.below B0.out (Nat.le_refl _))
  have R4 := hide (r4.below B0.out (Nat.le_refl _))
  clear r1 r2 r3 r4
  go_enter Try.func46, Try.ntmps46
  go_wp2_with fail
  generalize hW : (w.alloc (.cells #[.int .i64 K, .int .i64 h, .slice A n c, .slice A' n' c'] 24)).alloc (.cells #[.int .i64 K, .int .i64 h, .slice D n e, .slice D' n' e'] 24) = W at *
  clear hW
  go_loopw [5] (fun i wr => ∃ k m : Nat, k ≤ n ∧ i = .int .i64 k ∧ wr = W.drewN m) (fun i _ => n - (intOf i).toNat)
  case atStart => exact ⟨0, 0, by omega, rfl, rfl⟩
  case round =>
    obtain ⟨k, m, hk, rfl, rfl⟩ := hrel
    obtain ⟨k0, k1, k2, k3, _⟩ := K0.out.four
    obtain ⟨j0, j1, j2, j3, _⟩ := J0.out.four
    by_cases hlt : k < n
    · have x1 := R1.out.cell k hlt
      have x3 := R3.out.cell k hlt
      obtain rfl := R1.out.at_ (by omega)
      obtain rfl := R3.out.at_ (by omega)
      generalize cs.getD k 0 = x at *
      have l2 : (k : Int) < n := by omega
      go_wp2_with fail
      go_quiet (fail)
      go_wp2
      go_roundw
      case rel => exact ⟨k + 1, _, by omega, by go_num, rfl⟩
      case measure => simp [intOf]; omega
    · obtain rfl : k = n := by omega
      go_wp2_with fail
      go_loopw [6] (fun i wr => ∃ q m : Nat, q ≤ n' ∧ i = .int .i64 q ∧ wr = W.drewN m) (fun i _ => n' - (intOf i).toNat)
      case atStart => exact ⟨0, m, by omega, rfl, rfl⟩
      case round =>
        obtain ⟨q, m', hq, rfl, rfl⟩ := hrel
        by_cases hlt : q < n'
        · have x1 := R2.out.cell q hlt
          have x3 := R4.out.cell q hlt
          obtain rfl := R2.out.at_ (by omega)
          obtain rfl := R4.out.at_ (by omega)
          generalize ds.getD q 0 = x at *
          have l2 : (q : Int) < n' := by omega
          go_wp2_with fail
          go_quiet (fail)
          go_wp2
          go_roundw
          case rel => exact ⟨q + 1, _, by omega, by go_num, rfl⟩
          case measure => simp [intOf]; omega
        · go_wp2_with fail
          go_ret
          exact ⟨rfl, below_drewN B0.out _⟩

end Go.Proofs.Ytlndjjdggedljaa

/- WalkLd -/
namespace Go.Proofs.Ytlndjjdggedljaa
open Go.RowKit

theorem f_mono {t t' : Tk} {n : Nat} (h : ∀ l m, l ≤ m → m ≤ n → t.tog l m ≤ t'.tog l m) : ∀ {m : Nat}, m ≤ n → t.f m ≤ t'.f m := by
  intro m
  induction m using Nat.strongRecOn with
  | ind m ih =>
    intro hm
    by_cases h0 : m = 0
    · subst h0; rw [Tk.f_zero, Tk.f_zero]; exact Int.le_refl _
    · obtain ⟨e1, e2, _⟩ := t'.f_eq (n := m) (by omega)
      have a := (t.f_eq (n := m) (by omega)).2.2 (t'.q m) e2
      have b := ih (t'.q m) e2 (by omega)
      have c := h (t'.q m) m (by omega) hm
      omega
theorem f_same {t t' : Tk} {n : Nat} (h : ∀ l m, l ≤ m → m ≤ n → t.tog l m = t'.tog l m) {m : Nat} (hm : m ≤ n) : t.f m = t'.f m := by
  have a := f_mono (t := t) (t' := t') (fun l m h1 h2 => by rw [h l m h1 h2]; exact Int.le_refl _) hm
  have b := f_mono (t := t') (t' := t) (fun l m h1 h2 => by rw [h l m h1 h2]; exact Int.le_refl _) hm
  omega
theorem f_dear {K K' h : Int} {cs ds : List Int} (hK : K ≤ K') (n : Nat) : (tk K h cs ds).f n ≤ (tk K' h cs ds).f n := by
  refine f_mono (n := n) (fun l m _ _ => ?_) (Nat.le_refl _)
  have u : (tk K h cs ds).units l m = (tk K' h cs ds).units l m := rfl
  have s : (tk K h cs ds).save l m = (tk K' h cs ds).save l m := rfl
  unfold Tk.tog
  rw [u, s]
  split
  · exact Int.le_refl _
  · show K + _ ≤ K' + _
    omega
theorem dearF_er {K h : Int} {cs ds : List Int} {s : Int} (e : (dearF K h cs ds s).er = 0) : OkT K h cs ds ∧ OkT s h cs ds ∧ dearF K h cs ds s = ⟨s, h, cs, ds, 0⟩ := by
  by_cases o : OkT K h cs ds
  · by_cases o2 : OkT s h cs ds
    · exact ⟨o, o2, (dearF_ok o).trans (toldF_ok o2)⟩
    · rw [dearF_ok o, toldF_no o2] at e
      cases e
  · rw [dearF_task o] at e
    cases e

set_option maxHeartbeats 4000000 in
theorem AirDearer_walk (K h : Int) (A : Option Addr) (n c : Nat) (cs : List Int) (A' : Option Addr) (n' c' : Nat) (ds : List Int) (by' : Int) (w : World)
    (hT : Tin w A n c cs A' n' c' ds) :
    Calls Try.prog 13 #[.agg #[.int .i64 K, .int .i64 h, .slice A n c, .slice A' n' c'], .int .i64 by'] w fun e w' => e = .returned (.bool true) ∧ Below w.heap.size w w' := by
  have HT := hide hT
  have B0 := hide ((Below.refl w.heap.size w).alloc (Nat.le_refl _) (.cells #[.int .i64 K, .int .i64 h, .slice A n c, .slice A' n' c'] 24))
  have K0 := hide (Bk.born w 24 #[.int .i64 K, .int .i64 h, .slice A n c, .slice A' n' c'])
  clear hT
  by_cases hL : 100 < n ∨ 100 < n'
  case pos =>
    go_enter Try.func13, Try.ntmps13
    go_wp2_with fail
    refine (Long_any K h _ n c cs _ n' c' ds _ (HT.out.below B0.out (Nat.le_refl _))).mono ?_
    rw [decide_eq_true hL]
    rintro e w1 ⟨rfl, b1⟩
    have B1 := hide (B0.out.trans (b1.mono B0.out.size))
    have K1 := hide (K0.out.keep b1 K0.out.in_)
    clear b1
    go_wp2_with fail
    refine (known_any _).mono ?_
    rintro e wz ⟨rfl, bz⟩
    go_wp2_with fail
    go_ret
    exact ⟨rfl, B1.out.trans (bz.mono B1.out.size)⟩
  go_enter Try.func13, Try.ntmps13
  go_wp2_with fail
  refine (Long_any K h _ n c cs _ n' c' ds _ (HT.out.below B0.out (Nat.le_refl _))).mono ?_
  rw [decide_eq_false hL]
  rintro e w1 ⟨rfl, b1⟩
  have B1 := hide (B0.out.trans (b1.mono B0.out.size))
  have K1 := hide (K0.out.keep b1 K0.out.in_)
  clear b1
  obtain ⟨k0, k1, k2, k3, _⟩ := K1.out.four
  go_wp2_with fail
  refine (Dearer_any K h _ n c cs _ n' c' ds by' _ (HT.out.below B1.out (Nat.le_refl _))).mono ?_
  rintro e w2 ⟨Aa, na, ca, Ba, ma, da, rfl, oa, pa, b2⟩
  have B2 := hide (B1.out.trans (b2.mono B1.out.size))
  have K2 := hide (K1.out.keep b2 K1.out.in_)
  clear b2
  clear k0 k1 k2 k3
  have Ra := hide (oa.row)
  have Sa := hide (pa.row)
  have La := hide oa.len
  have Ma := hide pa.len
  clear oa pa
  have HFe := hide (fun e => dearF_er (K := K) (h := h) (cs := cs) (ds := ds) (s := by') e)
  generalize hF : dearF K h cs ds by' = F at *
  have HFe0 := hide hF
  clear hF
  have B3 := hide (B2.out.alloc B2.out.size (.cells #[.int .i64 F.K, .int .i64 F.h, .slice Aa na ca, .slice Ba ma da] 24))
  have K3 := hide (K2.out.more (.cells #[.int .i64 F.K, .int .i64 F.h, .slice Aa na ca, .slice Ba ma da] 24))
  replace Ra := hide (Ra.out.alloc (.cells #[.int .i64 F.K, .int .i64 F.h, .slice Aa na ca, .slice Ba ma da] 24))
  replace Sa := hide (Sa.out.alloc (.cells #[.int .i64 F.K, .int .i64 F.h, .slice Aa na ca, .slice Ba ma da] 24))
  have Xa := hide (Bk.born w2 24 #[.int .i64 F.K, .int .i64 F.h, .slice Aa na ca, .slice Ba ma da])
  obtain ⟨k0, k1, k2, k3, _⟩ := K3.out.four
  go_wp2_with fail
  have RD := rDearer_any K h _ n c cs _ n' c' ds by' _ (HT.out.below B3.out (Nat.le_refl _))
  rw [HFe0.out] at RD
  refine RD.mono ?_
  rintro e w4 ⟨Ab, nb, cb, Bb, mb, db, rfl, ob, pb, b4⟩
  have B4 := hide (B3.out.trans (b4.mono B3.out.size))
  have K4 := hide (K3.out.keep b4 K3.out.in_)
  replace Ra := hide (Ra.out.below b4 (Nat.le_refl _))
  replace Sa := hide (Sa.out.below b4 (Nat.le_refl _))
  replace Xa := hide (Xa.out.keep b4 Xa.out.in_)
  clear b4
  clear k0 k1 k2 k3 RD
  obtain rfl : nb = na := by have := ob.len; have := La.out; omega
  obtain rfl : mb = ma := by have := pb.len; have := Ma.out; omega
  have Rb := hide (ob.row)
  have Sb := hide (pb.row)
  clear ob pb
  have B5 := hide (B4.out.alloc B4.out.size (.cells #[.int .i64 F.K, .int .i64 F.h, .slice Ab nb cb, .slice Bb mb db] 24))
  have K5 := hide (K4.out.more (.cells #[.int .i64 F.K, .int .i64 F.h, .slice Ab nb cb, .slice Bb mb db] 24))
  replace Ra := hide (Ra.out.alloc (.cells #[.int .i64 F.K, .int .i64 F.h, .slice Ab nb cb, .slice Bb mb db] 24))
  replace Sa := hide (Sa.out.alloc (.cells #[.int .i64 F.K, .int .i64 F.h, .slice Ab nb cb, .slice Bb mb db] 24))
  replace Rb := hide (Rb.out.alloc (.cells #[.int .i64 F.K, .int .i64 F.h, .slice Ab nb cb, .slice Bb mb db] 24))
  replace Sb := hide (Sb.out.alloc (.cells #[.int .i64 F.K, .int .i64 F.h, .slice Ab nb cb, .slice Bb mb db] 24))
  replace Xa := hide (Xa.out.more (.cells #[.int .i64 F.K, .int .i64 F.h, .slice Ab nb cb, .slice Bb mb db] 24))
  have Xb := hide (Bk.born w4 24 #[.int .i64 F.K, .int .i64 F.h, .slice Ab nb cb, .slice Bb mb db])
  obtain ⟨x0, x1, x2, x3, _⟩ := Xa.out.four
  obtain ⟨y0, y1, y2, y3, _⟩ := Xb.out.four
  go_wp2_with fail
  refine (Same_yes F.K F.h _ nb _ F.cs _ mb _ F.ds _ _ _ _ _ ⟨Ra.out, Sa.out⟩ ⟨Rb.out, Sb.out⟩).mono ?_
  rintro e w6 ⟨rfl, b6⟩
  have B6 := hide (B5.out.trans (b6.mono B5.out.size))
  have K6 := hide (K5.out.keep b6 K5.out.in_)
  replace Ra := hide (Ra.out.below b6 (Nat.le_refl _))
  replace Sa := hide (Sa.out.below b6 (Nat.le_refl _))
  replace Rb := hide (Rb.out.below b6 (Nat.le_refl _))
  replace Sb := hide (Sb.out.below b6 (Nat.le_refl _))
  replace Xa := hide (Xa.out.keep b6 Xa.out.in_)
  replace Xb := hide (Xb.out.keep b6 Xb.out.in_)
  clear b6
  clear x0 x1 x2 x3 y0 y1 y2 y3
  obtain ⟨k0, k1, k2, k3, _⟩ := K6.out.four
  go_wp2_with fail
  refine (Least_any K h _ n c cs _ n' c' ds _ (HT.out.below B6.out (Nat.le_refl _))).mono ?_
  rintro e w7 ⟨rfl, b7⟩
  have B7 := hide (B6.out.trans (b7.mono B6.out.size))
  have K7 := hide (K6.out.keep b7 K6.out.in_)
  replace Ra := hide (Ra.out.below b7 (Nat.le_refl _))
  replace Sa := hide (Sa.out.below b7 (Nat.le_refl _))
  replace Rb := hide (Rb.out.below b7 (Nat.le_refl _))
  replace Sb := hide (Sb.out.below b7 (Nat.le_refl _))
  replace Xa := hide (Xa.out.keep b7 Xa.out.in_)
  replace Xb := hide (Xb.out.keep b7 Xb.out.in_)
  clear b7
  clear k0 k1 k2 k3
  obtain ⟨x0, x1, x2, x3, _⟩ := Xa.out.four
  go_wp2_with fail
  refine (Least_any F.K F.h _ nb _ F.cs _ mb _ F.ds _ ⟨Ra.out, Sa.out⟩).mono ?_
  rintro e w8 ⟨rfl, b8⟩
  have B8 := hide (B7.out.trans (b8.mono B7.out.size))
  have K8 := hide (K7.out.keep b8 K7.out.in_)
  replace Ra := hide (Ra.out.below b8 (Nat.le_refl _))
  replace Sa := hide (Sa.out.below b8 (Nat.le_refl _))
  replace Rb := hide (Rb.out.below b8 (Nat.le_refl _))
  replace Sb := hide (Sb.out.below b8 (Nat.le_refl _))
  replace Xa := hide (Xa.out.keep b8 Xa.out.in_)
  replace Xb := hide (Xb.out.keep b8 Xb.out.in_)
  clear b8
  clear x0 x1 x2 x3
  obtain ⟨k0, k1, k2, k3, _⟩ := K8.out.four
  by_cases he : F.er = 0
  case neg =>
    have he' : (F.er != 0) = true := by simpa using he
    go_wp2_with fail
    refine (known_any _).mono ?_
    rintro e wz ⟨rfl, bz⟩
    go_wp2_with fail
    go_ret
    exact ⟨rfl, B8.out.trans (bz.mono B8.out.size)⟩
  have HG := HFe.out he
  obtain ⟨o1, o2, e3⟩ := HG
  clear HFe HFe0
  subst e3
  simp only at *
  rw [errT_ok o1, errT_ok o2, okv_zero rfl, okv_zero rfl]
  have H1 := hide (fun (q : by' ≤ K) => f_dear (h := h) (cs := cs) (ds := ds) q ds.length)
  have H2 := hide (fun (q : K ≤ by') => f_dear (h := h) (cs := cs) (ds := ds) q ds.length)
  clear o1 o2 he
  generalize (tk K h cs ds).f ds.length = f1 at *
  generalize (tk by' h cs ds).f ds.length = f2 at *
  by_cases c1 : by' < K
  · have g1 := H1.out (by omega)
    go_wp2_with fail
    refine (known_any _).mono ?_
    rintro e wz ⟨rfl, bz⟩
    go_wp2_with fail
    go_ret
    exact ⟨rfl, B8.out.trans (bz.mono B8.out.size)⟩
  · have g2 := H2.out (by omega)
    by_cases c2 : K < by'
    · skip
      go_wp2_with fail
      refine (known_any _).mono ?_
      rintro e wz ⟨rfl, bz⟩
      go_wp2_with fail
      go_ret
      exact ⟨rfl, B8.out.trans (bz.mono B8.out.size)⟩
    · have g1 := H1.out (by omega)
      go_wp2_with fail
      refine (known_any _).mono ?_
      rintro e wz ⟨rfl, bz⟩
      go_wp2_with fail
      go_ret
      exact ⟨rfl, B8.out.trans (bz.mono B8.out.size)⟩

end Go.Proofs.Ytlndjjdggedljaa
