/- Walks of copies of tasks: slices.Clone, copied, checked (program). -/
import Derived.Test.YtjhnfcmijijdcaaWalkPv
import Derived.Laws.IdiomCopy
namespace Go.Proofs.Ytjhnfcmijijdcaa
open Go.RowKit

set_option maxHeartbeats 400000 in
theorem Clone_any (A : Option Addr) (n c : Nat) (xs : List Int) (w : World) (h : Row w A n c xs) (hn1 : 1 ≤ n) (hn : n ≤ 1000) :
    Calls Try.prog 86 #[.slice A n c] w fun e w' => ∃ A' c', e = .returned (.slice A' n c') ∧ Own w' w.heap.size A' n c' xs ∧ Below w.heap.size w w' := by
  have HR := hide h
  obtain ⟨b, off, h1, hcap, hmax, h2, h3, h4⟩ := h
  obtain rfl := h2 (by omega)
  clear h1 h2 h3 h4
  have hq := fun W : World => Lib.run_eql_slice_nil (P := Try.prog) W 22 3 (some ⟨b, off, none⟩) n c 0 0 Try.underlying22
  go_enter Try.func86, Try.ntmps86
  go_wp2_with (at_builtin; refine wpList_appN _ rfl (.tmp 5) (.tmp 6) rfl w.heap.size 0 0 (some ⟨w.heap.size, 0, none⟩) [] (some ⟨b, off, none⟩) n c xs rfl rfl (Own.lit w [] (Nat.le_refl _) (by simp)) (HR.out.alloc _) hn1 (by omega) (by omega) (by simp) ?_; intro A1 c1 w1 hown hb hg; rw [Nat.zero_add] at hown ⊢)
  go_ret
  exact ⟨A1, c1, rfl, by simpa using hown, ((Below.refl _ _).alloc (Nat.le_refl _) _).trans hb⟩


theorem Bk.set4 {w : World} {g : Nat} {t : TypeId} {x y z u : Value} (h : Bk w g t #[x, y, z, u]) (x' y' z' u' : Value) :
    Bk ((((w.setCell ⟨g, 0, none⟩ x').setCell ⟨g, 1, none⟩ y').setCell ⟨g, 2, none⟩ z').setCell ⟨g, 3, none⟩ u') g t #[x', y', z', u'] := (((h.put 0 x').put 1 y').put 2 z').put 3 u'
theorem Bk.set23 {w : World} {g : Nat} {t : TypeId} {x y z u : Value} (h : Bk w g t #[x, y, z, u]) (z' u' : Value) :
    Bk ((w.setCell ⟨g, 2, none⟩ z').setCell ⟨g, 3, none⟩ u') g t #[x, y, z', u'] := (h.put 2 z').put 3 u'
theorem Own.set_apart {w : World} {B g k c : Nat} {A : Option Addr} {l : List Int} (h : Own w B A k c l) (hg : g < B) (i : Nat) (u : Value) : Own (w.setCell ⟨g, i, none⟩ u) B A k c l := by
  rcases h.form with ⟨rfl, rfl, rfl, rfl⟩ | ⟨g', rfl, hb, _⟩
  · exact Own.nil _ _
  · exact h.apart (by simp [Value.ownBlock]; omega) _
theorem Own.set4 {w : World} {B g k c : Nat} {A : Option Addr} {l : List Int} (h : Own w B A k c l) (hg : g < B) (x y z u : Value) :
    Own ((((w.setCell ⟨g, 0, none⟩ x).setCell ⟨g, 1, none⟩ y).setCell ⟨g, 2, none⟩ z).setCell ⟨g, 3, none⟩ u) B A k c l :=
  (((h.set_apart hg 0 x).set_apart hg 1 y).set_apart hg 2 z).set_apart hg 3 u
theorem below_set4 {B : Nat} {w0 w : World} {g : Nat} (h : Below B w0 w) (hg : B ≤ g) (x y z u : Value) : Below B w0 ((((w.setCell ⟨g, 0, none⟩ x).setCell ⟨g, 1, none⟩ y).setCell ⟨g, 2, none⟩ z).setCell ⟨g, 3, none⟩ u) :=
  (((h.setCell hg x).setCell hg y).setCell hg z).setCell hg u

theorem own_apart {w8 w9 : World} {B C n c n' c' : Nat} {A A' : Option Addr} {xs ys : List Int} (o8 : Own w8 B A n c xs) (o9 : Own w9 C A' n' c' ys) (h : w8.heap.size ≤ C) : ∀ g, A = some ⟨g, 0, none⟩ → A' ≠ some ⟨g, 0, none⟩ := by
  intro g h1 h2
  rcases o8.form with ⟨e, _⟩ | ⟨g8, e, _, l8, _⟩
  · rw [e] at h1; cases h1
  · rcases o9.form with ⟨e', _⟩ | ⟨g9, e', l9, _⟩
    · rw [e'] at h2; cases h2
    · rw [e] at h1
      rw [e'] at h2
      injection h1 with h1
      injection h1 with h1
      injection h2 with h2
      injection h2 with h2
      omega

/-- The call hands back a task in memory of its own. -/
def CopyPost (K h : Int) (cs ds : List Int) (w : World) (e : Ending) (w' : World) : Prop :=
  ∃ A n c A' n' c', e = .returned (.agg #[.int .i64 K, .int .i64 h, .slice A n c, .slice A' n' c']) ∧ Own w' w.heap.size A n c cs ∧ Own w' w.heap.size A' n' c' ds ∧ Below w.heap.size w w' ∧ ∀ g, A = some ⟨g, 0, none⟩ → A' ≠ some ⟨g, 0, none⟩
set_option maxHeartbeats 4000000 in
theorem copied_any (K h : Int) (A : Option Addr) (n c : Nat) (cs : List Int) (A' : Option Addr) (n' c' : Nat) (ds : List Int) (w : World)
    (hT : Tin w A n c cs A' n' c' ds) (hn1 : 1 ≤ n) (hn : n ≤ 1000) (hn1' : 1 ≤ n') (hn' : n' ≤ 1000) :
    Calls Try.prog 75 #[.agg #[.int .i64 K, .int .i64 h, .slice A n c, .slice A' n' c']] w (CopyPost K h cs ds w) := by
  have HT := hide hT
  have B0 := hide ((Below.refl w.heap.size w).alloc (Nat.le_refl _) (.cells #[.int .i64 K, .int .i64 h, .slice A n c, .slice A' n' c'] 24))
  have K0 := hide (Bk.born w 24 #[.int .i64 K, .int .i64 h, .slice A n c, .slice A' n' c'])
  have R0 := hide (Bk.bornAt (w := w.alloc (.cells #[.int .i64 K, .int .i64 h, .slice A n c, .slice A' n' c'] 24)) (g := w.heap.size + 1) (t := 24) (cs := #[.int .i64 0, .int .i64 0, .slice none 0 0, .slice none 0 0]) (by simp))
  replace K0 := hide (K0.out.more (.cells #[.int .i64 0, .int .i64 0, .slice none 0 0, .slice none 0 0] 24))
  replace B0 := hide (B0.out.alloc (by simp) (.cells #[.int .i64 0, .int .i64 0, .slice none 0 0, .slice none 0 0] 24))
  clear hT
  go_enter Try.func75, Try.ntmps75
  go_wp2_with fail
  obtain ⟨k0, k1, k2, k3, _⟩ := K0.out.four
  have B1 := hide B0.out.drew
  have K1 := hide K0.out.draw
  have R1 := hide R0.out.draw
  have C1 := hide (Clone_any _ _ _ cs _ (HT.out.1.below B1.out (Nat.le_refl _)) hn1 hn)
  have D1 := hide (fun W hb => Clone_any _ _ _ ds W (HT.out.2.below hb (Nat.le_refl _)) hn1' hn')
  have fz1 := K1.out.fr 2
  have fz2 := K1.out.fr 3
  go_region_law (first
    | (go_simp; go_at_call 86; refine C1.out.mono ?_; rintro e8 w8 ⟨A8, c8, rfl, o8, hb8⟩; have B8 := hide (B1.out.trans (hb8.mono (by simp; omega))); have K8 := hide (K1.out.keep hb8 (by simp; try omega)); have R8 := hide (R1.out.keep hb8 (by simp; try omega)); have O8 := hide (o8.more (B' := w.heap.size + 2) (by simp; try omega)); obtain ⟨p0, p1, p2, p3, _⟩ := K8.out.four; have q2 := K8.out.fr 2; have q3 := K8.out.fr 3; clear o8 hb8)
    | (go_simp; go_at_call 86; refine (D1.out w8 B8.out).mono ?_; rintro e9 w9 ⟨A9, c9, rfl, o9, hb9⟩; have s8 := hb9.size; have B9 := hide (B8.out.trans (hb9.mono B8.out.size)); have K9 := hide (K8.out.keep hb9 K8.out.in_); have R9 := hide (R8.out.keep hb9 R8.out.in_); have O89 := hide (O8.out.below hb9 (Nat.le_refl _)); have DJ := hide (own_apart O8.out o9 (Nat.le_refl _)); have O9 := hide (o9.more (B' := w.heap.size + 2) R8.out.in_); obtain ⟨p0, p1, p2, p3, _⟩ := K9.out.four; have q2 := K9.out.fr 2; have q3 := K9.out.fr 3; clear o9 hb9))
  all_goals
    have K10 := hide (K9.out.set23 (.slice A8 n c8) (.slice A9 n' c9))
    have R10 := hide ((R9.out.apart (p := ⟨w.heap.size, 2, none⟩) (by simp) (.slice A8 n c8)).apart (p := ⟨w.heap.size, 3, none⟩) (by simp) (.slice A9 n' c9))
    have P10 := hide ((O89.out.set_apart (g := w.heap.size) (by omega) 2 (.slice A8 n c8)).set_apart (g := w.heap.size) (by omega) 3 (.slice A9 n' c9))
    have Q10 := hide ((O9.out.set_apart (g := w.heap.size) (by omega) 2 (.slice A8 n c8)).set_apart (g := w.heap.size) (by omega) 3 (.slice A9 n' c9))
    have B10 := hide ((B9.out.setCell (p := ⟨w.heap.size, 2, none⟩) (Nat.le_refl _) (.slice A8 n c8)).setCell (p := ⟨w.heap.size, 3, none⟩) (Nat.le_refl _) (.slice A9 n' c9))
    generalize (w9.setCell ⟨w.heap.size, 2, none⟩ (.slice A8 n c8)).setCell ⟨w.heap.size, 3, none⟩ (.slice A9 n' c9) = W at *
    clear p0 p1 p2 p3 q2 q3 k0 k1 k2 k3 fz1 fz2 s8
    obtain ⟨k0, k1, k2, k3, _⟩ := K10.out.four
    obtain ⟨r0, r1, r2, r3, _⟩ := R10.out.four
    have f0 := R10.out.fr 0
    have f1 := R10.out.fr 1
    have f2 := R10.out.fr 2
    have f3 := R10.out.fr 3
    obtain ⟨z0, z1, z2, z3, _⟩ := (R10.out.set4 (.int .i64 K) (.int .i64 h) (.slice A8 n c8) (.slice A9 n' c9)).four
    go_wp2_with fail
    refine bodyPost_ret (v := .agg #[.int .i64 K, .int .i64 h, .slice A8 n c8, .slice A9 n' c9]) ?_ rfl ⟨_, _, _, _, _, _, rfl, (P10.out.set4 (by omega) _ _ _ _).more (by omega), (Q10.out.set4 (by omega) _ _ _ _).more (by omega), below_set4 B10.out (by omega) _ _ _ _, DJ.out⟩
    simp [results, Try.results75, go_sem, z0, z1, z2, z3]

/-- The task, or none, with the error. -/
def toldV (K h : Int) (A : Option Addr) (n c : Nat) (A' : Option Addr) (n' c' : Nat) (er : Int) : Value :=
  if er = 0 then .tuple #[.agg #[.int .i64 K, .int .i64 h, .slice A n c, .slice A' n' c'], .int .i64 0] else .tuple #[.agg #[.int .i64 0, .int .i64 0, .slice none 0 0, .slice none 0 0], .int .i64 er]
theorem toldV_ok {K h : Int} {A : Option Addr} {n c : Nat} {A' : Option Addr} {n' c' : Nat} {er : Int} (e : er = 0) : toldV K h A n c A' n' c' er = .tuple #[.agg #[.int .i64 K, .int .i64 h, .slice A n c, .slice A' n' c'], .int .i64 0] := by
  unfold toldV; rw [if_pos e]
theorem toldV_no {K h : Int} {A : Option Addr} {n c : Nat} {A' : Option Addr} {n' c' : Nat} {er : Int} (e : ¬ er = 0) : toldV K h A n c A' n' c' er = .tuple #[.agg #[.int .i64 0, .int .i64 0, .slice none 0 0, .slice none 0 0], .int .i64 er] := by
  unfold toldV; rw [if_neg e]
set_option maxHeartbeats 4000000 in
theorem checked_any (K h : Int) (A : Option Addr) (n c : Nat) (cs : List Int) (A' : Option Addr) (n' c' : Nat) (ds : List Int) (w : World) (hT : Tin w A n c cs A' n' c' ds) :
    Calls Try.prog 76 #[.agg #[.int .i64 K, .int .i64 h, .slice A n c, .slice A' n' c']] w fun e w' => e = .returned (toldV K h A n c A' n' c' (errT K h cs ds)) ∧ Below w.heap.size w w' := by
  have HT := hide hT
  have B0 := hide ((Below.refl w.heap.size w).alloc (Nat.le_refl _) (.cells #[.int .i64 K, .int .i64 h, .slice A n c, .slice A' n' c'] 24))
  have K0 := hide (Bk.born w 24 #[.int .i64 K, .int .i64 h, .slice A n c, .slice A' n' c'])
  have R0 := hide (Bk.bornAt (w := w.alloc (.cells #[.int .i64 K, .int .i64 h, .slice A n c, .slice A' n' c'] 24)) (g := w.heap.size + 1) (t := 24) (cs := #[.int .i64 0, .int .i64 0, .slice none 0 0, .slice none 0 0]) (by simp))
  replace K0 := hide (K0.out.more (.cells #[.int .i64 0, .int .i64 0, .slice none 0 0, .slice none 0 0] 24))
  replace B0 := hide (B0.out.alloc (by simp) (.cells #[.int .i64 0, .int .i64 0, .slice none 0 0, .slice none 0 0] 24))
  clear hT
  go_enter Try.func76, Try.ntmps76
  go_wp2_with fail
  refine (Validate_any K h _ n c cs _ n' c' ds _ (HT.out.below B0.out (Nat.le_refl _))).mono ?_
  rintro e w1 ⟨rfl, b1⟩
  have B1 := hide (B0.out.trans (b1.mono B0.out.size))
  have K1 := hide (K0.out.keep b1 K0.out.in_)
  have R1 := hide (R0.out.keep b1 R0.out.in_)
  clear b1
  obtain ⟨k0, k1, k2, k3, _⟩ := K1.out.four
  obtain ⟨r0, r1, r2, r3, _⟩ := R1.out.four
  have f0 := R1.out.fr 0
  have f1 := R1.out.fr 1
  have f2 := R1.out.fr 2
  have f3 := R1.out.fr 3
  by_cases he : errT K h cs ds = 0
  · have HE := hide (toldV_ok (K := K) (h := h) (A := A) (n := n) (c := c) (A' := A') (n' := n') (c' := c') he)
    rw [he]
    clear he
    obtain ⟨z0, z1, z2, z3, _⟩ := (R1.out.set4 (.int .i64 K) (.int .i64 h) (.slice A n c) (.slice A' n' c')).four
    go_wp2_with fail
    refine bodyPost_ret (v := .tuple #[.agg #[.int .i64 K, .int .i64 h, .slice A n c, .slice A' n' c'], .int .i64 0]) ?_ rfl ⟨by rw [HE.out], below_set4 B1.out (by omega) _ _ _ _⟩
    simp [results, Try.results76, go_sem, z0, z1, z2, z3]
  · have HE := hide (toldV_no (K := K) (h := h) (A := A) (n := n) (c := c) (A' := A') (n' := n') (c' := c') he)
    have he' : (errT K h cs ds != 0) = true := by simpa using he
    obtain ⟨z0, z1, z2, z3, _⟩ := (R1.out.set4 (.int .i64 0) (.int .i64 0) (.slice none 0 0) (.slice none 0 0)).four
    go_wp2_with fail
    refine bodyPost_ret (v := .tuple #[.agg #[.int .i64 0, .int .i64 0, .slice none 0 0, .slice none 0 0], .int .i64 (errT K h cs ds)]) ?_ rfl ⟨by rw [HE.out], below_set4 B1.out (by omega) _ _ _ _⟩
    simp [results, Try.results76, go_sem, z0, z1, z2, z3]

end Go.Proofs.Ytjhnfcmijijdcaa
