/- Mathematics: tables that grow slowly. -/
import Derived.Test.YtndfdminjegldaaMS
namespace Go.Proofs.Ytndfdminjegldaa

abbrev Tbl := List (List Int)
def tv (T : Tbl) (r k : Nat) : Int := (T.getD r []).getD k 0
def ShR (M : Nat) (xs : List Int) : Prop := xs.length = M ∧ ∀ k, k < M → -1000 ≤ xs.getD k 0 ∧ xs.getD k 0 ≤ 1000
def ShTo (M : Nat) (T : Tbl) (t : Nat) : Prop := ∀ r, r < t → ShR M (T.getD r [])
def Shp (N M : Nat) (T : Tbl) : Prop := T.length = N ∧ ShTo M T N
def okG (l m : List Int) (c : Cst) (T : Tbl) (r k : Nat) : Prop := ∀ e ∈ eds l m r k, tv T r k ≤ bd c (tv T) r k e
/-- The numbers before (r, k), row by row, are as they should be. -/
def GrTo (l m : List Int) (c : Cst) (T : Tbl) (M r k : Nat) : Prop := ∀ a b, b < M → (a < r ∨ (a = r ∧ b < k)) → okG l m c T a b
def Grw (l m : List Int) (c : Cst) (T : Tbl) : Prop := tv T 0 0 = 0 ∧ GrTo l m c T (m.length + 1) (l.length + 1) 0
noncomputable def shB (N M : Nat) (T : Tbl) : Bool := @decide (Shp N M T) (Classical.propDecidable _)
noncomputable def grB (l m : List Int) (c : Cst) (T : Tbl) : Bool := @decide (Grw l m c T) (Classical.propDecidable _)
theorem shB_true {N M : Nat} {T : Tbl} : shB N M T = true ↔ Shp N M T := by unfold shB; exact @decide_eq_true_iff _ (Classical.propDecidable _)
theorem grB_true {l m : List Int} {c : Cst} {T : Tbl} : grB l m c T = true ↔ Grw l m c T := by unfold grB; exact @decide_eq_true_iff _ (Classical.propDecidable _)
theorem shB_false {N M : Nat} {T : Tbl} (h : ¬ Shp N M T) : shB N M T = false := by rw [Bool.eq_false_iff, Ne, shB_true]; exact h
theorem grB_false {l m : List Int} {c : Cst} {T : Tbl} (h : ¬ Grw l m c T) : grB l m c T = false := by rw [Bool.eq_false_iff, Ne, grB_true]; exact h
noncomputable def errG (l m : List Int) (c : Cst) (T : Tbl) : Int := if errD l m c = 0 then (if shB (l.length + 1) (m.length + 1) T = true then (if grB l m c T = true then 0 else 7) else 1) else errD l m c
noncomputable def valG (l m : List Int) (c : Cst) (T : Tbl) : Int := if errG l m c T = 0 then tv T l.length m.length else 0
section
variable {l m : List Int} {c : Cst} {T : Tbl}
theorem errG_no (h : errD l m c ≠ 0) : errG l m c T = errD l m c := if_neg h
theorem errG_sh (h : errD l m c = 0) (h1 : ¬ Shp (l.length + 1) (m.length + 1) T) : errG l m c T = 1 := by unfold errG; rw [if_pos h, if_neg (by rw [shB_true]; exact h1)]
theorem errG_gr (h : errD l m c = 0) (h1 : Shp (l.length + 1) (m.length + 1) T) (h2 : ¬ Grw l m c T) : errG l m c T = 7 := by unfold errG; rw [if_pos h, if_pos (shB_true.2 h1), if_neg (by rw [grB_true]; exact h2)]
theorem errG_ok (h : errD l m c = 0) (h1 : Shp (l.length + 1) (m.length + 1) T) (h2 : Grw l m c T) : errG l m c T = 0 := by unfold errG; rw [if_pos h, if_pos (shB_true.2 h1), if_pos (grB_true.2 h2)]
theorem errG_zero (h : errG l m c T = 0) : errD l m c = 0 ∧ Shp (l.length + 1) (m.length + 1) T ∧ Grw l m c T := by
  unfold errG at h
  by_cases h0 : errD l m c = 0
  · rw [if_pos h0] at h
    by_cases h1 : shB (l.length + 1) (m.length + 1) T = true
    · rw [if_pos h1] at h
      by_cases h2 : grB l m c T = true
      · exact ⟨h0, shB_true.1 h1, grB_true.1 h2⟩
      · rw [if_neg h2] at h; omega
    · rw [if_neg h1] at h; omega
  · rw [if_neg h0] at h; exact absurd h h0
theorem valG_ok (h : errG l m c T = 0) : valG l m c T = tv T l.length m.length := if_pos h
theorem valG_no (h : errG l m c T ≠ 0) : valG l m c T = 0 := if_neg h
theorem sh_succ {M t : Nat} (h : ShTo M T t) (h1 : ShR M (T.getD t [])) : ShTo M T (t + 1) := fun r hr => by
  by_cases e : r = t
  · subst e; exact h1
  · exact h r (by omega)
theorem gr_start {M : Nat} : GrTo l m c T M 0 0 := fun a b _ h => by omega
theorem gr_row {M r : Nat} (h : GrTo l m c T M r M) : GrTo l m c T M (r + 1) 0 := fun a b hb h1 => h a b hb (by omega)
theorem gr_succ {M r k : Nat} (h : GrTo l m c T M r k) (h1 : okG l m c T r k) : GrTo l m c T M r (k + 1) := fun a b hb h2 => by
  by_cases e : a = r ∧ b = k
  · obtain ⟨rfl, rfl⟩ := e; exact h1
  · exact h a b hb (by omega)
theorem bd_out (r k : Nat) : bd c (tv T) (r + 1) k 0 = tv T r k + c.o := rfl
theorem bd_inn (r k : Nat) : bd c (tv T) r (k + 1) 1 = tv T r k + c.i := rfl
theorem eds_out (l m : List Int) (r k : Nat) : (0 : Int) ∈ eds l m (r + 1) k := by unfold eds; simp
theorem eds_inn (l m : List Int) (r k : Nat) : (1 : Int) ∈ eds l m r (k + 1) := by unfold eds; simp
theorem eds_prd (l m : List Int) (r k : Nat) : (if l.getD r 0 = m.getD k 0 then 3 else 2 : Int) ∈ eds l m (r + 1) (k + 1) := by unfold eds; simp
theorem bd_prd (r k : Nat) : bd c (tv T) (r + 1) (k + 1) (if l.getD r 0 = m.getD k 0 then 3 else 2) = tv T r k + chg c (l.getD r 0) (m.getD k 0) := by
  unfold chg
  by_cases h : l.getD r 0 = m.getD k 0
  · rw [if_pos h, if_pos h]; rfl
  · rw [if_neg h, if_neg h]; rfl
/-- What grows slowly is at most the distance. -/
theorem grw_dist (h : Grw l m c T) : tv T l.length m.length ≤ dist l m c := by
  obtain ⟨h0, hg⟩ := h
  refine slow_dist (tv T) h0 (fun r k hr hk => ?_) (fun r k hr hk => ?_) (fun r k hr hk => ?_)
  · have := hg (r + 1) k (by omega) (.inl (by omega)) 0 (eds_out l m r k)
    rwa [bd_out] at this
  · have := hg r (k + 1) (by omega) (.inl (by omega)) 1 (eds_inn l m r k)
    rwa [bd_inn] at this
  · have := hg (r + 1) (k + 1) (by omega) (.inl (by omega)) _ (eds_prd l m r k)
    rwa [bd_prd] at this
/-- The document's three questions at one number. -/
theorem okG_iff {r k : Nat} : okG l m c T r k ↔ (0 < r → tv T r k ≤ tv T (r - 1) k + c.o) ∧ (0 < k → tv T r k ≤ tv T r (k - 1) + c.i) ∧ (0 < r → 0 < k → tv T r k ≤ tv T (r - 1) (k - 1) + chg c (l.getD (r - 1) 0) (m.getD (k - 1) 0)) := by
  constructor
  · intro h
    refine ⟨fun hr => ?_, fun hk => ?_, fun hr hk => ?_⟩
    · obtain ⟨r, rfl⟩ : ∃ a, r = a + 1 := ⟨r - 1, by omega⟩
      exact h 0 (eds_out l m r k)
    · obtain ⟨k, rfl⟩ : ∃ a, k = a + 1 := ⟨k - 1, by omega⟩
      exact h 1 (eds_inn l m r k)
    · obtain ⟨r, rfl⟩ : ∃ a, r = a + 1 := ⟨r - 1, by omega⟩
      obtain ⟨k, rfl⟩ : ∃ a, k = a + 1 := ⟨k - 1, by omega⟩
      have := h _ (eds_prd l m r k)
      rwa [bd_prd] at this
  · intro ⟨h1, h2, h3⟩ e he
    rcases mem_eds he with ⟨rfl, hr⟩ | ⟨rfl, hk⟩ | ⟨he2, hr, hk⟩
    · exact h1 hr
    · exact h2 hk
    · have hp := (eds_pair (c := c) he he2).2.2
      have e1 : bd c (tv T) r k e = tv T (r - 1) (k - 1) + (if e = 3 then 0 else c.h) := by
        unfold bd
        rw [if_neg (by omega), if_neg (by omega)]
      rw [e1, hp]
      exact h3 hr hk
/-- The table of the distances of the first signs. -/
def tabL (l m : List Int) (c : Cst) (N M : Nat) : Tbl := (List.range N).map fun r => (List.range M).map fun k => dd l m c r k
theorem tabL_len (N M : Nat) : (tabL l m c N M).length = N := by simp [tabL]
theorem tabL_row {N M r : Nat} (hr : r < N) : (tabL l m c N M).getD r [] = (List.range M).map fun k => dd l m c r k := by
  rw [List.getD_eq_getElem?_getD]; simp [tabL, hr]
theorem tabL_at {N M r k : Nat} (hr : r < N) (hk : k < M) : tv (tabL l m c N M) r k = dd l m c r k := by
  unfold tv
  rw [tabL_row hr, List.getD_eq_getElem?_getD]; simp [hk]
theorem tab_good (he : errD l m c = 0) : errG l m c (tabL l m c (l.length + 1) (m.length + 1)) = 0 ∧ valG l m c (tabL l m c (l.length + 1) (m.length + 1)) = dist l m c := by
  obtain ⟨h1, h2, h3⟩ := errD_ok.1 he
  have n1 := (errL_ok.1 h1).1
  have n2 := (errL_ok.1 h2).1
  have hs : Shp (l.length + 1) (m.length + 1) (tabL l m c (l.length + 1) (m.length + 1)) := ⟨tabL_len _ _, fun r hr => by
    rw [tabL_row hr]
    refine ⟨by simp, fun k hk => ?_⟩
    have := dd_bd (l := l) (m := m) h3 r k
    have e : ((List.range (m.length + 1)).map fun k => dd l m c r k).getD k 0 = dd l m c r k := by rw [List.getD_eq_getElem?_getD]; simp [hk]
    rw [e]
    omega⟩
  have hg : Grw l m c (tabL l m c (l.length + 1) (m.length + 1)) := by
    refine ⟨by rw [tabL_at (by omega) (by omega)]; simp [dd], fun a b hb h => ?_⟩
    have ha : a < l.length + 1 := by omega
    rw [okG_iff]
    refine ⟨fun hr => ?_, fun hk => ?_, fun hr hk => ?_⟩
    · obtain ⟨a, rfl⟩ : ∃ q, a = q + 1 := ⟨a - 1, by omega⟩
      rw [tabL_at ha hb, Nat.add_sub_cancel, tabL_at (by omega) hb]; exact dd_out a b
    · obtain ⟨b, rfl⟩ : ∃ q, b = q + 1 := ⟨b - 1, by omega⟩
      rw [tabL_at ha hb, Nat.add_sub_cancel, tabL_at ha (by omega)]; exact dd_inn a b
    · obtain ⟨a, rfl⟩ : ∃ q, a = q + 1 := ⟨a - 1, by omega⟩
      obtain ⟨b, rfl⟩ : ∃ q, b = q + 1 := ⟨b - 1, by omega⟩
      rw [tabL_at ha hb, Nat.add_sub_cancel, Nat.add_sub_cancel, tabL_at (by omega) (by omega)]; exact dd_pair a b
  have h0 := errG_ok he hs hg
  refine ⟨h0, ?_⟩
  rw [valG_ok h0, tabL_at (by omega) (by omega)]; rfl
end
end Go.Proofs.Ytndfdminjegldaa
