/- Walks: tables, the program; the table of the document. -/
import Derived.Test.YtndfdminjegldaaWalkX
import Derived.Test.YtndfdminjegldaaWalkP
import Derived.Deep.RegionHeldLaw
namespace Go.Proofs.Ytndfdminjegldaa
open Go.RowKit Go.Shelf
attribute [local go_sem] Oper.semAt_some

set_option maxRecDepth 100000 in
set_option maxHeartbeats 4000000 in
theorem CheckTable_any (A : Option Addr) (n c : Nat) (xs : List Int) (A' : Option Addr) (n' c' : Nat) (ys : List Int) (o i h : Int) (At : Option Addr) (nt ct : Nat) (T : Tbl) (w : World) (hx : R E1 w A n c xs) (hy : R E1 w A' n' c' ys) (hT : RR w At nt ct T) :
    Calls Try.prog 33 #[.slice A n c, .slice A' n' c', cV o i h, .slice At nt ct] w fun e w' => e = .returned (.tuple #[.int .i64 (valG xs ys ⟨o, i, h⟩ T), .int .i64 (errG xs ys ⟨o, i, h⟩ T)]) ∧ Below w.heap.size w w' := by
  have BX := hide ((Below.refl w.heap.size w).alloc (Nat.le_refl _) (.cells #[.int .i64 o, .int .i64 i, .int .i64 h] 24))
  have HBK := hide (Bk.born w 24 #[.int .i64 o, .int .i64 i, .int .i64 h])
  have HX := hide (hx.below BX.out (Nat.le_refl _))
  have HY := hide (hy.below BX.out (Nat.le_refl _))
  have HT := hide (hT.below BX.out)
  have HLX := hide hx.length
  have HLY := hide hy.length
  have hz : w.heap.size < (w.alloc (.cells #[.int .i64 o, .int .i64 i, .int .i64 h] 24)).heap.size := by simp
  by_cases he : errD xs ys ⟨o, i, h⟩ = 0
  · have HE := hide he
    obtain ⟨h1, h2, h3⟩ := errD_ok.1 he
    have hn : n ≤ 10 := by rw [← hx.length]; exact (errL_ok.1 h1).1
    have hn' : n' ≤ 10 := by rw [← hy.length]; exact (errL_ok.1 h2).1
    obtain ⟨ho, hi, hh⟩ := h3
    simp only at ho hi hh
    by_cases hs : Shp (n + 1) (n' + 1) T
    · have HS := hide hs
      have HSB := hide (shB_true.2 hs)
      obtain ⟨bt, ot, rfl, hct, hmt⟩ := rr_some hT (by rw [← (rr_le hT).2, hs.1]; omega)
      have hnt : nt = n + 1 := by rw [← (rr_le hT).2]; exact hs.1
      subst hnt
      have HS2 := hide (show Shp (xs.length + 1) (ys.length + 1) T from by rw [HLX.out, HLY.out]; exact hs)
      by_cases hg : Grw xs ys ⟨o, i, h⟩ T
      · have HG := hide (grB_true.2 hg)
        have HEG := hide (errG_ok he HS2.out hg)
        have HVG := hide (show valG xs ys ⟨o, i, h⟩ T = tv T n n' from by rw [valG_ok HEG.out, HLX.out, HLY.out])
        clear hx hy hT he h1 h2 hs hg
        go_enter Try.func33, Try.ntmps33
        go_wp2_with (first
          | (go_at_call 55; refine (validateAll_any A n c xs A' n' c' ys o i h _ HX.out HY.out).mono ?_; rintro e1 w1 ⟨rfl, b1⟩; rw [HE.out]; have B1 := hide b1; clear b1; have k0 := (HBK.out.keep B1.out hz).at_ 0; have k1 := (HBK.out.keep B1.out hz).at_ 1; have k2 := (HBK.out.keep B1.out hz).at_ 2; simp at k0 k1 k2)
          | (go_at_call 70; refine (isTable_any _ (n + 1) ct T (n + 1) (n' + 1) _ (HT.out.below B1.out) (by omega) (by omega) (by omega) (by omega)).mono ?_; rintro e2 w2 ⟨rfl, rfl⟩; rw [HSB.out])
          | (go_at_call 71; refine (growsSlowly_any bt ot (n + 1) ct T A n c xs A' n' c' ys o i h _ (HT.out.below B1.out) HS.out rfl ⟨hct, hmt⟩ (HX.out.below B1.out (Nat.le_refl _)) (HY.out.below B1.out (Nat.le_refl _)) hn hn' ho hi hh).mono ?_; rintro e3 w3 ⟨rfl, b3⟩; rw [HG.out]; have B3 := hide (B1.out.trans (b3.mono B1.out.size)); clear b3; obtain ⟨hb0, _, b2, off2, c2, m1, m2, hb2, hc2, hc3⟩ := row_at (HT.out.below B3.out) HS.out (by omega) (r := n) (by omega); have m3 := m2 n' (by omega); clear m2))
        go_ret2
        exact ⟨by rw [HVG.out, HEG.out]; rfl, le_call BX.out B3.out⟩
      · have HG := hide (grB_false hg)
        have HEG := hide (errG_gr he HS2.out hg)
        have HVG := hide (show valG xs ys ⟨o, i, h⟩ T = 0 from valG_no (by rw [HEG.out]; decide))
        clear hx hy hT he h1 h2 hs hg
        go_enter Try.func33, Try.ntmps33
        go_wp2_with (first
          | (go_at_call 55; refine (validateAll_any A n c xs A' n' c' ys o i h _ HX.out HY.out).mono ?_; rintro e1 w1 ⟨rfl, b1⟩; rw [HE.out]; have B1 := hide b1; clear b1; have k0 := (HBK.out.keep B1.out hz).at_ 0; have k1 := (HBK.out.keep B1.out hz).at_ 1; have k2 := (HBK.out.keep B1.out hz).at_ 2; simp at k0 k1 k2)
          | (go_at_call 70; refine (isTable_any _ (n + 1) ct T (n + 1) (n' + 1) _ (HT.out.below B1.out) (by omega) (by omega) (by omega) (by omega)).mono ?_; rintro e2 w2 ⟨rfl, rfl⟩; rw [HSB.out])
          | (go_at_call 71; refine (growsSlowly_any bt ot (n + 1) ct T A n c xs A' n' c' ys o i h _ (HT.out.below B1.out) HS.out rfl ⟨hct, hmt⟩ (HX.out.below B1.out (Nat.le_refl _)) (HY.out.below B1.out (Nat.le_refl _)) hn hn' ho hi hh).mono ?_; rintro e3 w3 ⟨rfl, b3⟩; rw [HG.out]; have B3 := hide (B1.out.trans (b3.mono B1.out.size)); clear b3))
        go_ret2
        exact ⟨by rw [HVG.out, HEG.out]; rfl, le_call BX.out B3.out⟩
    · have HSB := hide (shB_false hs)
      have HEG := hide (errG_sh (T := T) he (by rw [HLX.out, HLY.out]; exact hs))
      have HVG := hide (show valG xs ys ⟨o, i, h⟩ T = 0 from valG_no (by rw [HEG.out]; decide))
      clear hx hy hT he h1 h2 hs
      go_enter Try.func33, Try.ntmps33
      go_wp2_with (first
        | (go_at_call 55; refine (validateAll_any A n c xs A' n' c' ys o i h _ HX.out HY.out).mono ?_; rintro e1 w1 ⟨rfl, b1⟩; rw [HE.out]; have B1 := hide b1; clear b1)
        | (go_at_call 70; refine (isTable_any _ nt ct T (n + 1) (n' + 1) _ (HT.out.below B1.out) (by omega) (by omega) (by omega) (by omega)).mono ?_; rintro e2 w2 ⟨rfl, rfl⟩; rw [HSB.out]))
      go_ret2
      exact ⟨by rw [HVG.out, HEG.out]; rfl, le_call BX.out B1.out⟩
  · have HEG := hide (errG_no (T := T) he)
    have HVG := hide (show valG xs ys ⟨o, i, h⟩ T = 0 from valG_no (by rw [HEG.out]; exact he))
    have hne : (errD xs ys ⟨o, i, h⟩ != 0) = true := by simpa using he
    clear hx hy hT he
    go_enter Try.func33, Try.ntmps33
    go_wp2_with (go_at_call 55; refine (validateAll_any A n c xs A' n' c' ys o i h _ HX.out HY.out).mono ?_; rintro e1 w1 ⟨rfl, b1⟩; have B1 := hide b1; clear b1)
    go_ret2
    exact ⟨by rw [HVG.out, HEG.out]; rfl, le_call BX.out B1.out⟩
def tabV (l m : List Int) (c : Cst) : Tbl := if errD l m c = 0 then tabL l m c (l.length + 1) (m.length + 1) else []
theorem tabV_ok {l m : List Int} {c : Cst} (h : errD l m c = 0) : tabV l m c = tabL l m c (l.length + 1) (m.length + 1) := if_pos h
theorem tabV_no {l m : List Int} {c : Cst} (h : errD l m c ≠ 0) : tabV l m c = [] := if_neg h
def TblPost (er : Int) (T : Tbl) (w : World) (e : Ending) (w' : World) : Prop :=
  ∃ A n c, e = .returned (.tuple #[.slice A n c, .int .i64 er]) ∧ RR w' A n c T ∧ Below w.heap.size w w'
theorem RR.nil (w : World) : RR w none 0 0 [] := ⟨[], R.nil EH w, rfl, fun k hk => by omega⟩
/-- A table of one block reads as rows. -/
theorem tab_rr {w : World} {B gO gC N M : Nat} {L : List Int} {l m : List Int} {c : Cst} (h : Tab w B gO gC N M L) (hd : ∀ r k, r < N → k < M → L.getD (r * M + k) 0 = dd l m c r k) (hM : M ≤ 1000) (hN : N ≤ 1000) : RR w (some ⟨gO, 0, none⟩) N N (tabL l m c N M) := by
  refine ⟨hdrs gC N M, h.hd.row, tabL_len _ _, fun k hk => ?_⟩
  rw [hdrs_at hk, tabL_row hk]
  have := h.row hk (by omega)
  have e : rowL L M k = (List.range M).map fun j => dd l m c k j := by
    unfold rowL
    exact List.map_congr_left fun j hj => hd k j hk (List.mem_range.1 hj)
  rw [e] at this
  exact this
set_option maxRecDepth 100000 in
set_option maxHeartbeats 4000000 in
theorem Table_any (A : Option Addr) (n c : Nat) (xs : List Int) (A' : Option Addr) (n' c' : Nat) (ys : List Int) (o i h : Int) (w : World) (hx : R E1 w A n c xs) (hy : R E1 w A' n' c' ys) :
    Calls Try.prog 35 #[.slice A n c, .slice A' n' c', cV o i h] w (TblPost (errD xs ys ⟨o, i, h⟩) (tabV xs ys ⟨o, i, h⟩) w) := by
  have BX := hide ((Below.refl w.heap.size w).alloc (Nat.le_refl _) (.cells #[.int .i64 o, .int .i64 i, .int .i64 h] 24))
  have HBK := hide (Bk.born w 24 #[.int .i64 o, .int .i64 i, .int .i64 h])
  have HX := hide (hx.below BX.out (Nat.le_refl _))
  have HY := hide (hy.below BX.out (Nat.le_refl _))
  have HLX := hide hx.length
  have HLY := hide hy.length
  have hz : w.heap.size < (w.alloc (.cells #[.int .i64 o, .int .i64 i, .int .i64 h] 24)).heap.size := by simp
  by_cases he : errD xs ys ⟨o, i, h⟩ = 0
  · have HE := hide he
    have HV := hide (show tabV xs ys ⟨o, i, h⟩ = tabL xs ys ⟨o, i, h⟩ (n + 1) (n' + 1) from by rw [tabV_ok he, HLX.out, HLY.out])
    obtain ⟨h1, h2, h3⟩ := errD_ok.1 he
    have hn : n ≤ 10 := by rw [← hx.length]; exact (errL_ok.1 h1).1
    have hn' : n' ≤ 10 := by rw [← hy.length]; exact (errL_ok.1 h2).1
    obtain ⟨ho, hi, hh⟩ := h3
    simp only at ho hi hh
    clear hx hy he h1 h2
    go_enter Try.func35, Try.ntmps35
    go_wp2_with (first
      | (go_at_call 55; refine (validateAll_any A n c xs A' n' c' ys o i h _ HX.out HY.out).mono ?_; rintro e1 w1 ⟨rfl, b1⟩; rw [HE.out]; have B1 := hide b1; clear b1; have k0 := (HBK.out.keep B1.out hz).at_ 0; have k1 := (HBK.out.keep B1.out hz).at_ 1; have k2 := (HBK.out.keep B1.out hz).at_ 2; simp at k0 k1 k2)
      | (go_at_call 63; refine (distances_any A n c xs A' n' c' ys o i h _ (HX.out.below B1.out (Nat.le_refl _)) (HY.out.below B1.out (Nat.le_refl _)) hn hn' ho hi hh).mono ?_; rintro e2 w2 ⟨gO, gC, L1, rfl, t1, d1, b2⟩; have T1 := hide (tab_rr t1 (fun r k hr hk => d1 r k (by omega) (by omega)) (by omega) (by omega)); have B2 := hide b2; clear t1 d1 b2))
    go_ret2
    exact ⟨_, _, _, by rw [HE.out]; rfl, by rw [HV.out]; exact T1.out, le_call (le_call BX.out B1.out) B2.out⟩
  · have HV := hide (tabV_no he)
    have hne : (errD xs ys ⟨o, i, h⟩ != 0) = true := by simpa using he
    clear hx hy he
    go_enter Try.func35, Try.ntmps35
    go_wp2_with (go_at_call 55; refine (validateAll_any A n c xs A' n' c' ys o i h _ HX.out HY.out).mono ?_; rintro e1 w1 ⟨rfl, b1⟩; have B1 := hide b1; clear b1)
    go_ret2
    exact ⟨none, 0, 0, rfl, by rw [HV.out]; exact RR.nil _, le_call BX.out B1.out⟩
end Go.Proofs.Ytndfdminjegldaa
