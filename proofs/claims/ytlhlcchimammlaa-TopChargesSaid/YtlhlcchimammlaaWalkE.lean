/- The amounts found so far: what is asked of them, and one more. -/
import Derived.Test.YtlhlcchimammlaaWalkD
namespace Go.Proofs.Ytlhlcchimammlaa
open Go.RowKit Go.Shelf

theorem getD_any {l : List Int} {k : Nat} (h : k < l.length) (a b : Int) : l.getD k a = l.getD k b := by
  rw [List.getD_eq_getElem?_getD, List.getD_eq_getElem?_getD, List.getElem?_eq_getElem h]; rfl
/-- The struct of amounts. -/
abbrev amV (Aw : Option Addr) (nw cw : Nat) (Af : Option Addr) (nf cf : Nat) : Value := .agg #[.slice Aw nw cw, .slice Af nf cf]
abbrev amC (Aw : Option Addr) (nw cw : Nat) (Af : Option Addr) (nf cf : Nat) : Array Value := #[.slice Aw nw cw, .slice Af nf cf]
set_option maxHeartbeats 1000000 in
theorem isGap_any (Aw : Option Addr) (nw cw : Nat) (Af : Option Addr) (nf cf : Nat) (fs : List Int) (m : Nat) (w : World) (h : R E1 w Af nf cf fs) (hm : m < nf) :
    Calls Try.prog 63 #[amV Aw nw cw Af nf cf, .int .i64 m] w fun e w' => e = .returned (.bool (fs.getD m (-1) == -1)) ∧ Below w.heap.size w w' := by
  have hle := h.le
  have HG := hide (getD_any (l := fs) (k := m) (by rw [h.length]; exact hm) (-1) 0)
  obtain ⟨b, off, hr⟩ := h
  obtain rfl := hr.at_ (by omega)
  have hbl := hr.lt (by omega)
  have hB : Below w.heap.size w (w.alloc (.cells (amC Aw nw cw (some ⟨b, off, none⟩) nf cf) 52)) := (Below.refl _ w).alloc (Nat.le_refl _) _
  have hc := c1 (hr.under hB fun _ => hbl) hm
  have HB := hide hB
  have HR := hide hr
  clear hr hB
  rw [HG.out]
  generalize fs.getD m 0 = x at *
  have hmn : (m : Int) < (nf : Int) := by omega
  go_enter Try.func63, Try.ntmps63
  go_wp2
  go_ret
  exact ⟨rfl, HB.out⟩
set_option maxHeartbeats 1000000 in
theorem isMadeUp_any (Aw : Option Addr) (nw cw : Nat) (Af : Option Addr) (nf cf : Nat) (fs : List Int) (m : Nat) (w : World) (h : R E1 w Af nf cf fs) (hm : m < nf) :
    Calls Try.prog 62 #[amV Aw nw cw Af nf cf, .int .i64 m] w fun e w' => e = .returned (.bool (!(fs.getD m (-1) == -1))) ∧ Below w.heap.size w w' := by
  have HR := hide h
  have HB := hide (show Below w.heap.size w (w.alloc (.cells (amC Aw nw cw Af nf cf) 52)) from (Below.refl _ w).alloc (Nat.le_refl _) _)
  clear h
  go_enter Try.func62, Try.ntmps62
  go_wp2_with (go_at_call 63; refine (isGap_any Aw nw cw Af nf cf fs m _ (HR.out.below HB.out (Nat.le_refl _)) hm).mono ?_; rintro e w1 ⟨rfl, b1⟩; have B1 := hide b1; clear b1)
  go_ret
  exact ⟨rfl, HB.out.trans (B1.out.mono HB.out.size)⟩

def foTo (xs fs : List Int) (m k : Nat) : Int := (xs.take k).foldl (stepO fs m) (-1)
theorem foTo_succ {xs fs : List Int} {m k : Nat} (h : k < xs.length) : foTo xs fs m (k + 1) = stepO fs m (foTo xs fs m k) (xs.getD k 0) := by
  unfold foTo
  rw [take_snocI h, List.foldl_append]
  rfl
theorem foTo_all (xs fs : List Int) (m : Nat) : foTo xs fs m xs.length = oneM xs fs m := by unfold foTo oneM; rw [List.take_length]
theorem stepO_far {fs : List Int} {m : Nat} {s x : Int} (h : (m : Int) < x) : stepO fs m s x = s := by unfold stepO; rw [if_neg (by omega)]
theorem stepO_gap {fs : List Int} {m y : Nat} {s : Int} (h : fs.getD (m - y) (-1) = -1) : stepO fs m s (y : Int) = s := by
  unfold stepO
  by_cases hy : y ≤ m
  · rw [show ((m : Int) - (y : Int)).toNat = m - y by omega, h, if_neg (by omega)]
  · rw [if_neg (by omega)]
theorem stepO_new {fs : List Int} {m y : Nat} {s : Int} (hy : y ≤ m) (h : fs.getD (m - y) (-1) ≠ -1) (hs : s = -1 ∨ fs.getD (m - y) (-1) + 1 < s) : stepO fs m s (y : Int) = fs.getD (m - y) (-1) + 1 := by
  unfold stepO
  rw [show ((m : Int) - (y : Int)).toNat = m - y by omega, if_pos ⟨by omega, h, hs⟩]
theorem stepO_old {fs : List Int} {m y : Nat} {s : Int} (hs : ¬ (s = -1 ∨ fs.getD (m - y) (-1) + 1 < s)) : stepO fs m s (y : Int) = s := by
  unfold stepO
  by_cases hy : y ≤ m
  · rw [show ((m : Int) - (y : Int)).toNat = m - y by omega, if_neg (fun h => hs h.2.2)]
  · rw [if_neg (by omega)]
theorem foTo_bd {xs fs : List Int} {m : Nat} (hx : Wt xs) (hf : ∀ i, i < m → -1 ≤ fs.getD i (-1) ∧ fs.getD i (-1) ≤ 100000) : ∀ {k : Nat}, k ≤ xs.length → -1 ≤ foTo xs fs m k ∧ foTo xs fs m k ≤ 100001
  | 0, _ => by simp [foTo]
  | k + 1, hk => by
    have ih := foTo_bd hx hf (k := k) (by omega)
    have h1 := hx.at_ (k := k) (by omega)
    rw [foTo_succ (by omega)]
    unfold stepO
    split
    · have := hf ((m : Int) - xs.getD k 0).toNat (by omega)
      omega
    · exact ih
set_option maxRecDepth 100000 in
set_option maxHeartbeats 2000000 in
theorem oneMore_any (Aw : Option Addr) (nw cw : Nat) (xs : List Int) (Af : Option Addr) (m cf : Nat) (fs : List Int) (w : World) (hx : R E1 w Aw nw cw xs) (h : R E1 w Af m cf fs) (hw : Wt xs) (hm : m ≤ 100000) (hf : ∀ i, i < m → -1 ≤ fs.getD i (-1) ∧ fs.getD i (-1) ≤ 100000) :
    Calls Try.prog 80 #[amV Aw nw cw Af m cf, .int .i64 m] w fun e w' => e = .returned (.int .i64 (oneM xs fs m)) ∧ Below w.heap.size w w' := by
  have hle := h.le
  have hlx := hx.le
  have HL := hide hx.length
  have HF := hide h.length
  have HW := hide hw
  have HX := hide hx
  have HR := hide h
  have HFB := hide hf
  have HB := hide (show Below w.heap.size w (w.alloc (.cells (amC Aw nw cw Af m cf) 52)) from (Below.refl _ w).alloc (Nat.le_refl _) _)
  have HK := hide (Bk.born w 52 (amC Aw nw cw Af m cf))
  clear h hx hw hf
  go_enter Try.func80, Try.ntmps80
  go_wp2_with fail
  go_loopw [5, 12] (fun s i wr => ∃ k : Nat, k ≤ nw ∧ i = .int .i64 k ∧ s = .int .i64 (foTo xs fs m k) ∧ Hid (Below (w.heap.size + 1) (w.alloc (.cells (amC Aw nw cw Af m cf) 52)) wr)) (fun _ i _ => nw - (intOf i).toNat)
  case atStart => exact ⟨0, Nat.zero_le _, rfl, rfl, hide (Below.refl _ _)⟩
  case round =>
    obtain ⟨k, hk, rfl, rfl, HD⟩ := hrel
    have HD0 := hide (HB.out.trans (HD.out.mono (by omega)))
    have hk2 := HK.out.keep HD.out (by omega)
    have p0 := hk2.at_ 0
    have p1 := hk2.at_ 1
    simp at p0 p1
    have HK2 := hide hk2
    have hsz := HD.out.size
    simp at hsz
    clear hk2
    have hfb := foTo_bd HW.out HFB.out (k := k) (by rw [HL.out]; exact hk)
    by_cases hlt : k < nw
    · obtain ⟨bw, ow, rw'⟩ := HX.out
      obtain rfl := rw'.at_ (by omega)
      have hc1 := c1 (rw'.below HD0.out (Nat.le_refl _)) hlt
      have hx1 := HW.out.at_ (k := k) (by rw [HL.out]; exact hlt)
      have HS := hide (foTo_succ (xs := xs) (fs := fs) (m := m) (k := k) (by rw [HL.out]; exact hlt))
      clear rw'
      generalize xs.getD k 0 = x at hc1 hx1 HS
      generalize foTo xs fs m k = s at hfb HS
      obtain ⟨y, rfl⟩ : ∃ y : Nat, x = (y : Int) := ⟨x.toNat, by omega⟩
      by_cases hy : y ≤ m
      · have hym : (y : Int) ≤ (m : Int) := by omega
        have hsub : ((m : Int) - (y : Int)) = ((m - y : Nat) : Int) := by omega
        have hdy : decide (m < y) = false := by simpa using hy
        have hmy : m - y < m := by omega
        have hv := HFB.out (m - y) hmy
        have HSN := hide (fun h hs => stepO_new (fs := fs) (m := m) (y := y) (s := s) hy h hs)
        have HSO := hide (fun hs => stepO_old (fs := fs) (m := m) (y := y) (s := s) hs)
        have HSG := hide (fun h => stepO_gap (fs := fs) (m := m) (y := y) (s := s) h)
        have hfc := HR.out.below HD0.out (Nat.le_refl _)
        have HGD := hide (getD_any (l := fs) (k := m - y) (by rw [HF.out]; exact hmy) (-1) 0)
        by_cases hg : fs.getD (m - y) (-1) = -1
        · have HGG := hide (show (fs.getD (m - y) (-1) == -1) = true from by rw [hg]; rfl)
          have HSK := hide (HSG.out hg)
          clear hg HSN HSO hfc hv
          go_wp2_with (go_at_call 63; refine (isGap_any _ nw cw _ m cf fs (m - y) _ (HR.out.below HD0.out (Nat.le_refl _)) hmy).mono ?_; rw [HGG.out]; rintro e w1 ⟨rfl, b1⟩; have B1 := hide b1; clear b1)
          go_roundw
          case rel => exact ⟨k + 1, by omega, by go_num, by rw [HS.out, HSK.out], hide (HD.out.trans (B1.out.mono (by omega)))⟩
          case measure => simp [intOf]; omega
        · have HGG := hide (show (fs.getD (m - y) (-1) == -1) = false from by simpa using hg)
          obtain ⟨bf, of, rf⟩ := hfc
          obtain rfl := rf.at_ (by omega)
          have HC1 := hide (fun (w1 : World) (hb : Below wr.heap.size wr w1) => (show w1.cell? ⟨bf, of + (m - y), none⟩ = some (.int .i64 (fs.getD (m - y) (-1))) from by rw [HGD.out]; exact c1 (rf.below hb (Nat.le_refl _)) hmy))
          have HK1 := hide (fun (w1 : World) (hb : Below wr.heap.size wr w1) => HK2.out.keep hb HK2.out.in_)
          have HRF := hide rf
          clear rf
          by_cases hs1 : s = -1
          · have HSK := hide (HSN.out hg (.inl hs1))
            have hsb : (s == -1) = true := by simpa using hs1
            have hsd : decide (s = -1) = true := by simpa using hs1
            clear HSN HSO HSG
            generalize hve : fs.getD (m - y) (-1) = v at *
            have HVE := hide hve
            clear hve
            go_wp2_with (go_at_call 63; refine (isGap_any _ nw cw _ m cf fs (m - y) _ (HR.out.below HD0.out (Nat.le_refl _)) hmy).mono ?_; rw [HVE.out, HGG.out]; rintro e w1 ⟨rfl, b1⟩; have k1 := HK1.out w1 b1; have f1 := HC1.out w1 b1; have q0 := k1.at_ 0; have q1 := k1.at_ 1; simp at q0 q1; have B1 := hide b1; clear b1 k1)
            all_goals
              go_roundw
              case rel => exact ⟨k + 1, by omega, by go_num, by rw [HS.out, HSK.out], hide (HD.out.trans (B1.out.mono (by omega)))⟩
              case measure => simp [intOf]; omega
          · have hsb : (s == -1) = false := by simpa using hs1
            have hsd : decide (s = -1) = false := by simpa using hs1
            by_cases hlt2 : fs.getD (m - y) (-1) + 1 < s
            · have HSK := hide (HSN.out hg (.inr hlt2))
              clear HSN HSO HSG
              generalize hve : fs.getD (m - y) (-1) = v at *
              have HVE := hide hve
              clear hve
              go_wp2_with (go_at_call 63; refine (isGap_any _ nw cw _ m cf fs (m - y) _ (HR.out.below HD0.out (Nat.le_refl _)) hmy).mono ?_; rw [HVE.out, HGG.out]; rintro e w1 ⟨rfl, b1⟩; have k1 := HK1.out w1 b1; have f1 := HC1.out w1 b1; have q0 := k1.at_ 0; have q1 := k1.at_ 1; simp at q0 q1; have B1 := hide b1; clear b1 k1)
              all_goals
              go_roundw
              case rel => exact ⟨k + 1, by omega, by go_num, by rw [HS.out, HSK.out], hide (HD.out.trans (B1.out.mono (by omega)))⟩
              case measure => simp [intOf]; omega
            · have HSK := hide (HSO.out (fun h => h.elim hs1 hlt2))
              clear HSN HSO HSG
              generalize hve : fs.getD (m - y) (-1) = v at *
              have HVE := hide hve
              clear hve
              go_wp2_with (go_at_call 63; refine (isGap_any _ nw cw _ m cf fs (m - y) _ (HR.out.below HD0.out (Nat.le_refl _)) hmy).mono ?_; rw [HVE.out, HGG.out]; rintro e w1 ⟨rfl, b1⟩; have k1 := HK1.out w1 b1; have f1 := HC1.out w1 b1; have q0 := k1.at_ 0; have q1 := k1.at_ 1; simp at q0 q1; have B1 := hide b1; clear b1 k1)
              all_goals
              go_roundw
              case rel => exact ⟨k + 1, by omega, by go_num, by rw [HS.out, HSK.out], hide (HD.out.trans (B1.out.mono (by omega)))⟩
              case measure => simp [intOf]; omega
      · have hym : (m : Int) < (y : Int) := by omega
        have HSK := hide (stepO_far (fs := fs) (m := m) (s := s) hym)
        go_wp2_with fail
        go_roundw
        case rel => exact ⟨k + 1, by omega, by go_num, by rw [HS.out, HSK.out], HD⟩
        case measure => simp [intOf]; omega
    · obtain rfl : k = nw := by omega
      have HE := hide (show foTo xs fs m k = oneM xs fs m from by rw [← foTo_all, HL.out])
      go_wp2_with fail
      go_ret
      exact ⟨ret_i64 HE.out, HD0.out⟩
end Go.Proofs.Ytlhlcchimammlaa
