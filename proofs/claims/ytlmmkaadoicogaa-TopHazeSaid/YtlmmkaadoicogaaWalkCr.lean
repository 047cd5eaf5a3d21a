/- Walks of the document's own CheckBest, and of HazeChecks. -/
import Derived.Test.YtlmmkaadoicogaaWalkCk
import Derived.Deep.RegionHeld3
namespace Go.Proofs.Ytlmmkaadoicogaa
open Go.RowKit

theorem best_getD (xs : Rd) {i : Nat} (hi : i < xs.length) : (best xs).getD i (0, 0) = (nu (rr xs i), de (rr xs i)) := by
  rw [rr_mm xs hi]
  simp [best, bestR, rq, List.getD_eq_getElem?_getD, hi]
theorem withinB_no {n lo hi : Int} (h : ¬ (lo ≤ n ∧ n ≤ hi)) : withinB n lo hi = false := withinB_false (by omega)
theorem nude_inj {p q : Rat} : p = q ↔ nu p = nu q ∧ de p = de q := by
  constructor
  · intro h; rw [h]; exact ⟨rfl, rfl⟩
  · rintro ⟨h1, h2⟩
    exact Rat.ext h1 (by have h2' : ((p.den : Int)) = q.den := h2; omega)

set_option maxHeartbeats 4000000 in
theorem rCheckBest_any (A : Option Addr) (n c : Nat) (xs : Rd) (D : Int) (N : Option Addr) (nn nc : Nat) (ns : List Int) (w : World) (h : Row w A n c xs) (hN : IRow w N nn nc ns) (hn2 : n ≤ 1000) (hnn : nn ≤ 1000) :
    Calls Try.prog 34 #[.slice A n c, .agg #[.int .i64 D, .slice N nn nc]] w fun e w' => e = .returned (.int .i64 (errK xs D ns)) ∧ Below w.heap.size w w' := by
  have HL := hide h.length
  have HH := hide h
  have HNN := hide hN
  have B0 := hide ((Below.refl w.heap.size w).alloc (Nat.le_refl _) (.cells #[.int .i64 D, .slice N nn nc] 46))
  have K0 := hide (Bk.born w 46 #[.int .i64 D, .slice N nn nc])
  clear h hN
  by_cases he : errH xs = 0
  case neg =>
    have HE := hide (errK_h (D := D) (ns := ns) he)
    have he' := errH_ne he
    clear he
    go_enter Try.func34, Try.ntmps34
    go_wp2_with fail
    refine (rValidate_any _ _ _ xs _ (HH.out.below B0.out (Nat.le_refl _)) (by omega)).mono ?_
    rintro e w1 ⟨rfl, rfl⟩
    go_wp2_with fail
    go_ret
    rw [HE.out]
    exact ⟨rfl, B0.out⟩
  obtain ⟨e1, e2, e3⟩ := errH_zero he
  have O := hide e3
  rw [HL.out] at e1 e2
  have HNO := hide (fun q => errK_row (D := D) (ns := ns) he q)
  have HYES := hide (fun q p => errK_yes (D := D) (ns := ns) he q p)
  have HPN := hide (fun q p => errK_no (D := D) (ns := ns) he q p)
  have HE := hide he
  clear he e3
  go_enter Try.func34, Try.ntmps34
  go_wp2_with fail
  refine (rValidate_any _ _ _ xs _ (HH.out.below B0.out (Nat.le_refl _)) (by omega)).mono ?_
  rw [HE.out]
  rintro e w1 ⟨rfl, rfl⟩
  obtain ⟨k0, k1, _, _, _⟩ := K0.out.two
  go_wp2_with fail
  refine (within_any _ _ _ _).mono ?_
  by_cases d1 : 1 ≤ D ∧ D ≤ 10000
  case neg =>
    rw [withinB_no d1]
    rintro e w2 ⟨rfl, rfl⟩
    go_wp2_with fail
    go_ret
    rw [HNO.out fun q => d1 ⟨q.1, q.2.1⟩]
    exact ⟨rfl, B0.out⟩
  rw [withinB_true d1.1 d1.2]
  rintro e w2 ⟨rfl, rfl⟩
  by_cases hl : n = nn
  case neg =>
    have hl' : ((nn : Int) != n) = true := by simp; omega
    go_wp2_with fail
    go_ret
    rw [HNO.out fun q => hl (by have := q.2.2.1; rw [HL.out, HNN.out.length] at this; exact this.symm)]
    exact ⟨rfl, B0.out⟩
  subst hl
  obtain ⟨d1', d2'⟩ := d1
  go_wp2_with fail
  go_loopw [6] (fun i wr => ∃ k : Nat, k ≤ n ∧ i = .int .i64 k ∧ (∀ j, j < k → -1000000000 ≤ ns.getD j 0 ∧ ns.getD j 0 ≤ 1000000000) ∧ Bk wr w.heap.size 46 #[.int .i64 D, .slice N n nc] ∧ Below w.heap.size w wr) (fun i _ => n - (intOf i).toNat)
  case atStart => exact ⟨0, by omega, rfl, fun j hj => by omega, K0.out, B0.out⟩
  case round =>
    obtain ⟨k, hk, rfl, hp, hb, hbel⟩ := hrel
    have HP := hide hp
    have HB := hide hb
    have HBL := hide hbel
    clear hp hb hbel k0 k1
    obtain ⟨k0, k1, _, _, _⟩ := HB.out.two
    by_cases hlt : k < n
    · obtain ⟨bN, oN, hy⟩ := HNN.out
      obtain rfl := hy.at_ (by omega)
      have hcapN := hy.cap
      have hmaxN := hy.max
      have cN := (hy.below HBL.out (Nat.le_refl _)).cell k hlt
      have LY := hide hy.len
      have HN0 := hide (fun (q : ¬ (-1000000000 ≤ ns.getD k 0 ∧ ns.getD k 0 ≤ 1000000000)) => HNO.out fun f => q (f.2.2.2 k (by rw [LY.out]; exact hlt)))
      have HGO := hide (fun (e : -1000000000 ≤ ns.getD k 0 ∧ ns.getD k 0 ≤ 1000000000) => show ∀ j, j < k + 1 → -1000000000 ≤ ns.getD j 0 ∧ ns.getD j 0 ≤ 1000000000 from fun j hj => by
        by_cases q : j = k
        · rw [q]; exact e
        · exact HP.out j (by omega))
      clear hy
      generalize ns.getD k 0 = y at *
      have l2 : (k : Int) < n := by omega
      go_wp2_with fail
      refine (within_any _ _ _ _).mono ?_
      by_cases hy : -1000000000 ≤ y ∧ y ≤ 1000000000
      · rw [withinB_true hy.1 hy.2]
        have HG := hide (HGO.out hy)
        clear hy
        rintro e w2 ⟨rfl, rfl⟩
        go_wp2_with fail
        go_roundw
        case rel => exact ⟨k + 1, by omega, by go_num, HG.out, HB.out, HBL.out⟩
        case measure => simp [intOf]; omega
      · rw [withinB_no hy]
        have HG := hide (HN0.out hy)
        clear hy
        rintro e w2 ⟨rfl, rfl⟩
        go_wp2_with fail
        go_ret
        rw [HG.out]
        exact ⟨rfl, HBL.out⟩
    · obtain rfl : k = n := by omega
      have HR := hide (rowOk_of (xs := xs) (ns := ns) HL.out d1' d2' HNN.out.length HP.out)
      have HPI := hide (pv_iff (ns := ns) (D := D) O.out (by rw [HL.out]; exact e1) d1')
      go_wp2_with fail
      refine (rbest_any _ _ _ xs _ (HH.out.below HBL.out (Nat.le_refl _)) O.out e2).mono ?_
      rintro e w2 ⟨AL, cL, rfl, ol, b2⟩
      have B2 := hide (HBL.out.trans (b2.mono HBL.out.size))
      have K2 := hide (HB.out.keep b2 HB.out.in_)
      have RL := hide ol.row
      clear b2 ol k0 k1
      go_wp2_with fail
      go_loopw [8] (fun i wr => ∃ j : Nat, j ≤ k ∧ i = .int .i64 j ∧ (∀ i, i < j → rt (ns.getD i 0) D = rr xs i) ∧ Bk wr w.heap.size 46 #[.int .i64 D, .slice N k nc] ∧ Below w.heap.size w wr ∧ Below w2.heap.size w2 wr) (fun i _ => k - (intOf i).toNat)
      case atStart => exact ⟨0, by omega, rfl, fun j hj => by omega, K2.out, B2.out, Below.refl _ _⟩
      case round =>
        obtain ⟨j, hj, rfl, hq, hb, hbel, hb2⟩ := hrel
        have HQ := hide hq
        have HB3 := hide hb
        have HBL3 := hide hbel
        have HC3 := hide hb2
        clear hq hb hbel hb2
        obtain ⟨k0, k1, _, _, kin⟩ := HB3.out.two
        by_cases hlj : j < k
        · obtain ⟨bN, oN, hy⟩ := HNN.out
          obtain rfl := hy.at_ (by omega)
          have hy3 := hy.below HBL3.out (Nat.le_refl _)
          have hcapN := hy.cap
          have hmaxN := hy.max
          have cN := hy3.cell j hlj
          have sN := hy3.lt (by omega)
          obtain ⟨bL, oL, hz⟩ := RL.out
          obtain rfl := hz.at_ (by omega)
          have hz3 := hz.below HC3.out (Nat.le_refl _)
          have hcapL := hz.cap
          have hmaxL := hz.max
          obtain ⟨c1, c2⟩ := hz3.cell j hlj
          have sL := hz3.lt (by omega)
          clear hy hy3 hz hz3
          rw [best_getD xs (by rw [HL.out]; exact hlj)] at c1 c2
          obtain ⟨n0, n1⟩ := HP.out j hlj
          have HRat := hide (fun W => Ratio_any (ns.getD j 0) D W (by omega) (by omega) d1' (by omega))
          have HNI := hide (nude_inj (p := rt (ns.getD j 0) D) (q := rr xs j))
          have HGO := hide (fun (e : rt (ns.getD j 0) D = rr xs j) => show ∀ i, i < j + 1 → rt (ns.getD i 0) D = rr xs i from fun i hi => by
            by_cases q : i = j
            · rw [q]; exact e
            · exact HQ.out i (by omega))
          have HNV := hide (fun (e : ¬ rt (ns.getD j 0) D = rr xs j) (p : Pv xs D ns) => e (HPI.out.1 p j (by rw [HL.out]; exact hlj)))
          generalize nu (rr xs j) = p1 at *
          generalize de (rr xs j) = p2 at *
          generalize nu (rt (ns.getD j 0) D) = q1 at *
          generalize de (rt (ns.getD j 0) D) = q2 at *
          simp only at c1 c2
          have hsz := HBL3.out.size
          have l2 : (j : Int) < k := by omega
          generalize hyy : ns.getD j 0 = y at *
          by_cases g1 : q1 = p1
          · by_cases g2 : q2 = p2
            · have HG := hide (HGO.out (HNI.out.2 ⟨g1, g2⟩))
              subst g1 g2
              go_wp2_with fail
              go_region_held3 (fun w' => w'.cell? ⟨w.heap.size, 0, none⟩ = some (.int .i64 D) ∧ w'.cell? ⟨w.heap.size, 1, none⟩ = some (.slice (some ⟨bN, oN, none⟩) k nc) ∧ w'.cell? ⟨bN, oN + j, none⟩ = some (.int .i64 y) ∧ w'.cell? ⟨bL, oL + j * 2, none⟩ = some (.int .i64 q1) ∧ w'.cell? ⟨bL, oL + j * 2 + 1, none⟩ = some (.int .i64 q2))
                (first
                  | go_keep
                  | (go_split_ands
                     refine ⟨?_, ?_, ?_, ?_, ?_⟩ <;> (rw [hb8.cell (by simp; omega)]; assumption)))
                (first
                  | (go_at_call 51; refine (HRat.out _).mono ?_; rintro e8 w8 ⟨rfl, hb8⟩))
              all_goals
                have B8 := hide ((below_drewN HBL3.out 1).trans (hb8.mono (by simp; omega)))
                have C8 := hide ((below_drewN HC3.out 1).trans (hb8.mono HC3.out.size))
                have K8 := hide ((HB3.out.draws 1).keep hb8 kin)
                clear hb8
                go_wp2_with fail
                go_roundw
                case rel => exact ⟨j + 1, by omega, by go_num, HG.out, K8.out, B8.out, C8.out⟩
                case measure => simp [intOf]; omega
            · have HG := hide (HPN.out HR.out (HNV.out fun q => g2 (HNI.out.1 q).2))
              have b2 : (q2 != p2) = true := by simp [g2]
              have b2' : (q2 == p2) = false := by simp [g2]
              subst g1
              go_wp2_with fail
              go_region_held3 (fun w' => w'.cell? ⟨w.heap.size, 0, none⟩ = some (.int .i64 D) ∧ w'.cell? ⟨w.heap.size, 1, none⟩ = some (.slice (some ⟨bN, oN, none⟩) k nc) ∧ w'.cell? ⟨bN, oN + j, none⟩ = some (.int .i64 y) ∧ w'.cell? ⟨bL, oL + j * 2, none⟩ = some (.int .i64 q1) ∧ w'.cell? ⟨bL, oL + j * 2 + 1, none⟩ = some (.int .i64 p2))
                (first
                  | go_keep
                  | (go_split_ands
                     refine ⟨?_, ?_, ?_, ?_, ?_⟩ <;> (rw [hb8.cell (by simp; omega)]; assumption)))
                (first
                  | (go_at_call 51; refine (HRat.out _).mono ?_; rintro e8 w8 ⟨rfl, hb8⟩))
              all_goals
                have B8 := hide ((below_drewN HBL3.out 1).trans (hb8.mono (by simp; omega)))
                have C8 := hide ((below_drewN HC3.out 1).trans (hb8.mono HC3.out.size))
                have K8 := hide ((HB3.out.draws 1).keep hb8 kin)
                clear hb8
                go_wp2_with fail
                go_ret
                rw [HG.out]
                exact ⟨rfl, B8.out⟩
          · have HG := hide (HPN.out HR.out (HNV.out fun q => g1 (HNI.out.1 q).1))
            have b1 : (q1 != p1) = true := by simp [g1]
            have b1' : (q1 == p1) = false := by simp [g1]
            go_wp2_with fail
            go_region_held3 (fun w' => w'.cell? ⟨w.heap.size, 0, none⟩ = some (.int .i64 D) ∧ w'.cell? ⟨w.heap.size, 1, none⟩ = some (.slice (some ⟨bN, oN, none⟩) k nc) ∧ w'.cell? ⟨bN, oN + j, none⟩ = some (.int .i64 y) ∧ w'.cell? ⟨bL, oL + j * 2, none⟩ = some (.int .i64 p1) ∧ w'.cell? ⟨bL, oL + j * 2 + 1, none⟩ = some (.int .i64 p2))
              (first
                | go_keep
                | (go_split_ands
                   refine ⟨?_, ?_, ?_, ?_, ?_⟩ <;> (rw [hb8.cell (by simp; omega)]; assumption)))
              (first
                | (go_at_call 51; refine (HRat.out _).mono ?_; rintro e8 w8 ⟨rfl, hb8⟩))
            all_goals
              have B8 := hide ((below_drewN HBL3.out 1).trans (hb8.mono (by simp; omega)))
              have C8 := hide ((below_drewN HC3.out 1).trans (hb8.mono HC3.out.size))
              have K8 := hide ((HB3.out.draws 1).keep hb8 kin)
              clear hb8
              go_wp2_with fail
              go_ret
              rw [HG.out]
              exact ⟨rfl, B8.out⟩
        · obtain rfl : j = k := by omega
          have HG := hide (HYES.out HR.out (HPI.out.2 fun i hi => HQ.out i (by rw [← HL.out]; exact hi)))
          go_wp2_with fail
          go_ret
          rw [HG.out]
          exact ⟨rfl, HBL3.out⟩


set_option maxHeartbeats 4000000 in
theorem HazeChecks_walk (A : Option Addr) (n c : Nat) (xs : Rd) (D : Int) (N : Option Addr) (nn nc : Nat) (ns : List Int) (w : World) (h : Row w A n c xs) (hN : IRow w N nn nc ns) :
    Calls Try.prog 6 #[.slice A n c, .agg #[.int .i64 D, .slice N nn nc]] w fun e w' => e = .returned (.bool true) ∧ Below w.heap.size w w' := by
  have HH := hide h
  have HNN := hide hN
  have B0 := hide ((Below.refl w.heap.size w).alloc (Nat.le_refl _) (.cells #[.int .i64 D, .slice N nn nc] 46))
  have K0 := hide (Bk.born w 46 #[.int .i64 D, .slice N nn nc])
  clear h hN
  obtain ⟨k0, k1, _, _, kin⟩ := K0.out.two
  by_cases hn : 100 < n
  · go_enter Try.func6, Try.ntmps6
    go_wp2_with fail
    refine (Long_yes _ _ _ _ hn).mono ?_
    rintro e w1 ⟨rfl, rfl⟩
    go_wp2_with fail
    refine (known_any _).mono ?_
    rintro e wz ⟨rfl, bz⟩
    go_wp2_with fail
    go_ret
    exact ⟨rfl, B0.out.trans (bz.mono B0.out.size)⟩
  · have hn' : n ≤ 100 := by omega
    go_enter Try.func6, Try.ntmps6
    go_wp2_with fail
    refine (Long_no _ _ _ _ hn').mono ?_
    rintro e w1 ⟨rfl, rfl⟩
    by_cases hm : (100 : Int) < nn
    · go_wp2_with fail
      refine (known_any _).mono ?_
      rintro e wz ⟨rfl, bz⟩
      go_wp2_with fail
      go_ret
      exact ⟨rfl, B0.out.trans (bz.mono B0.out.size)⟩
    · have hm' : nn ≤ 1000 := by omega
      have HV1 := hide (fun W h1 h2 => CheckBest_any A n c xs D N nn nc ns W h1 h2 (by omega))
      have HV2 := hide (fun W h1 h2 => rCheckBest_any A n c xs D N nn nc ns W h1 h2 (by omega) hm')
      generalize errK xs D ns = e9 at *
      have hz3 := B0.out.size
      go_wp2_with fail
      go_region_held3 (fun w' => w'.cell? ⟨w.heap.size, 0, none⟩ = some (.int .i64 D) ∧ w'.cell? ⟨w.heap.size, 1, none⟩ = some (.slice N nn nc))
        (first
          | go_keep
          | (go_split_ands
             refine ⟨?_, ?_⟩ <;> (rw [hb8.cell (by simp)]; assumption))
          | (go_split_ands
             refine ⟨?_, ?_⟩ <;> (rw [hb9.cell (by have := hb8.size; simp at this ⊢; omega)]; assumption))
          | (go_split_ands
             refine ⟨?_, ?_⟩ <;> (rw [hb7.cell (by have := hb8.size; have := hb9.size; simp at *; omega)]; assumption)))
        (first
          | (go_at_call 33; refine (HV1.out _ (HH.out.below (below_drewN B0.out 1) (Nat.le_refl _)) (HNN.out.below (below_drewN B0.out 1) (Nat.le_refl _))).mono ?_; rintro e8 w8 ⟨rfl, hb8⟩)
          | (go_at_call 34; have b89 := (below_drewN B0.out 1).trans (hb8.mono B0.out.size); refine (HV2.out _ (HH.out.below b89 (Nat.le_refl _)) (HNN.out.below b89 (Nat.le_refl _))).mono ?_; rintro e9 w9 ⟨rfl, hb9⟩)
          | (go_at_call 19; refine (known_any _).mono ?_; rintro e7 w7 ⟨rfl, hb7⟩))
      all_goals
        have s8 := hb8.size
        have s9 := hb9.size
        go_wp2_with fail
        go_ret
        exact ⟨rfl, (((below_drewN B0.out 1).trans (hb8.mono (by simp))).trans (hb9.mono (by simp at s8; omega))).trans (hb7.mono (by simp at s8; omega))⟩

end Go.Proofs.Ytlmmkaadoicogaa
