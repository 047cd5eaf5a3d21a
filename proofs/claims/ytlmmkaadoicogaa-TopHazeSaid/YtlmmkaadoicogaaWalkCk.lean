/- Walks of proves and CheckBest (program). -/
import Derived.Test.YtlmmkaadoicogaaMathCk
import Derived.Test.YtlmmkaadoicogaaIRow
namespace Go.Proofs.Ytlmmkaadoicogaa
open Go.RowKit

set_option maxHeartbeats 4000000 in
theorem proves_any (A : Option Addr) (n c : Nat) (xs : Rd) (D : Int) (N : Option Addr) (nn nc : Nat) (ns : List Int) (w : World) (h : Row w A n c xs) (hN : IRow w N nn nc ns) (o : okH xs = true) (r : RowOk xs D ns) (hn1 : 1 ≤ n) (hn2 : n ≤ 12) :
    Calls Try.prog 70 #[.slice A n c, .agg #[.int .i64 D, .slice N nn nc]] w fun e w' =>
      ((¬ Pv xs D ns ∧ e = .returned (.bool false)) ∨ (Pv xs D ns ∧ e = .returned (.bool true))) ∧ Below w.heap.size w w' := by
  have HL := hide h.length
  have R := hide r
  have O := hide o
  obtain ⟨b, off, hx⟩ := h
  obtain ⟨bN, oN, hy⟩ := hN
  obtain rfl : n = nn := by have := r.2.2.1; have := hy.len; have := HL.out; omega
  obtain rfl := hx.at_ (by omega)
  obtain rfl := hy.at_ (by omega)
  have hcap := hx.cap
  have hmax := hx.max
  have hcapN := hy.cap
  have hmaxN := hy.max
  have HX := hide hx
  have HY := hide hy
  have hD1 := r.1
  have hD2 := r.2.1
  have HNR := hide (fun i (hi : i < n) => r.2.2.2 i (by rw [r.2.2.1, HL.out]; exact hi))
  have K0 := hide (Bk.born w 46 #[.int .i64 D, .slice (some ⟨bN, oN, none⟩) n nc])
  have B0 := hide ((Below.refl w.heap.size w).alloc (Nat.le_refl _) (.cells #[.int .i64 D, .slice (some ⟨bN, oN, none⟩) n nc] 46))
  have HBD := hide (fun k (hk : k ≤ n) => aS_bd (xs := xs) (D := D) (ns := ns) o hD1 hD2 (k := k) (by rw [HL.out]; exact hk) (by rw [HL.out]; exact hn2) (fun i hi => HNR.out i (by rw [← HL.out]; exact hi)))
  have wn : IntKind.i64.wrap ((n : Int) - 1) = (n : Int) - 1 := IntWalk.i64_in _ (by omega)
  clear o r hx hy
  go_enter Try.func70, Try.ntmps70
  go_wp2_with fail
  go_loopw [5, 11] (fun s i wr => ∃ k : Nat, k ≤ n ∧ i = .int .i64 k ∧ s = .int .i64 (aS xs D ns k) ∧ (∀ j, j < k → PvAt xs D ns j) ∧ Bk wr w.heap.size 46 #[.int .i64 D, .slice (some ⟨bN, oN, none⟩) n nc] ∧ Below w.heap.size w wr) (fun _ i _ => n - (intOf i).toNat)
  case atStart => exact ⟨0, by omega, rfl, rfl, fun j hj => by omega, K0.out, B0.out⟩
  case round =>
    obtain ⟨k, hk, rfl, rfl, hp, hb, hbel⟩ := hrel
    have HP := hide hp
    have HB := hide hb
    have HBL := hide hbel
    clear hp hb hbel
    by_cases hlt : k < n
    · have hx := HX.out.below HBL.out (Nat.le_refl _)
      have hy := HY.out.below HBL.out (Nat.le_refl _)
      obtain ⟨c1, c2⟩ := hx.cell k hlt
      have cN := hy.cell k hlt
      have sb : b < wr.heap.size := hx.lt (by omega)
      have sN : bN < wr.heap.size := hy.lt (by omega)
      have HYW := hide hy
      have cNx := (hy.below ((Below.refl wr.heap.size wr).alloc (Nat.le_refl _) (.cells #[.int .i64 (vI xs k), .int .i64 (wI xs k)] 51)) (Nat.le_refl _)).cell k hlt
      clear hx hy
      obtain ⟨v0, v1, u0, u1⟩ := okH_get O.out (i := k) (by rw [HL.out]; exact hlt)
      obtain ⟨n0, n1⟩ := HNR.out k hlt
      have s0 := HBD.out k hk
      have s1 := HBD.out (k + 1) hlt
      rw [aS_succ] at s1
      have HS := hide (aS_succ xs D ns k)
      have HGO := hide (fun (e : PvAt xs D ns k) => show ∀ j, j < k + 1 → PvAt xs D ns j from fun j hj => by
        by_cases q : j = k
        · rw [q]; exact e
        · exact HP.out j (by omega))
      have HNO := hide (fun (e : ¬ PvAt xs D ns k) (f : Pv xs D ns) => e (f k (by rw [HL.out]; exact hlt)))
      have HLE := hide HL.out
      rw [show (xs.getD k (0, 0)).1 = vI xs k from rfl] at c1
      rw [show (xs.getD k (0, 0)).2 = wI xs k from rfl] at c2
      have HAT := hide (show PvAt xs D ns k ↔ (k + 1 < n → ns.getD (k + 1) 0 ≤ ns.getD k 0) ∧ aS xs D ns (k + 1) ≤ 0 ∧ ((k + 1 = n ∨ (k + 1 < n ∧ ns.getD (k + 1) 0 < ns.getD k 0)) → aS xs D ns (k + 1) = 0) by unfold PvAt; rw [HL.out])
      generalize hz : aS xs D ns (k + 1) = z at *
      have HZ := hide hz
      clear hz
      generalize aS xs D ns k = S at *
      generalize vI xs k = v at *
      generalize wI xs k = u at *
      generalize ns.getD k 0 = y at *
      have m0 : 0 ≤ v * D := Int.mul_nonneg v0 (by omega)
      have m1 : v * D ≤ 100 * 10000 := Int.mul_le_mul v1 hD2 (by omega) (by omega)
      have m2 : u * (v * D - y) ≤ u * 1001000000 := Int.mul_le_mul_of_nonneg_left (by omega) (by omega)
      have m3 : u * (-1001000000) ≤ u * (v * D - y) := Int.mul_le_mul_of_nonneg_left (by omega) (by omega)
      have hzz := HS.out
      have zb : -200000000000 ≤ z ∧ z ≤ 200000000000 := by omega
      have w1 : IntKind.i64.wrap (v * D) = v * D := IntWalk.i64_in _ (by omega)
      have w2 : IntKind.i64.wrap (v * D - y) = v * D - y := IntWalk.i64_in _ (by omega)
      have w3 : IntKind.i64.wrap (u * (v * D - y)) = u * (v * D - y) := IntWalk.i64_in _ (by omega)
      have w4 : IntKind.i64.wrap (S + u * (v * D - y)) = z := by rw [← hzz]; exact IntWalk.i64_in _ (by omega)
      have wk : IntKind.i64.wrap ((k : Int) + 1) = (k : Int) + 1 := IntWalk.i64_in _ (by omega)
      have l2 : (k : Int) < n := by omega
      clear m0 m1 m2 m3 hzz s0 s1
      have BX := hide (HBL.out.alloc HBL.out.size (.cells #[.int .i64 v, .int .i64 u] 51))
      have KX := hide (HB.out.more (.cells #[.int .i64 v, .int .i64 u] 51))
      obtain ⟨k0, k1, _, _, _⟩ := HB.out.two
      obtain ⟨x0, x1, _, _, _⟩ := KX.out.two
      go_wp2_with fail
      go_quiet (fail)
      clear w1 w2 w3 w4
      by_cases hlast : k + 1 = n
      · have HLa := hide hlast
        have e1 : ((k : Int) == (n : Int) - 1) = true := by simp; omega
        have AT := hide (show PvAt xs D ns k ↔ z = 0 by
          rw [HAT.out]
          constructor
          · rintro ⟨_, _, g⟩; exact g (Or.inl HLa.out)
          · intro g; exact ⟨fun q => by have := HLa.out; omega, by omega, fun _ => g⟩)
        clear hlast
        go_wp2_with fail
        go_quiet (fail)
        go_wp2_with fail
        go_quiet (fail)
        by_cases z1 : 0 < z
        · go_wp2_with fail
          go_ret
          exact ⟨Or.inl ⟨HNO.out fun q => by have := AT.out.1 q; omega, rfl⟩, below_drewN BX.out _⟩
        · by_cases z2 : z < 0
          · go_wp2_with fail
            go_ret
            exact ⟨Or.inl ⟨HNO.out fun q => by have := AT.out.1 q; omega, rfl⟩, below_drewN BX.out _⟩
          · have HG := hide (HGO.out (AT.out.2 (by omega)))
            go_wp2_with fail
            go_roundw
            case rel => exact ⟨k + 1, by omega, by go_num, by rw [HZ.out], HG.out, KX.out.draws _, below_drewN BX.out _⟩
            case measure => simp [intOf]; omega
      · have e1 : ((k : Int) == (n : Int) - 1) = false := by simp; omega
        have hk1 : k + 1 < n := by omega
        have l3 : (k : Int) + 1 < n := by omega
        have l4 : 0 ≤ (k : Int) + 1 := by omega
        have cM := (HYW.out.below ((Below.refl wr.heap.size wr).alloc (Nat.le_refl _) (.cells #[.int .i64 v, .int .i64 u] 51)) (Nat.le_refl _)).cell (k + 1) hk1
        have cM2 := HYW.out.cell (k + 1) hk1
        have AT := hide (show PvAt xs D ns k ↔ ns.getD (k + 1) 0 ≤ y ∧ z ≤ 0 ∧ (ns.getD (k + 1) 0 < y → z = 0) by
          rw [HAT.out]
          constructor
          · rintro ⟨g1, g2, g3⟩; exact ⟨g1 hk1, g2, fun q => g3 (Or.inr ⟨hk1, q⟩)⟩
          · rintro ⟨g1, g2, g3⟩; exact ⟨fun _ => g1, g2, fun q => q.elim (fun q => by omega) fun q => g3 q.2⟩)
        generalize ns.getD (k + 1) 0 = y2 at *
        clear hlast
        by_cases q1 : y < y2
        · go_wp2_with fail
          go_quiet (fail)
          go_wp2_with fail
          go_ret
          exact ⟨Or.inl ⟨HNO.out fun q => by have := (AT.out.1 q).1; omega, rfl⟩, below_drewN (below_drewN BX.out _) _⟩
        · by_cases q2 : y2 < y
          · have q2' : ¬ y < y2 := q1
            go_wp2_with fail
            go_quiet (fail)
            go_wp2_with fail
            go_quiet (fail)
            by_cases z1 : 0 < z
            · go_wp2_with fail
              go_ret
              exact ⟨Or.inl ⟨HNO.out fun q => by have := (AT.out.1 q).2.1; omega, rfl⟩, below_drewN BX.out _⟩
            · by_cases z2 : z < 0
              · go_wp2_with fail
                go_ret
                exact ⟨Or.inl ⟨HNO.out fun q => by have := (AT.out.1 q).2.2 q2; omega, rfl⟩, below_drewN BX.out _⟩
              · have HG := hide (HGO.out (AT.out.2 ⟨by omega, by omega, fun _ => by omega⟩))
                go_wp2_with fail
                go_roundw
                case rel => exact ⟨k + 1, by omega, by go_num, by rw [HZ.out], HG.out, KX.out.draws _, below_drewN BX.out _⟩
                case measure => simp [intOf]; omega
          · go_wp2_with fail
            go_quiet (fail)
            go_wp2_with fail
            go_quiet (fail)
            by_cases z1 : 0 < z
            · go_wp2_with fail
              go_ret
              exact ⟨Or.inl ⟨HNO.out fun q => by have := (AT.out.1 q).2.1; omega, rfl⟩, below_drewN BX.out _⟩
            · have HG := hide (HGO.out (AT.out.2 ⟨by omega, by omega, fun q => by omega⟩))
              go_wp2_with fail
              go_roundw
              case rel => exact ⟨k + 1, by omega, by go_num, by rw [HZ.out], HG.out, KX.out.draws _, below_drewN BX.out _⟩
              case measure => simp [intOf]; omega
    · obtain rfl : k = n := by omega
      go_wp2_with fail
      go_ret
      exact ⟨Or.inr ⟨fun i hi => HP.out i (by rw [← HL.out]; exact hi), rfl⟩, HBL.out⟩


theorem IRow.length {w : World} {A : Option Addr} {n c : Nat} {xs : List Int} (h : IRow w A n c xs) : xs.length = n := by
  obtain ⟨_, _, h⟩ := h
  exact h.len
theorem IRow.below {w w' : World} {A : Option Addr} {n c : Nat} {xs : List Int} {B : Nat} (h : IRow w A n c xs) (hb : Below B w w') (hB : w.heap.size ≤ B) : IRow w' A n c xs := by
  obtain ⟨b, o, h⟩ := h
  exact ⟨b, o, h.below hb hB⟩

theorem rowOk_of {xs : Rd} {D : Int} {ns : List Int} {n : Nat} (hl : xs.length = n) (d1 : 1 ≤ D) (d2 : D ≤ 10000) (hn : ns.length = n) (f : ∀ i, i < n → -1000000000 ≤ ns.getD i 0 ∧ ns.getD i 0 ≤ 1000000000) : RowOk xs D ns :=
  ⟨d1, d2, by rw [hn, hl], fun i hi => f i (by rw [← hn]; exact hi)⟩

set_option maxHeartbeats 4000000 in
theorem CheckBest_any (A : Option Addr) (n c : Nat) (xs : Rd) (D : Int) (N : Option Addr) (nn nc : Nat) (ns : List Int) (w : World) (h : Row w A n c xs) (hN : IRow w N nn nc ns) (hn2 : n ≤ 1000) :
    Calls Try.prog 33 #[.slice A n c, .agg #[.int .i64 D, .slice N nn nc]] w fun e w' => e = .returned (.int .i64 (errK xs D ns)) ∧ Below w.heap.size w w' := by
  have HL := hide h.length
  have HH := hide h
  have HNN := hide hN
  have B0 := hide ((Below.refl w.heap.size w).alloc (Nat.le_refl _) (.cells #[.int .i64 D, .slice N nn nc] 46))
  have K0 := hide (Bk.born w 46 #[.int .i64 D, .slice N nn nc])
  clear h hN
  by_cases he : errH xs = 0
  case neg =>
    have HE := hide (errK_h (D := D) (ns := ns) he)
    have he' := errH_ne he
    clear he
    go_enter Try.func33, Try.ntmps33
    go_wp2_with fail
    refine (Validate_any _ _ _ xs _ (HH.out.below B0.out (Nat.le_refl _)) (by omega)).mono ?_
    rintro e w1 ⟨rfl, b1⟩
    go_wp2_with fail
    go_ret
    rw [HE.out]
    exact ⟨rfl, B0.out.trans (b1.mono B0.out.size)⟩
  obtain ⟨e1, e2, e3⟩ := errH_zero he
  have O := hide e3
  rw [HL.out] at e1 e2
  have HNO := hide (fun q => errK_row (D := D) (ns := ns) he q)
  have HYES := hide (fun q p => errK_yes (D := D) (ns := ns) he q p)
  have HPN := hide (fun q p => errK_no (D := D) (ns := ns) he q p)
  have HE := hide he
  clear he e3
  go_enter Try.func33, Try.ntmps33
  go_wp2_with fail
  refine (Validate_any _ _ _ xs _ (HH.out.below B0.out (Nat.le_refl _)) (by omega)).mono ?_
  rw [HE.out]
  rintro e w1 ⟨rfl, b1⟩
  have B1 := hide (B0.out.trans (b1.mono B0.out.size))
  have K1 := hide (K0.out.keep b1 K0.out.in_)
  clear b1
  obtain ⟨k0, k1, _, _, _⟩ := K1.out.two
  by_cases d1 : D < 1
  · go_wp2_with fail
    go_ret
    rw [HNO.out fun q => by have := q.1; omega]
    exact ⟨rfl, B1.out⟩
  by_cases d2 : 10000 < D
  · go_wp2_with fail
    go_ret
    rw [HNO.out fun q => by have := q.2.1; omega]
    exact ⟨rfl, B1.out⟩
  have d1' : 1 ≤ D := by omega
  by_cases hl : n = nn
  case neg =>
    have hl' : ((nn : Int) != n) = true := by simp; omega
    go_wp2_with fail
    go_ret
    rw [HNO.out fun q => hl (by have := q.2.2.1; rw [HL.out, HNN.out.length] at this; exact this.symm)]
    exact ⟨rfl, B1.out⟩
  subst hl
  go_wp2_with fail
  go_loopw [32] (fun i wr => ∃ k : Nat, k ≤ n ∧ i = .int .i64 k ∧ (∀ j, j < k → -1000000000 ≤ ns.getD j 0 ∧ ns.getD j 0 ≤ 1000000000) ∧ Bk wr w.heap.size 46 #[.int .i64 D, .slice N n nc] ∧ Below w.heap.size w wr) (fun i _ => n - (intOf i).toNat)
  case atStart => exact ⟨0, by omega, rfl, fun j hj => by omega, K1.out, B1.out⟩
  case round =>
    obtain ⟨k, hk, rfl, hp, hb, hbel⟩ := hrel
    have HP := hide hp
    have HB := hide hb
    have HBL := hide hbel
    clear hp hb hbel
    by_cases hlt : k < n
    · obtain ⟨bN, oN, hy⟩ := HNN.out
      obtain rfl := hy.at_ (by omega)
      have hcapN := hy.cap
      have hmaxN := hy.max
      have cN := (hy.below HBL.out (Nat.le_refl _)).cell k hlt
      have LY := hide hy.len
      have HN0 := hide (fun (q : ¬ (-1000000000 ≤ ns.getD k 0 ∧ ns.getD k 0 ≤ 1000000000)) => HNO.out fun f => q (f.2.2.2 k (by rw [LY.out]; exact hlt)))
      have HGO := hide (fun (e : -1000000000 ≤ ns.getD k 0 ∧ ns.getD k 0 ≤ 1000000000) => show ∀ j, j < k + 1 → -1000000000 ≤ ns.getD j 0 ∧ ns.getD j 0 ≤ 1000000000 from fun j hj => by
        by_cases q : j = k
        · rw [q]; exact e
        · exact HP.out j (by omega))
      clear hy
      generalize ns.getD k 0 = y at *
      have l2 : (k : Int) < n := by omega
      by_cases y0 : y < -1000000000
      · go_wp2_with fail
        go_ret
        rw [HN0.out (by omega)]
        exact ⟨rfl, HBL.out⟩
      · by_cases y1 : 1000000000 < y
        · have y0' : -1000000000 ≤ y := by omega
          clear y0
          go_wp2_with fail
          go_ret
          rw [HN0.out (by omega)]
          exact ⟨rfl, HBL.out⟩
        · have y0' : -1000000000 ≤ y := by omega
          have y1' : y ≤ 1000000000 := by omega
          clear y0 y1
          go_wp2_with fail
          go_roundw
          case rel => exact ⟨k + 1, by omega, by go_num, HGO.out ⟨y0', y1'⟩, HB.out, HBL.out⟩
          case measure => simp [intOf]; omega
    · obtain rfl : k = n := by omega
      obtain ⟨k0, k1, _, _, _⟩ := HB.out.two
      have HR := hide (rowOk_of (xs := xs) (ns := ns) HL.out d1' (by omega) HNN.out.length HP.out)
      go_wp2_with fail
      refine (proves_any _ _ _ xs D _ _ _ ns _ (HH.out.below HBL.out (Nat.le_refl _)) (HNN.out.below HBL.out (Nat.le_refl _)) O.out HR.out e1 e2).mono ?_
      rintro e w2 ⟨(⟨hv, rfl⟩ | ⟨hv, rfl⟩), b2⟩
      · have HV := hide hv
        clear hv
        go_wp2_with fail
        go_ret
        rw [HPN.out HR.out HV.out]
        exact ⟨rfl, HBL.out.trans (b2.mono HBL.out.size)⟩
      · have HV := hide hv
        clear hv
        go_wp2_with fail
        go_ret
        rw [HYES.out HR.out HV.out]
        exact ⟨rfl, HBL.out.trans (b2.mono HBL.out.size)⟩

end Go.Proofs.Ytlmmkaadoicogaa
