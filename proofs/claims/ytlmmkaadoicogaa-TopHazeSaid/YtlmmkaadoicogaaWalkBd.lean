/- The walk of the document's own Blocks. -/
import Derived.Test.YtlmmkaadoicogaaWalkBl
namespace Go.Proofs.Ytlmmkaadoicogaa
open Go.RowKit

def bL (f : Nat → Rat) (i : Nat) : List B4 := ((blR f i).reverse).map b4
theorem bL_cons {f : Nat → Rat} {i : Nat} {x : Nat × Nat × Rat} {rest : List (Nat × Nat × Rat)} (h : blR f i = x :: rest) : bL f i = (rest.reverse.map b4) ++ [b4 x] := by
  unfold bL
  rw [h, List.reverse_cons, List.map_append]
  rfl
theorem snoc_get (l : List B4) (y : B4) {k : Nat} (h : l.length = k) : (l ++ [y]).getD k z4 = y := by
  subst h
  rw [List.getD_eq_getElem?_getD, List.getElem?_append_right (Nat.le_refl _), Nat.sub_self]
  rfl
theorem snoc_set (l : List B4) (y z : B4) {k : Nat} (h : l.length = k) : (l ++ [y]).set k z = l ++ [z] := by
  subst h
  rw [List.set_append_right _ _ (Nat.le_refl _), Nat.sub_self]
  rfl

set_option maxHeartbeats 4000000 in
theorem rBlocks_any (A : Option Addr) (n c : Nat) (xs : Rd) (w : World) (h : Row w A n c xs) (hn2 : n ≤ 1000) :
    Calls Try.prog 32 #[.slice A n c] w (BlkPost xs w) := by
  have HR := hide h
  have hl := h.length
  by_cases he : errH xs = 0
  case neg =>
    have he' := errH_ne he
    have HE := hide he
    clear h hl he
    go_enter Try.func32, Try.ntmps32
    go_wp2_with fail
    refine (rValidate_any _ _ _ xs _ HR.out (by omega)).mono ?_
    rintro e w1 ⟨rfl, rfl⟩
    go_wp2_with fail
    go_ret2
    refine ⟨none, 0, 0, rfl, ?_, Below.refl _ _⟩
    rw [if_neg HE.out]
    exact Own4.nil _ _
  obtain ⟨e1, e2, e3⟩ := errH_zero he
  have hn1 : 1 ≤ n := by omega
  have hn12 : n ≤ 12 := by omega
  have HE := hide he
  have HL := hide hl
  have O := hide e3
  have HBK := hide (show blocks xs = bL (rr xs) n by unfold blocks bL; rw [hl])
  clear h he e1 e2 hl e3
  go_enter Try.func32, Try.ntmps32
  go_wp2_with fail
  refine (rValidate_any _ _ _ xs _ HR.out (by omega)).mono ?_
  rw [HE.out]
  rintro e w1 ⟨rfl, rfl⟩
  go_wp2_with fail
  refine (rbest_any _ _ _ xs _ HR.out O.out hn12).mono ?_
  rintro e w2 ⟨AL, cL, rfl, ol, b2⟩
  have B2 := hide b2
  have RL := hide ol.row
  clear b2 ol
  go_wp2_with fail
  go_loopw [6, 7] (fun v t wr => ∃ (i m : Nat) (A1 : Option Addr) (c1 : Nat), i ≤ n ∧ t = .int .i64 i ∧ v = .slice A1 m c1 ∧ m = (blR (rr xs) i).length ∧ Own4 wr w2.heap.size A1 m c1 (bL (rr xs) i) ∧ Below w2.heap.size w2 wr) (fun _ t _ => n - (intOf t).toNat)
  case atStart => exact ⟨0, 0, none, 0, by omega, rfl, rfl, rfl, Own4.nil _ _, Below.refl _ _⟩
  case round =>
    obtain ⟨i, m, A1, c1, hi, rfl, rfl, hm, hown, hbel⟩ := hrel
    have hm12 := blR_len (rr xs) i
    have OW := hide hown
    have HB := hide hbel
    clear hown hbel
    by_cases hlt : i < n
    · obtain ⟨bx, ox, hx⟩ := RL.out
      obtain rfl := hx.at_ (by omega)
      have hcapL := hx.cap
      have hmaxL := hx.max
      have hx2 := hx.below HB.out (Nat.le_refl _)
      obtain ⟨d1, d2⟩ := hx2.cell i hlt
      clear hx hx2
      rw [best_getD xs (by rw [HL.out]; exact hlt)] at d1 d2
      simp only at d1 d2
      have l2 : (i : Int) < n := by omega
      have hzw := HB.out.size
      cases hbl : blR (rr xs) i with
      | nil =>
        rw [hbl] at hm
        obtain rfl : m = 0 := hm
        have HN := hide (blR_nil hbl)
        have HL0 := hide (show bL (rr xs) (i + 1) = bL (rr xs) i ++ [((i : Int), (i : Int), nu (rr xs i), de (rr xs i))] by
          unfold bL
          rw [blR_nil hbl, hbl]
          rfl)
        have HM := hide (show (0 + 1 : Nat) = (blR (rr xs) (i + 1)).length by rw [HN.out]; rfl)
        generalize nu (rr xs i) = p at *
        generalize de (rr xs i) = q at *
        go_wp2_with fail
        go_quiet (fail)
        go_wp2_with (at_builtin; refine wpList_app4 _ rfl (.tmp 45) (.tmp 53) rfl w2.heap.size 0 c1 A1 (bL (rr xs) i) ((i : Int), (i : Int), p, q) (by simp [Act.eval]) (by simp [Act.eval]) (OW.out.drewN _) (by omega) (by simpa using hzw) ?_; intro A9 c9 w9 o9 b9)
        have O9 := hide o9
        have B9 := hide ((below_drewN HB.out _).trans b9)
        clear o9 b9
        go_roundw
        case rel => exact ⟨i + 1, 0 + 1, A9, c9, by omega, by go_num, by go_num, HM.out, by rw [HL0.out]; exact O9.out, B9.out⟩
        case measure => simp [intOf]; omega
      | cons x rest =>
        obtain ⟨a, b, y⟩ := x
        rw [hbl] at hm hm12
        obtain ⟨k, hk⟩ : ∃ k, k = rest.length := ⟨_, rfl⟩
        rw [List.length_cons, ← hk] at hm hm12
        subst hm
        have HLc := hide (show (rest.reverse.map b4).length = k by rw [List.length_map, List.length_reverse, hk])
        have HBE := hide (bL_cons hbl)
        rw [HBE.out] at OW
        have HEQ := hide (fun e => blR_same hbl e)
        have HNE := hide (fun e => blR_new hbl e)
        have HNU := hide (nude_inj (p := y) (q := rr xs i))
        rcases OW.out.form with ⟨_, h0, _⟩ | ⟨g, rfl, hg, hgl, hcc, hcm⟩
        · omega
        obtain ⟨c0, c1', c2, c3⟩ := OW.out.cell (k := k) (by omega)
        have fz := OW.out.frozen (k * 4 + 1)
        rw [snoc_get _ _ HLc.out] at c0 c1' c2 c3
        have wj : IntKind.i64.wrap ((k : Int) + 1 - 1) = k := by rw [Int.add_sub_cancel]; exact IntWalk.i64_in _ (by omega)
        have l3 : (0 : Int) < (k : Int) + 1 := by omega
        have l4 : (k : Int) < (k : Int) + 1 := by omega
        have hmx : c1 ≤ 9223372036854775807 := hcm
        have hst := hide (OW.out.stored1 (k := k) (by omega) (i : Int))
        rw [snoc_get _ _ HLc.out, snoc_set _ _ _ HLc.out] at hst
        simp only [b4] at c0 c1' c2 c3 hst
        have HL1 := hide (fun (e : y = rr xs i) => show bL (rr xs) (i + 1) = rest.reverse.map b4 ++ [((a : Int), (i : Int), nu y, de y)] by rw [bL_cons (HEQ.out e)]; rfl)
        have HL2 := hide (fun (e : ¬ y = rr xs i) => show bL (rr xs) (i + 1) = (rest.reverse.map b4 ++ [b4 (a, b, y)]) ++ [((i : Int), (i : Int), nu (rr xs i), de (rr xs i))] by
          rw [bL_cons (HNE.out e), List.reverse_cons, List.map_append]; rfl)
        have HM1 := hide (fun (e : y = rr xs i) => show k + 1 = (blR (rr xs) (i + 1)).length by rw [HEQ.out e, List.length_cons, hk])
        have HM2 := hide (fun (e : ¬ y = rr xs i) => show k + 1 + 1 = (blR (rr xs) (i + 1)).length by rw [HNE.out e, List.length_cons, List.length_cons, hk])
        simp only [b4] at HL2 OW
        generalize nu (rr xs i) = p at *
        generalize de (rr xs i) = q at *
        generalize nu y = p' at *
        generalize de y = q' at *
        generalize rest.reverse.map b4 = lk at *
        clear hbl hk
        by_cases g1 : p' = p
        · by_cases g2 : q' = q
          · have HG1 := hide (HL1.out (HNU.out.2 ⟨g1, g2⟩))
            have HG2 := hide (HM1.out (HNU.out.2 ⟨g1, g2⟩))
            subst g1 g2
            clear HL1 HL2 HM1 HM2 HEQ HNE
            go_wp2_with fail
            go_quiet (fail)
            go_wp2_with fail
            go_roundw
            case rel => exact ⟨i + 1, k + 1, _, c1, by omega, by go_num, by go_num, HG2.out, by rw [HG1.out]; exact hst.out.drewN _, (below_drewN HB.out _).setCell (by simp; omega) _⟩
            case measure => simp [intOf]; omega
          · have HG1 := hide (HL2.out fun e => g2 (HNU.out.1 e).2)
            have HG2 := hide (HM2.out fun e => g2 (HNU.out.1 e).2)
            have b2 : (q' != q) = true := by simp [g2]
            have b2' : (q' == q) = false := by simp [g2]
            subst g1
            clear HL1 HL2 HM1 HM2 HEQ HNE
            go_wp2_with fail
            go_quiet (fail)
            go_wp2_with (at_builtin; refine wpList_app4 _ rfl (.tmp 45) (.tmp 53) rfl w2.heap.size (k + 1) c1 _ _ ((i : Int), (i : Int), p', q) (by simp [Act.eval]) (by simp [Act.eval]) (OW.out.drewN _) (by omega) (by simpa using hzw) ?_; intro A9 c9 w9 o9 b9)
            have O9 := hide o9
            have B9 := hide ((below_drewN HB.out _).trans b9)
            clear o9 b9
            go_roundw
            case rel => exact ⟨i + 1, k + 1 + 1, A9, c9, by omega, by go_num, by go_num, HG2.out, by rw [HG1.out]; exact O9.out, B9.out⟩
            case measure => simp [intOf]; omega
        · have HG1 := hide (HL2.out fun e => g1 (HNU.out.1 e).1)
          have HG2 := hide (HM2.out fun e => g1 (HNU.out.1 e).1)
          have b1 : (p' != p) = true := by simp [g1]
          have b1' : (p' == p) = false := by simp [g1]
          clear HL1 HL2 HM1 HM2 HEQ HNE
          go_wp2_with fail
          go_quiet (fail)
          go_wp2_with (at_builtin; refine wpList_app4 _ rfl (.tmp 45) (.tmp 53) rfl w2.heap.size (k + 1) c1 _ _ ((i : Int), (i : Int), p, q) (by simp [Act.eval]) (by simp [Act.eval]) (OW.out.drewN _) (by omega) (by simpa using hzw) ?_; intro A9 c9 w9 o9 b9)
          have O9 := hide o9
          have B9 := hide ((below_drewN HB.out _).trans b9)
          clear o9 b9
          go_roundw
          case rel => exact ⟨i + 1, k + 1 + 1, A9, c9, by omega, by go_num, by go_num, HG2.out, by rw [HG1.out]; exact O9.out, B9.out⟩
          case measure => simp [intOf]; omega
    · obtain rfl : i = n := by omega
      go_wp2_with fail
      go_ret2
      refine ⟨A1, m, c1, by rw [HE.out]; rfl, ?_, B2.out.trans (HB.out.mono B2.out.size)⟩
      rw [if_pos HE.out, HBK.out]
      exact OW.out.more B2.out.size

end Go.Proofs.Ytlmmkaadoicogaa
