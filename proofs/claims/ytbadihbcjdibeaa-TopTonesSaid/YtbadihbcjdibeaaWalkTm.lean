/- Walks: Tell, both sides. -/
import Derived.Test.YtbadihbcjdibeaaWalkTl
namespace Go.Proofs.Ytbadihbcjdibeaa
open Go.RowKit

def inTo (t x : List Int) (j : Nat) : Bool := (List.range j).any fun i => eqL (pieceL t (i : Int) x.length) x
theorem inTo_zero (t x : List Int) : inTo t x 0 = false := rfl
theorem inTo_succ (t x : List Int) (j : Nat) : inTo t x (j + 1) = (inTo t x j || eqL (pieceL t (j : Int) x.length) x) := by
  unfold inTo; rw [List.range_succ, List.any_append]; simp
theorem inTo_all (t x : List Int) : inTo t x t.length = hasB t x := rfl
theorem inTo_true {t x : List Int} {j : Nat} (h : inTo t x j = true) : inTo t x (j + 1) = true := by rw [inTo_succ, h]; rfl
theorem inTo_false {t x : List Int} {j : Nat} {b : Bool} (h : inTo t x j = false) (e : eqL (pieceL t (j : Int) x.length) x = b) : inTo t x (j + 1) = b := by rw [inTo_succ, h, e]; rfl
def tellTo (ls : List (List Int)) (x : List Int) (k : Nat) : List Int := ((List.range k).filter fun i => hasB (ls.getD i []) x).map fun (i : Nat) => (i : Int)
theorem tellTo_zero (ls : List (List Int)) (x : List Int) : tellTo ls x 0 = [] := rfl
theorem tellTo_yes {ls : List (List Int)} {x : List Int} {k : Nat} (h : hasB (ls.getD k []) x = true) : tellTo ls x (k + 1) = tellTo ls x k ++ [(k : Int)] := by
  unfold tellTo; rw [List.range_succ, List.filter_append, List.map_append, List.filter_cons_of_pos (p := fun i => hasB (ls.getD i []) x) h]; rfl
theorem tellTo_no {ls : List (List Int)} {x : List Int} {k : Nat} (h : hasB (ls.getD k []) x = false) : tellTo ls x (k + 1) = tellTo ls x k := by
  unfold tellTo
  rw [List.range_succ, List.filter_append, List.map_append, List.filter_cons_of_neg (by rw [h]; simp)]
  simp
theorem tellTo_len (ls : List (List Int)) (x : List Int) (k : Nat) : (tellTo ls x k).length ≤ k := by
  unfold tellTo
  rw [List.length_map]
  exact Nat.le_trans (List.length_filter_le _ _) (by simp)
def tellE (ls : List (List Int)) (x : List Int) : Int := if errLs ls = 0 then (if 60 < x.length then 3 else bitErr x) else errLs ls
def tellL (ls : List (List Int)) (x : List Int) : List Int := okl (tellE ls x) (tellTo ls x ls.length)
theorem tellE_ne {ls : List (List Int)} {x : List Int} (h : errLs ls ≠ 0) : tellE ls x = errLs ls := by unfold tellE; rw [if_neg h]
theorem tellE_large {ls : List (List Int)} {x : List Int} (h : errLs ls = 0) (h1 : 60 < x.length) : tellE ls x = 3 := by unfold tellE; rw [if_pos h, if_pos h1]
theorem tellE_fit {ls : List (List Int)} {x : List Int} (h : errLs ls = 0) (h1 : x.length ≤ 60) : tellE ls x = bitErr x := by unfold tellE; rw [if_pos h, if_neg (by omega)]
theorem tellL_ne {ls : List (List Int)} {x : List Int} (h : tellE ls x ≠ 0) : tellL ls x = [] := okl_ne h _
theorem tellL_ok {ls : List (List Int)} {x : List Int} (h : tellE ls x = 0) : tellL ls x = tellTo ls x ls.length := okl_zero h _

set_option maxHeartbeats 2000000 in
theorem Tell_any (A : Option Addr) (n c : Nat) (ls : List (List Int)) (A' : Option Addr) (m c' : Nat) (ys : List Int) (w : World) (h : Grid w A n c ls) (h' : Row w A' m c' ys) (hs : Small ls 200) (hm : m ≤ 1000) :
    Calls Try.prog 10 #[.slice A n c, .slice A' m c'] w fun e w' => ∃ A1 n1 c1, e = .returned (.tuple #[.slice A1 n1 c1, .int .i64 (tellE ls ys)]) ∧ Own w' w.heap.size A1 n1 c1 (tellL ls ys) ∧ Below w.heap.size w w' := by
  have HG := hide h
  have HL := hide h.length
  have HR := hide h'
  have HL' := hide h'.length
  have HS := hide hs
  clear h h' hs
  by_cases he : errLs ls = 0
  · have HE := hide he
    obtain ⟨e1, e2⟩ := errLs_zero he
    rw [HL.out] at e1
    have HOK := hide e2
    clear he e2
    by_cases hl : 60 < m
    · have HT := hide (tellE_large HE.out (by rw [HL'.out]; exact hl))
      have HT2 := hide (tellL_ne (ls := ls) (x := ys) (by rw [HT.out]; decide))
      go_enter Try.func10, Try.ntmps10
      go_wp2_with fail
      refine (validateList_any _ _ _ ls _ HG.out HS.out).mono ?_
      rintro e w1 ⟨rfl, rfl⟩
      rw [HE.out]
      go_wp2_with fail
      go_ret2
      exact ⟨none, 0, 0, ret2_vi HT.out.symm, by rw [HT2.out]; exact Own.nil _ _, Below.refl _ _⟩
    · have hl2 : m ≤ 60 := by omega
      have HT := hide (tellE_fit HE.out (by rw [HL'.out]; exact hl2))
      clear hl
      by_cases hb : bitErr ys = 0
      · have HB := hide hb
        have HT2 := hide (tellL_ok (ls := ls) (x := ys) (by rw [HT.out]; exact hb))
        clear hb
        go_enter Try.func10, Try.ntmps10
        go_wp2_with fail
        refine (validateList_any _ _ _ ls _ HG.out HS.out).mono ?_
        rintro e w1 ⟨rfl, rfl⟩
        rw [HE.out]
        go_wp2_with fail
        refine (validateSeconds_any _ _ _ ys _ HR.out (by omega)).mono ?_
        rintro e w1 ⟨rfl, rfl⟩
        rw [HB.out]
        go_wp2_with fail
        go_loopw [9, 28] (fun s i wr => ∃ (k n1 : Nat) (A1 : Option Addr) (c1 : Nat), k ≤ n ∧ n1 ≤ k ∧ i = .int .i64 k ∧ s = .slice A1 n1 c1 ∧ Own wr w.heap.size A1 n1 c1 (tellTo ls ys k) ∧ Below w.heap.size w wr) (fun _ i _ => n - (intOf i).toNat)
        case atStart => exact ⟨0, 0, none, 0, Nat.zero_le _, Nat.le_refl _, rfl, rfl, Own.nil _ _, Below.refl _ _⟩
        case round =>
          obtain ⟨k, n1, A1, c1, hk, hn1, rfl, rfl, hown, hbel⟩ := hrel
          have HBL := hide hbel
          have HO := hide hown
          clear hbel hown
          have hsz := HBL.out.size
          by_cases hlt : k < n
          · obtain ⟨b, off, g⟩ := HG.out
            obtain rfl := g.at_ (by omega)
            have g1 := g.cap
            have g2 := g.max
            obtain ⟨A2, m2, c2, hc, hrow⟩ := (g.below HBL.out (Nat.le_refl _)).cell k hlt
            have HRow := hide hrow
            have hpos : 1 ≤ m2 := by have := (errOf_zero (HOK.out k (by rw [HL.out]; exact hlt))).1; rw [hrow.length] at this; exact this
            have hm2 : m2 ≤ 1000 := by have := HS.out k (by rw [HL.out]; exact hlt); rw [hrow.length] at this; omega
            clear hrow g
            cases hh : hasB (ls.getD k []) ys with
            | true =>
              have HH := hide (tellTo_yes hh)
              go_wp2_with fail
              refine (hasPiece_any _ _ _ (ls.getD k []) _ _ _ ys _ HRow.out (HR.out.below HBL.out (Nat.le_refl _)) hpos hm2 hl2).mono ?_
              rintro e w2 ⟨rfl, b2⟩
              rw [hh]
              have B2 := hide (HBL.out.trans (b2.mono hsz))
              have O2 := hide (HO.out.below b2 (Nat.le_refl _))
              have z2 := B2.out.size
              clear b2
              go_wp2_with (first | (at_builtin; refine wpList_app1 _ rfl (.tmp 36) (.tmp 38) rfl w.heap.size n1 c1 A1 _ _ rfl rfl O2.out (by omega) z2 ?_; intro A3 c3 w3 hown3 hb3 hg3))
              go_roundw
              case rel => exact ⟨k + 1, n1 + 1, A3, c3, by omega, by omega, by go_num, by go_num, by rw [HH.out]; exact hown3, B2.out.trans (hb3.mono (Nat.le_refl _))⟩
              case measure => simp [intOf]; omega
            | false =>
              have HH := hide (tellTo_no hh)
              go_wp2_with fail
              refine (hasPiece_any _ _ _ (ls.getD k []) _ _ _ ys _ HRow.out (HR.out.below HBL.out (Nat.le_refl _)) hpos hm2 hl2).mono ?_
              rintro e w2 ⟨rfl, b2⟩
              rw [hh]
              have B2 := hide (HBL.out.trans (b2.mono hsz))
              have O2 := hide (HO.out.below b2 (Nat.le_refl _))
              have z2 := B2.out.size
              clear b2
              go_wp2_with fail
              go_roundw
              case rel => exact ⟨k + 1, n1, A1, c1, by omega, by omega, by go_num, rfl, by rw [HH.out]; exact O2.out, B2.out⟩
              case measure => simp [intOf]; omega
          · obtain rfl : k = n := by omega
            go_wp2_with fail
            go_ret2
            exact ⟨A1, n1, c1, ret2_vi (by rw [HT.out, HB.out]), by rw [HT2.out, HL.out]; exact HO.out, HBL.out⟩
      · have hb' : (bitErr ys != 0) = true := by simp [hb]
        have HT2 := hide (tellL_ne (ls := ls) (x := ys) (by rw [HT.out]; exact hb))
        clear hb
        go_enter Try.func10, Try.ntmps10
        go_wp2_with fail
        refine (validateList_any _ _ _ ls _ HG.out HS.out).mono ?_
        rintro e w1 ⟨rfl, rfl⟩
        rw [HE.out]
        go_wp2_with fail
        refine (validateSeconds_any _ _ _ ys _ HR.out (by omega)).mono ?_
        rintro e w1 ⟨rfl, rfl⟩
        go_wp2_with fail
        go_ret2
        exact ⟨none, 0, 0, ret2_vi HT.out.symm, by rw [HT2.out]; exact Own.nil _ _, Below.refl _ _⟩
  · have he' : (errLs ls != 0) = true := by simp [he]
    have HT := hide (tellE_ne (x := ys) he)
    have HT2 := hide (tellL_ne (ls := ls) (x := ys) (by rw [HT.out]; exact he))
    clear he
    go_enter Try.func10, Try.ntmps10
    go_wp2_with fail
    refine (validateList_any _ _ _ ls _ HG.out HS.out).mono ?_
    rintro e w1 ⟨rfl, rfl⟩
    go_wp2_with fail
    go_ret2
    exact ⟨none, 0, 0, ret2_vi HT.out.symm, by rw [HT2.out]; exact Own.nil _ _, Below.refl _ _⟩

set_option maxHeartbeats 4000000 in
theorem rTell_any (A : Option Addr) (n c : Nat) (ls : List (List Int)) (A' : Option Addr) (m c' : Nat) (ys : List Int) (w : World) (h : Grid w A n c ls) (h' : Row w A' m c' ys) (hs : Small ls 200) (hm : m ≤ 1000) :
    Calls Try.prog 11 #[.slice A n c, .slice A' m c'] w fun e w' => ∃ A1 n1 c1, e = .returned (.tuple #[.slice A1 n1 c1, .int .i64 (tellE ls ys)]) ∧ Own w' w.heap.size A1 n1 c1 (tellL ls ys) ∧ Below w.heap.size w w' := by
  have HG := hide h
  have HL := hide h.length
  have HR := hide h'
  have HL' := hide h'.length
  have HS := hide hs
  clear h h' hs
  by_cases he : errLs ls = 0
  · have HE := hide he
    obtain ⟨e1, e2⟩ := errLs_zero he
    rw [HL.out] at e1
    have HOK := hide e2
    clear he e2
    by_cases hl : 60 < m
    · have HT := hide (tellE_large HE.out (by rw [HL'.out]; exact hl))
      have HT2 := hide (tellL_ne (ls := ls) (x := ys) (by rw [HT.out]; decide))
      go_enter Try.func11, Try.ntmps11
      go_wp2_with fail
      refine (listed_any _ _ _ ls _ HG.out HS.out).mono ?_
      rintro e w1 ⟨rfl, rfl⟩
      rw [HE.out]
      go_wp2_with fail
      go_ret2
      exact ⟨none, 0, 0, ret2_vi HT.out.symm, by rw [HT2.out]; exact Own.nil _ _, Below.refl _ _⟩
    · have hl2 : m ≤ 60 := by omega
      have HT := hide (tellE_fit HE.out (by rw [HL'.out]; exact hl2))
      clear hl
      cases hb : bitsB ys with
      | true =>
        have HB := hide hb
        have HT1 := hide (HT.out.trans (bitErr_true hb))
        have HT2 := hide (tellL_ok (ls := ls) (x := ys) HT1.out)
        clear hb
        go_enter Try.func11, Try.ntmps11
        go_wp2_with fail
        refine (listed_any _ _ _ ls _ HG.out HS.out).mono ?_
        rintro e w1 ⟨rfl, rfl⟩
        rw [HE.out]
        go_wp2_with fail
        refine (rbits_any _ _ _ ys _ HR.out (by omega)).mono ?_
        rintro e w1 ⟨rfl, rfl⟩
        rw [HB.out]
        go_wp2_with fail
        go_loopw [7, 8] (fun s i wr => ∃ (k n1 : Nat) (A1 : Option Addr) (c1 : Nat), k ≤ n ∧ n1 ≤ k ∧ i = .int .i64 k ∧ s = .slice A1 n1 c1 ∧ Own wr w.heap.size A1 n1 c1 (tellTo ls ys k) ∧ Below w.heap.size w wr) (fun _ i _ => n - (intOf i).toNat)
        case atStart => exact ⟨0, 0, none, 0, Nat.zero_le _, Nat.le_refl _, rfl, rfl, Own.nil _ _, Below.refl _ _⟩
        case round =>
          obtain ⟨k, n1, A1, c1, hk, hn1, rfl, rfl, hown, hbel⟩ := hrel
          obtain ⟨wa, rfl⟩ : ∃ v : World, v = wr := ⟨_, rfl⟩
          have HBL := hide hbel
          have HO := hide hown
          clear hbel hown
          have hsz := HBL.out.size
          by_cases hlt : k < n
          · obtain ⟨b, off, g⟩ := HG.out
            obtain rfl := g.at_ (by omega)
            have g1 := g.cap
            have g2 := g.max
            have GA := hide (g.below HBL.out (Nat.le_refl _))
            obtain ⟨A2, m2, c2, hc, hrow⟩ := GA.out.cell k hlt
            have HRow := hide hrow
            have HM2 := hide hrow.length
            have hpos : 1 ≤ m2 := by have := (errOf_zero (HOK.out k (by rw [HL.out]; exact hlt))).1; rw [hrow.length] at this; exact this
            have hm2 : m2 ≤ 1000 := by have := HS.out k (by rw [HL.out]; exact hlt); rw [hrow.length] at this; omega
            have HC := hide hc
            have glt := GA.out.lt (by omega)
            clear hrow g
            go_wp2_with fail
            go_loopw [9, 10] (fun s i wr => ∃ j : Nat, j ≤ m2 ∧ i = .int .i64 j ∧ s = .bool (inTo (ls.getD k []) ys j) ∧ Below wa.heap.size wa wr) (fun _ i _ => m2 - (intOf i).toNat)
            case atStart => exact ⟨0, Nat.zero_le _, rfl, rfl, Below.refl _ _⟩
            case round =>
              obtain ⟨j, hj, rfl, rfl, hb2⟩ := hrel
              have HB2 := hide hb2
              have hz2 := hb2.size
              clear hb2 hc
              have hc : wr.cell? ⟨b, off + k, none⟩ = some (.slice A2 m2 c2) := by rw [HB2.out.cell (p := ⟨b, off + k, none⟩) glt]; exact HC.out
              by_cases hjt : j < m2
              · cases hin : inTo (ls.getD k []) ys j with
                | true =>
                  have HIN := hide (inTo_true hin)
                  go_wp2_with fail
                  go_roundw
                  case rel => exact ⟨j + 1, by omega, by go_num, by rw [HIN.out], HB2.out⟩
                  case measure => simp [intOf]; omega
                | false =>
                  cases heq : eqL (pieceL (ls.getD k []) (j : Int) ys.length) ys with
                  | true =>
                    have HIN := hide (inTo_false hin heq)
                    have HEQ := hide heq
                    rw [HL'.out] at HEQ
                    clear heq
                    go_wp2_with fail
                    refine (piece_any _ _ _ (ls.getD k []) (j : Int) m _ (HRow.out.below HB2.out (Nat.le_refl _)) hpos hm2 (by omega) (by omega) (by omega)).mono ?_
                    rintro e w3 ⟨A3, c3, rfl, o3, b3⟩
                    have B3 := hide (HB2.out.trans (b3.mono hz2))
                    have z3 := B3.out.size
                    go_wp2_with fail
                    refine (SameInts_any _ _ _ _ _ _ _ ys _ o3.row (HR.out.below (HBL.out.trans (B3.out.mono hsz)) (Nat.le_refl _))).mono ?_
                    rintro e w4 ⟨rfl, d4⟩
                    rw [HEQ.out]
                    go_wp2_with fail
                    go_roundw
                    case rel => exact ⟨j + 1, by omega, by go_num, by rw [HIN.out], B3.out.trans (d4.below _)⟩
                    case measure => simp [intOf]; omega
                  | false =>
                    have HIN := hide (inTo_false hin heq)
                    have HEQ := hide heq
                    rw [HL'.out] at HEQ
                    clear heq
                    go_wp2_with fail
                    refine (piece_any _ _ _ (ls.getD k []) (j : Int) m _ (HRow.out.below HB2.out (Nat.le_refl _)) hpos hm2 (by omega) (by omega) (by omega)).mono ?_
                    rintro e w3 ⟨A3, c3, rfl, o3, b3⟩
                    have B3 := hide (HB2.out.trans (b3.mono hz2))
                    have z3 := B3.out.size
                    go_wp2_with fail
                    refine (SameInts_any _ _ _ _ _ _ _ ys _ o3.row (HR.out.below (HBL.out.trans (B3.out.mono hsz)) (Nat.le_refl _))).mono ?_
                    rintro e w4 ⟨rfl, d4⟩
                    rw [HEQ.out]
                    go_wp2_with fail
                    go_roundw
                    case rel => exact ⟨j + 1, by omega, by go_num, by rw [HIN.out], B3.out.trans (d4.below _)⟩
                    case measure => simp [intOf]; omega
              · obtain rfl : j = m2 := by omega
                have B3 := hide (HBL.out.trans (HB2.out.mono hsz))
                have O3 := hide (HO.out.below HB2.out (Nat.le_refl _))
                have z3 := B3.out.size
                cases hh : hasB (ls.getD k []) ys with
                | true =>
                  have HH := hide (tellTo_yes hh)
                  have HI := hide (show inTo (ls.getD k []) ys j = true by rw [← HM2.out, inTo_all]; exact hh)
                  rw [HI.out]
                  go_wp2_with (first | (at_builtin; refine wpList_app1 _ rfl (.tmp 51) (.tmp 53) rfl w.heap.size n1 c1 A1 _ _ rfl rfl O3.out (by omega) z3 ?_; intro A3 c3 w3 hown3 hb3 hg3))
                  go_roundw
                  case rel => exact ⟨k + 1, n1 + 1, A3, c3, by omega, by omega, by go_num, by go_num, by rw [HH.out]; exact hown3, B3.out.trans (hb3.mono (Nat.le_refl _))⟩
                  case measure => simp [intOf]; omega
                | false =>
                  have HH := hide (tellTo_no hh)
                  have HI := hide (show inTo (ls.getD k []) ys j = false by rw [← HM2.out, inTo_all]; exact hh)
                  rw [HI.out]
                  go_wp2_with fail
                  go_roundw
                  case rel => exact ⟨k + 1, n1, A1, c1, by omega, by omega, by go_num, rfl, by rw [HH.out]; exact O3.out, B3.out⟩
                  case measure => simp [intOf]; omega
          · obtain rfl : k = n := by omega
            go_wp2_with fail
            go_ret2
            exact ⟨A1, n1, c1, ret2_vi HT1.out.symm, by rw [HT2.out, HL.out]; exact HO.out, HBL.out⟩
      | false =>
        have HB := hide hb
        have HT1 := hide (HT.out.trans (bitErr_false hb))
        have HT2 := hide (tellL_ne (ls := ls) (x := ys) (by rw [HT1.out]; decide))
        clear hb
        go_enter Try.func11, Try.ntmps11
        go_wp2_with fail
        refine (listed_any _ _ _ ls _ HG.out HS.out).mono ?_
        rintro e w1 ⟨rfl, rfl⟩
        rw [HE.out]
        go_wp2_with fail
        refine (rbits_any _ _ _ ys _ HR.out (by omega)).mono ?_
        rintro e w1 ⟨rfl, rfl⟩
        rw [HB.out]
        go_wp2_with fail
        go_ret2
        exact ⟨none, 0, 0, ret2_vi HT1.out.symm, by rw [HT2.out]; exact Own.nil _ _, Below.refl _ _⟩
  · have he' : (errLs ls != 0) = true := by simp [he]
    have HT := hide (tellE_ne (x := ys) he)
    have HT2 := hide (tellL_ne (ls := ls) (x := ys) (by rw [HT.out]; exact he))
    clear he
    go_enter Try.func11, Try.ntmps11
    go_wp2_with fail
    refine (listed_any _ _ _ ls _ HG.out HS.out).mono ?_
    rintro e w1 ⟨rfl, rfl⟩
    go_wp2_with fail
    go_ret2
    exact ⟨none, 0, 0, ret2_vi HT.out.symm, by rw [HT2.out]; exact Own.nil _ _, Below.refl _ _⟩

end Go.Proofs.Ytbadihbcjdibeaa
