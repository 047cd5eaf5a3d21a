/- The walk of Blocks (program). -/
import Derived.Test.YtlmmkaadoicogaaOwnF
import Derived.Deep.RegionLaw
namespace Go.Proofs.Ytlmmkaadoicogaa
open Go.RowKit

/-- What Blocks returns: the blocks and the code, both sides. -/
def BlkPost (xs : Rd) (w : World) (e : Ending) (w' : World) : Prop :=
  ∃ A n c, e = .returned (.tuple #[.slice A n c, .int .i64 (errH xs)]) ∧ Own4 w' w.heap.size A n c (if errH xs = 0 then blocks xs else []) ∧ Below w.heap.size w w'
theorem take_snoc {l : List Rn} {k : Nat} {r : Rn} (h : l[k]? = some r) : (l.take (k + 1)).map (fun r => b4 (tri r)) = (l.take k).map (fun r => b4 (tri r)) ++ [((r.a : Int), (r.b : Int), nu (rt r.n r.d), de (rt r.n r.d))] := by
  have hk := (List.getElem?_eq_some_iff.1 h).1
  rw [List.take_succ_eq_append_getElem hk, List.map_append]
  have e := (List.getElem?_eq_some_iff.1 h).2
  rw [e]
  rfl

set_option maxHeartbeats 4000000 in
theorem Blocks_any (A : Option Addr) (n c : Nat) (xs : Rd) (w : World) (h : Row w A n c xs) (hn2 : n ≤ 1000) :
    Calls Try.prog 31 #[.slice A n c] w (BlkPost xs w) := by
  have HR := hide h
  have hl := h.length
  by_cases he : errH xs = 0
  case neg =>
    have he' := errH_ne he
    have HE := hide he
    clear h hl he
    go_enter Try.func31, Try.ntmps31
    go_wp2_with fail
    refine (Validate_any _ _ _ xs _ HR.out (by omega)).mono ?_
    rintro e w1 ⟨rfl, b1⟩
    go_wp2_with fail
    go_ret2
    refine ⟨none, 0, 0, rfl, ?_, b1⟩
    rw [if_neg HE.out]
    exact Own4.nil _ _
  obtain ⟨e1, e2, e3⟩ := errH_zero he
  have hn1 : 1 ≤ n := by omega
  have hn12 : n ≤ 12 := by omega
  have HE := hide he
  have HL := hide hl
  have O := hide e3
  clear h he e1 e2 hl e3
  go_enter Try.func31, Try.ntmps31
  go_wp2_with fail
  refine (Validate_any _ _ _ xs _ HR.out (by omega)).mono ?_
  rw [HE.out]
  rintro e w1 ⟨rfl, b1⟩
  have B1 := hide b1
  clear b1
  go_wp2_with fail
  refine (runs_any _ _ _ xs _ (HR.out.below B1.out (Nat.le_refl _)) O.out hn1 hn12).mono ?_
  rintro e w2 ⟨g, l, rfl, hst, hruns, hg, hb2⟩
  have HBL := hide (blocks_runs O.out (l := l) (by rw [HL.out]; exact hst))
  have HG := hide (fun r (hr : r ∈ l) => (stk_good hst r (List.mem_reverse.2 hr)).bd O.out (by rw [HL.out]; exact hn12))
  have hll : l.length ≤ n := by have := stk_len hst; simpa using this
  have B2 := hide (B1.out.trans (hb2.mono B1.out.size))
  have RU := hide hruns
  have glt := hruns.lt
  clear hst hruns hb2 hg
  generalize hlm : l.length = m at *
  have HLM := hide hlm
  clear hlm
  go_wp2_with fail
  go_loopw [5, 16] (fun v i wr => ∃ (k : Nat) (A1 : Option Addr) (c1 : Nat), k ≤ m ∧ i = .int .i64 k ∧ v = .slice A1 k c1 ∧ Own4 wr w2.heap.size A1 k c1 ((l.take k).map fun r => b4 (tri r)) ∧ Below w2.heap.size w2 wr) (fun _ i _ => m - (intOf i).toNat)
  case atStart => exact ⟨0, none, 0, by omega, rfl, rfl, Own4.nil _ _, Below.refl _ _⟩
  case round =>
    obtain ⟨k, A1, c1, hk, rfl, rfl, hown, hbel⟩ := hrel
    have OW := hide hown
    have HB := hide hbel
    clear hown hbel
    by_cases hlt : k < m
    · have hlt' : k < l.length := by rw [HLM.out]; exact hlt
      have hgetk : l[k]? = some l[k] := List.getElem?_eq_getElem hlt'
      have hmem : l[k] ∈ l := List.getElem_mem hlt'
      obtain ⟨d1, d2, n1, n2⟩ := HG.out _ hmem
      have HT := hide (take_snoc hgetk)
      generalize l[k] = r at *
      obtain ⟨c0, c1', c2, c3⟩ := (RU.out.below HB.out glt).cell k r hgetk
      have gw : g < wr.heap.size := Nat.lt_of_lt_of_le glt HB.out.size
      clear hgetk hmem
      have HLW := hide (fun W => lowest_any r.n r.d W n1 (by omega) d1 (by omega))
      have l2 : (k : Int) < m := by omega
      have hk6 : k ≤ 1000000 := by omega
      have OX := hide ((OW.out.alloc (.cells #[.int .i64 r.a, .int .i64 r.b, .int .i64 r.n, .int .i64 r.d] 79)).drew)
      have BX := hide ((HB.out.alloc HB.out.size (.cells #[.int .i64 r.a, .int .i64 r.b, .int .i64 r.n, .int .i64 r.d] 79)).drew)
      have RX := hide (Bk.born wr 79 #[.int .i64 r.a, .int .i64 r.b, .int .i64 r.n, .int .i64 r.d]).draw
      generalize (l.take k).map (fun r => b4 (tri r)) = lk at *
      generalize nu (rt r.n r.d) = p at *
      generalize de (rt r.n r.d) = q at *
      go_wp2_with fail
      go_region_law (first
        | (go_simp; go_at_call 60; refine (HLW.out _).mono ?_; rintro e8 w8 ⟨rfl, hb8⟩; have O8 := hide (OX.out.below hb8 (Nat.le_refl _)); have B8 := hide (BX.out.trans (hb8.mono BX.out.size)); obtain ⟨y0, y1, y2, y3, _⟩ := (RX.out.keep hb8 RX.out.in_).four; clear hb8)
        | (refine step_app4 (w := w8) rfl (.tmp 20) (.tmp 29) rfl w2.heap.size k c1 A1 lk ((r.a : Int), (r.b : Int), p, q) (by simp [Act.eval, Act.put]) (by simp [Act.eval, Act.put]) O8.out hk6 B8.out.size ?_; intro A9 c9 w9 o9 b9; have O9 := hide o9; have B9 := hide (B8.out.trans b9); clear o9 b9))
      all_goals
        go_wp2_with fail
        go_roundw
        case rel => exact ⟨k + 1, A9, c9, by omega, by go_num, by go_num, by rw [HT.out]; exact O9.out, B9.out⟩
        case measure => simp [intOf]; omega
    · obtain rfl : k = m := by omega
      go_wp2_with fail
      go_ret2
      refine ⟨A1, k, c1, by rw [HE.out]; rfl, ?_, B2.out.trans (HB.out.mono B2.out.size)⟩
      rw [if_pos HE.out, HBL.out]
      have := OW.out.more B2.out.size
      rw [← HLM.out, List.take_length] at this
      rw [HLM.out] at this
      exact this

end Go.Proofs.Ytlmmkaadoicogaa
