/- LogNearest: the walk. -/
import Derived.Test.YtndfdminjegldaaKnown
import Derived.Test.YtndfdminjegldaaWalkNr
namespace Go.Proofs.Ytndfdminjegldaa
open Go.RowKit Go.Shelf
attribute [local go_sem] Oper.semAt_some

set_option maxRecDepth 100000 in
set_option maxHeartbeats 8000000 in
theorem LogNearest_walk (At : Option Addr) (nt ct : Nat) (T : Tbl) (A : Option Addr) (n c : Nat) (xs : List Int) (o i h : Int) (w : World) (hT : RR w At nt ct T) (hx : R E1 w A n c xs) :
    Calls Try.prog 11 #[.slice At nt ct, .slice A n c, cV o i h] w fun e w' => e = .returned (.bool true) ∧ Below w.heap.size w w' := by
  have BX := hide ((Below.refl w.heap.size w).alloc (Nat.le_refl _) (.cells #[.int .i64 o, .int .i64 i, .int .i64 h] 24))
  have HBK := hide (Bk.born w 24 #[.int .i64 o, .int .i64 i, .int .i64 h])
  have HX := hide (hx.below BX.out (Nat.le_refl _))
  have HT := hide (hT.below BX.out)
  have hlt0 := (rr_le hT).1
  have hle := hx.le
  have hz : w.heap.size < (w.alloc (.cells #[.int .i64 o, .int .i64 i, .int .i64 h] 24)).heap.size := by simp
  by_cases h50 : 50 < nt
  · have h50' : (50 : Int) < (nt : Int) := by omega
    clear hT hx
    go_enter Try.func11, Try.ntmps11
    go_wp2_with (go_at_call 19; refine (known_any _).mono ?_; rintro e2 w2 ⟨rfl, b2⟩; have D2 := hide b2; clear b2)
    go_ret
    exact ⟨rfl, le_call BX.out D2.out⟩
  · have h50' : (nt : Int) ≤ 50 := by omega
    by_cases hl : 100 < n
    · have HL := hide (show decide (100 < n) = true from by simpa using hl)
      clear hT hx
      go_enter Try.func11, Try.ntmps11
      go_wp2_with (first
        | (go_at_call 32; refine (large_any A n c _ hle).mono ?_; rw [HL.out]; rintro e1 w1 ⟨rfl, rfl⟩)
        | (go_at_call 19; refine (known_any _).mono ?_; rintro e2 w2 ⟨rfl, b2⟩; have D2 := hide b2; clear b2))
      go_ret
      exact ⟨rfl, le_call BX.out D2.out⟩
    · have HL := hide (show decide (100 < n) = false from by simpa using hl)
      clear hx
      go_enter Try.func11, Try.ntmps11
      go_wp2_with (go_at_call 32; refine (large_any A n c _ hle).mono ?_; rw [HL.out]; rintro e1 w1 ⟨rfl, rfl⟩)
      generalize hw0 : w.alloc (.cells #[.int .i64 o, .int .i64 i, .int .i64 h] 24) = w0 at *
      clear hw0 hT
      go_loopw [7] (fun a7 wr => ∃ t : Nat, t ≤ nt ∧ a7 = .int .i64 t ∧ w0 = wr) (fun a7 _ => nt - (intOf a7).toNat)
      case atStart => exact ⟨0, Nat.zero_le _, rfl, rfl⟩
      case round =>
        obtain ⟨t, ht, rfl, rfl⟩ := hrel
        by_cases hlt : t < nt
        · have htn : (t : Int) < (nt : Int) := by omega
          obtain ⟨bt, ot, rfl, hct, hmt⟩ := rr_some HT.out (by omega)
          obtain ⟨hbt, Ar, nr, cr, m1, r1⟩ := rr_at HT.out hlt
          have hler := r1.le
          clear r1
          by_cases hlr : 100 < nr
          · have HLR := hide (show decide (100 < nr) = true from by simpa using hlr)
            clear hlr
            go_wp2_with (first
              | (go_at_call 32; refine (large_any Ar nr cr _ hler).mono ?_; rw [HLR.out]; rintro e1 w1 ⟨rfl, rfl⟩)
              | (go_at_call 19; refine (known_any _).mono ?_; rintro e2 w2 ⟨rfl, b2⟩; have D2 := hide b2; clear b2))
            go_ret
            exact ⟨rfl, le_call BX.out D2.out⟩
          · have HLR := hide (show decide (100 < nr) = false from by simpa using hlr)
            clear hlr
            go_wp2_with (go_at_call 32; refine (large_any Ar nr cr _ hler).mono ?_; rw [HLR.out]; rintro e1 w1 ⟨rfl, rfl⟩)
            go_roundw
            case rel => exact ⟨t + 1, by omega, by go_num, by trivial⟩
            case measure => simp [intOf]; omega
        · obtain rfl : t = nt := by omega
          obtain ⟨ck0, ck1, ck2⟩ : w0.cell? ⟨w.heap.size, 0, none⟩ = some (.int .i64 o) ∧ w0.cell? ⟨w.heap.size, 1, none⟩ = some (.int .i64 i) ∧ w0.cell? ⟨w.heap.size, 2, none⟩ = some (.int .i64 h) := ⟨HBK.out.at_ 0, HBK.out.at_ 1, HBK.out.at_ 2⟩
          go_wp2_with (first
            | (go_at_call 43; refine (Nearest_any At t ct T A n c xs o i h _ HT.out HX.out).mono ?_; rintro e2 w2 ⟨rfl, b2⟩; have D2 := hide b2; clear b2; have BK2 := hide (HBK.out.keep D2.out hz); obtain ⟨kk0, kk1, kk2⟩ : w2.cell? ⟨w.heap.size, 0, none⟩ = some (.int .i64 o) ∧ w2.cell? ⟨w.heap.size, 1, none⟩ = some (.int .i64 i) ∧ w2.cell? ⟨w.heap.size, 2, none⟩ = some (.int .i64 h) := ⟨BK2.out.at_ 0, BK2.out.at_ 1, BK2.out.at_ 2⟩)
            | (go_at_call 44; refine (rNearest_any At t ct T A n c xs o i h _ (HT.out.below D2.out) (HX.out.below D2.out (Nat.le_refl _))).mono ?_; rintro e3 w3 ⟨rfl, b3⟩; have D3 := hide (le_call D2.out b3); clear b3)
            | (go_at_call 19; refine (known_any _).mono ?_; rintro e4 w4 ⟨rfl, b4⟩; have D4 := hide (le_call D3.out b4); clear b4))
          go_ret
          exact ⟨ret_bool (by simp), le_call BX.out D4.out⟩
end Go.Proofs.Ytndfdminjegldaa
