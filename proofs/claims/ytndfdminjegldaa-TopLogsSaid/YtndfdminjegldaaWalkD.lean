/- Walks: what the edits cost, what is before them, and what a number of a table is at most. -/
import Derived.Test.YtndfdminjegldaaWalkC
import Derived.StillTailTactics
namespace Go.Proofs.Ytndfdminjegldaa
open Go.RowKit Go.Shelf
attribute [local go_sem] Oper.semAt_some

abbrev iL : Value := .iface 98 (.agg #[])
abbrev iP : Value := .iface 99 (.agg #[])
abbrev iQ (b : Bool) : Value := .iface 77 (.agg #[.bool b])
def ival (e : Int) : Value := if e = 0 then iL else if e = 1 then iP else if e = 3 then iQ true else iQ false
theorem ival0 : ival 0 = iL := rfl
theorem ival1 : ival 1 = iP := rfl
theorem ival2 : ival 2 = iQ false := rfl
theorem ival3 : ival 3 = iQ true := rfl
theorem ival_one (x : Int) : (ival x).oneCell' = true := by
  unfold ival
  split
  · rfl
  · split
    · rfl
    · split <;> rfl
def EI : Enc Int := { size := 1, enc := fun e => [ival e], len := fun _ => rfl, one := fun x u h => by simp at h; subst h; exact ival_one x, d := 0 }
theorem cE {w : World} {A : Option Addr} {n c b off : Nat} {es : List Int} (h : RAt EI w A n c es b off) {k : Nat} (hk : k < n) : w.cell? ⟨b, off + k, none⟩ = some (ival (es.getD k 0)) := by
  have h1 := h.cell k hk 0 (by decide)
  rw [show k * EI.size + 0 = k from Nat.mul_one k] at h1
  exact h1
theorem asLL (w : World) : (Instr.typeAssert iL 71 98 true).run Try.prog w = .ok (.tuple #[.agg #[], .bool true]) w := by kernel_rfl
theorem asPL (w : World) : (Instr.typeAssert iP 71 98 true).run Try.prog w = .ok (.tuple #[.agg #[], .bool false]) w := by kernel_rfl
theorem asPP (w : World) : (Instr.typeAssert iP 71 99 true).run Try.prog w = .ok (.tuple #[.agg #[], .bool true]) w := by kernel_rfl
theorem asQL (b : Bool) (w : World) : (Instr.typeAssert (iQ b) 71 98 true).run Try.prog w = .ok (.tuple #[.agg #[], .bool false]) w := by kernel_rfl
theorem asQP (b : Bool) (w : World) : (Instr.typeAssert (iQ b) 71 99 true).run Try.prog w = .ok (.tuple #[.agg #[], .bool false]) w := by kernel_rfl
theorem asQQ (b : Bool) (w : World) : (Instr.typeAssert (iQ b) 71 77 true).run Try.prog w = .ok (.tuple #[.agg #[.bool b], .bool true]) w := by kernel_rfl
theorem asLQ (w : World) : (Instr.typeAssert iL 71 77 true).run Try.prog w = .ok (.tuple #[.agg #[.bool false], .bool false]) w := by kernel_rfl
theorem asPQ (w : World) : (Instr.typeAssert iP 71 77 true).run Try.prog w = .ok (.tuple #[.agg #[.bool false], .bool false]) w := by kernel_rfl
set_option maxHeartbeats 400000 in
theorem priceL_any (o i k : Int) (w : World) : Calls Try.prog 108 #[.agg #[], cV o i k] w fun e w' => e = .returned (.int .i64 o) ∧ Below w.heap.size w w' := by
  go_enter Try.func108, Try.ntmps108
  go_wp2_with fail
  go_ret
  exact ⟨rfl, ((Below.refl _ w).alloc (Nat.le_refl _) _).alloc (by simp) _⟩
set_option maxHeartbeats 400000 in
theorem priceP_any (o i k : Int) (w : World) : Calls Try.prog 109 #[.agg #[], cV o i k] w fun e w' => e = .returned (.int .i64 i) ∧ Below w.heap.size w w' := by
  go_enter Try.func109, Try.ntmps109
  go_wp2_with fail
  go_ret
  exact ⟨rfl, ((Below.refl _ w).alloc (Nat.le_refl _) _).alloc (by simp) _⟩
set_option maxHeartbeats 400000 in
theorem priceQ_any (b : Bool) (o i k : Int) (w : World) : Calls Try.prog 107 #[.agg #[.bool b], cV o i k] w fun e w' => e = .returned (.int .i64 (if b then 0 else k)) ∧ Below w.heap.size w w' := by
  cases b
  all_goals
    go_enter Try.func107, Try.ntmps107
    go_wp2_with fail
    go_ret
    exact ⟨rfl, ((Below.refl _ w).alloc (Nat.le_refl _) _).alloc (by simp) _⟩
set_option maxRecDepth 100000 in
set_option maxHeartbeats 1000000 in
theorem before_any (r k : Nat) (e : Int) (w : World) (he : edOk r k e) (hr : r ≤ 1000) (hk : k ≤ 1000) :
    Calls Try.prog 65 #[.int .i64 r, .int .i64 k, ival e] w fun e' w' => e' = .returned (.tuple #[.int .i64 (bfR r e : Nat), .int .i64 (bfK k e : Nat)]) ∧ w = w' := by
  rcases he with ⟨rfl, h1⟩ | ⟨rfl, h1⟩ | ⟨rfl | rfl, h1, h2⟩
  · rw [ival0, show bfR r 0 = r - 1 from rfl, show bfK k 0 = k from rfl]
    have d1 : (r : Int) - 1 = ((r - 1 : Nat) : Int) := by omega
    have f1 := asLL
    have f2 := asPL
    have f3 := asPP
    have f4 := asQL
    have f5 := asQP
    have f6 := asQQ
    go_enter Try.func65, Try.ntmps65
    go_wp2_with fail
    go_ret2
    exact ⟨by first | rfl | (rw [d1]; rfl), rfl⟩
  · rw [ival1, show bfR r 1 = r from rfl, show bfK k 1 = k - 1 from rfl]
    have d1 : (k : Int) - 1 = ((k - 1 : Nat) : Int) := by omega
    have f1 := asLL
    have f2 := asPL
    have f3 := asPP
    have f4 := asQL
    have f5 := asQP
    have f6 := asQQ
    go_enter Try.func65, Try.ntmps65
    go_wp2_with fail
    go_ret2
    exact ⟨by first | rfl | (rw [d1]; rfl), rfl⟩
  · rw [ival2, show bfR r 2 = r - 1 from rfl, show bfK k 2 = k - 1 from rfl]
    have d1 : (r : Int) - 1 = ((r - 1 : Nat) : Int) := by omega
    have d2 : (k : Int) - 1 = ((k - 1 : Nat) : Int) := by omega
    have f1 := asLL
    have f2 := asPL
    have f3 := asPP
    have f4 := asQL
    have f5 := asQP
    have f6 := asQQ
    go_enter Try.func65, Try.ntmps65
    go_wp2_with fail
    go_ret2
    exact ⟨by first | rfl | (rw [d1, d2]; rfl), rfl⟩
  · rw [ival3, show bfR r 3 = r - 1 from rfl, show bfK k 3 = k - 1 from rfl]
    have d1 : (r : Int) - 1 = ((r - 1 : Nat) : Int) := by omega
    have d2 : (k : Int) - 1 = ((k - 1 : Nat) : Int) := by omega
    have f1 := asLL
    have f2 := asPL
    have f3 := asPP
    have f4 := asQL
    have f5 := asQP
    have f6 := asQQ
    go_enter Try.func65, Try.ntmps65
    go_wp2_with fail
    go_ret2
    exact ⟨by first | rfl | (rw [d1, d2]; rfl), rfl⟩
theorem lt_of_cell {w : World} {b o : Nat} {v : Value} (h : w.cell? ⟨b, o, none⟩ = some v) : b < w.heap.size := by
  have := World.block_lt_of_cell? w _ h
  exact this
def prc (o i k : Int) (e : Int) : Int := if e = 0 then o else if e = 1 then i else if e = 3 then 0 else k
theorem meL (w : World) : (method 221 98 (.agg #[]) "diaphone/log.price").run Try.prog w = .ok (108, .agg #[]) w := by kernel_rfl
theorem meP (w : World) : (method 221 99 (.agg #[]) "diaphone/log.price").run Try.prog w = .ok (109, .agg #[]) w := by kernel_rfl
theorem meQ (b : Bool) (w : World) : (method 221 77 (.agg #[.bool b]) "diaphone/log.price").run Try.prog w = .ok (107, .agg #[.bool b]) w := by kernel_rfl
/-- The method of an edit, whatever its type. -/
theorem dyn_any (e o i h : Int) {r k : Nat} (he : edOk r k e) : ∃ (T : TypeId) (v : Value) (f : FuncId), ival e = .iface T v ∧ (∀ w, (method 221 T v "diaphone/log.price").run Try.prog w = .ok (f, v) w) ∧
    ∀ w, Calls Try.prog f #[v, cV o i h] w fun e' w' => e' = .returned (.int .i64 (prc o i h e)) ∧ Below w.heap.size w w' := by
  rcases he with ⟨rfl, _⟩ | ⟨rfl, _⟩ | ⟨rfl | rfl, _, _⟩
  · exact ⟨_, _, _, ival0, meL, priceL_any o i h⟩
  · exact ⟨_, _, _, ival1, meP, priceP_any o i h⟩
  · exact ⟨_, _, _, ival2, meQ false, priceQ_any false o i h⟩
  · exact ⟨_, _, _, ival3, meQ true, priceQ_any true o i h⟩
set_option maxRecDepth 100000 in
set_option maxHeartbeats 4000000 in
theorem bound_any (bo oo Rn Rc b off n c : Nat) (x : Int) (r k : Nat) (e : Int) (o i h : Int) (w : World) (he : edOk r k e) (hr : r ≤ 1000) (hk : k ≤ 1000)
    (h1 : w.cell? ⟨bo, oo + bfR r e, none⟩ = some (.slice (some ⟨b, off, none⟩) n c)) (h2 : w.cell? ⟨b, off + bfK k e, none⟩ = some (.int .i64 x)) (hR : bfR r e < Rn) (hK : bfK k e < n) (hx : -1000000 ≤ x ∧ x ≤ 1000000)
    (ho : 1 ≤ o ∧ o ≤ 9) (hi : 1 ≤ i ∧ i ≤ 9) (hh : 1 ≤ h ∧ h ≤ 9) :
    Calls Try.prog 85 #[.slice (some ⟨bo, oo, none⟩) Rn Rc, .int .i64 r, .int .i64 k, ival e, cV o i h] w fun e' w' => e' = .returned (.int .i64 (x + prc o i h e)) ∧ Below w.heap.size w w' := by
  have HE := hide he
  have hb1 := lt_of_cell h1
  have hb2 := lt_of_cell h2
  have B1 := hide ((Below.refl w.heap.size w).alloc (Nat.le_refl _) (.cells #[.int .i64 o, .int .i64 i, .int .i64 h] 24))
  have HK1 := hide (Bk.born w 24 #[.int .i64 o, .int .i64 i, .int .i64 h])
  clear he
  go_enter Try.func85, Try.ntmps85
  go_wp2_with (go_at_call 65; refine (before_any r k e _ HE.out hr hk).mono ?_; rintro e1 w1 ⟨rfl, rfl⟩)
  have k0 : World.cell? (w.alloc (.cells #[.int .i64 o, .int .i64 i, .int .i64 h] 24)) ⟨w.heap.size, 0, none⟩ = some (.int .i64 o) := HK1.out.at_ 0
  have k1 : World.cell? (w.alloc (.cells #[.int .i64 o, .int .i64 i, .int .i64 h] 24)) ⟨w.heap.size, 1, none⟩ = some (.int .i64 i) := HK1.out.at_ 1
  have k2 : World.cell? (w.alloc (.cells #[.int .i64 o, .int .i64 i, .int .i64 h] 24)) ⟨w.heap.size, 2, none⟩ = some (.int .i64 h) := HK1.out.at_ 2
  have m1 := (B1.out.cell (p := ⟨bo, oo + bfR r e, none⟩) hb1).trans h1
  have m2 := (B1.out.cell (p := ⟨b, off + bfK k e, none⟩) hb2).trans h2
  have BW := hide B1.out
  clear h1 h2 B1 HK1
  generalize w.alloc (.cells #[.int .i64 o, .int .i64 i, .int .i64 h] 24) = W at *
  have hR2 : ((bfR r e : Nat) : Int) < (Rn : Int) := by omega
  have hK2 : ((bfK k e : Nat) : Int) < (n : Int) := by omega
  generalize bfR r e = r' at *
  generalize bfK k e = k' at *
  have HW := hide (fun p (h1 : 0 ≤ p) (h2 : p ≤ 9) => (show IntKind.i64.wrap (x + p) = x + p from IntWalk.i64_in _ (by omega)))
  have HW0 := hide (show IntKind.i64.wrap x = x from IntWalk.i64_in _ (by omega))
  have hbw1 : bo < W.heap.size := lt_of_cell m1
  have hbw2 : b < W.heap.size := lt_of_cell m2
  have hbw3 : w.heap.size < W.heap.size := lt_of_cell k0
  rcases HE.out with ⟨rfl, _⟩ | ⟨rfl, _⟩ | ⟨rfl | rfl, _, _⟩
  · rw [ival0]
    have hm := meL
    go_region_with (go_at_call 108; refine (priceL_any o i h _).mono ?_; rintro e9 w9 ⟨rfl, b9⟩; have n1 : w9.cell? ⟨bo, oo + r', none⟩ = some (.slice (some ⟨b, off, none⟩) n c) := (b9.cell (p := ⟨bo, oo + r', none⟩) hbw1).trans m1; have n2 : w9.cell? ⟨b, off + k', none⟩ = some (.int .i64 x) := (b9.cell (p := ⟨b, off + k', none⟩) hbw2).trans m2; have B9 := hide (show Below w.heap.size w w9 from BW.out.drew.trans (b9.mono (Nat.le_of_lt hbw3))); clear b9)
    all_goals
      go_wp2_with fail
      go_ret
      refine ⟨?_, B9.out⟩
      first
        | (show Ending.returned (Value.int .i64 (IntKind.i64.wrap (x + o))) = _; rw [HW.out o (by omega) (by omega)]; rfl)
        | (show Ending.returned (Value.int .i64 (IntKind.i64.wrap x)) = _; rw [HW0.out]; simp [prc])
        | (simp [prc]; done)
        | (simp [prc, HW.out, HW0.out]; done)
  · rw [ival1]
    have hm := meP
    go_region_with (go_at_call 109; refine (priceP_any o i h _).mono ?_; rintro e9 w9 ⟨rfl, b9⟩; have n1 : w9.cell? ⟨bo, oo + r', none⟩ = some (.slice (some ⟨b, off, none⟩) n c) := (b9.cell (p := ⟨bo, oo + r', none⟩) hbw1).trans m1; have n2 : w9.cell? ⟨b, off + k', none⟩ = some (.int .i64 x) := (b9.cell (p := ⟨b, off + k', none⟩) hbw2).trans m2; have B9 := hide (show Below w.heap.size w w9 from BW.out.drew.trans (b9.mono (Nat.le_of_lt hbw3))); clear b9)
    all_goals
      go_wp2_with fail
      go_ret
      refine ⟨?_, B9.out⟩
      first
        | (show Ending.returned (Value.int .i64 (IntKind.i64.wrap (x + i))) = _; rw [HW.out i (by omega) (by omega)]; rfl)
        | (show Ending.returned (Value.int .i64 (IntKind.i64.wrap x)) = _; rw [HW0.out]; simp [prc])
        | (simp [prc]; done)
        | (simp [prc, HW.out, HW0.out]; done)
  · rw [ival2]
    have hm := meQ false
    go_region_with (go_at_call 107; refine (priceQ_any false o i h _).mono ?_; rintro e9 w9 ⟨rfl, b9⟩; have n1 : w9.cell? ⟨bo, oo + r', none⟩ = some (.slice (some ⟨b, off, none⟩) n c) := (b9.cell (p := ⟨bo, oo + r', none⟩) hbw1).trans m1; have n2 : w9.cell? ⟨b, off + k', none⟩ = some (.int .i64 x) := (b9.cell (p := ⟨b, off + k', none⟩) hbw2).trans m2; have B9 := hide (show Below w.heap.size w w9 from BW.out.drew.trans (b9.mono (Nat.le_of_lt hbw3))); clear b9)
    all_goals
      go_wp2_with fail
      go_ret
      refine ⟨?_, B9.out⟩
      first
        | (show Ending.returned (Value.int .i64 (IntKind.i64.wrap (x + h))) = _; rw [HW.out h (by omega) (by omega)]; rfl)
        | (show Ending.returned (Value.int .i64 (IntKind.i64.wrap x)) = _; rw [HW0.out]; simp [prc])
        | (simp [prc]; done)
        | (simp [prc, HW.out, HW0.out]; done)
  · rw [ival3]
    have hm := meQ true
    go_region_with (go_at_call 107; refine (priceQ_any true o i h _).mono ?_; rintro e9 w9 ⟨rfl, b9⟩; have n1 : w9.cell? ⟨bo, oo + r', none⟩ = some (.slice (some ⟨b, off, none⟩) n c) := (b9.cell (p := ⟨bo, oo + r', none⟩) hbw1).trans m1; have n2 : w9.cell? ⟨b, off + k', none⟩ = some (.int .i64 x) := (b9.cell (p := ⟨b, off + k', none⟩) hbw2).trans m2; have B9 := hide (show Below w.heap.size w w9 from BW.out.drew.trans (b9.mono (Nat.le_of_lt hbw3))); clear b9)
    all_goals
      go_wp2_with fail
      go_ret
      refine ⟨?_, B9.out⟩
      first
        | (show Ending.returned (Value.int .i64 (IntKind.i64.wrap (x + 0))) = _; rw [HW.out 0 (by omega) (by omega)]; rfl)
        | (show Ending.returned (Value.int .i64 (IntKind.i64.wrap x)) = _; rw [HW0.out]; simp [prc])
        | (simp [prc]; done)
        | (simp [prc, HW.out, HW0.out]; done)
end Go.Proofs.Ytndfdminjegldaa
