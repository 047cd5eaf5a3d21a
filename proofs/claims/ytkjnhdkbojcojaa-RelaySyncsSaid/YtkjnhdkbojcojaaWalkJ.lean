/- Walks: places of sets are looked for. -/
import Derived.Test.YtkjnhdkbojcojaaWalkI
import Derived.Test.YtkjnhdkbojcojaaPl
import Derived.LaidEqlPtr
import Derived.Laws.StructEq
namespace Go.Proofs.Ytkjnhdkbojcojaa
open Go.RowKit Go.Shelf
attribute [local go_sem] Oper.semAt_some

theorem setA_one (g m : Nat) : ∀ u ∈ (setA g m).toList, u.oneCell' = true := by
  intro u h
  simp [setA] at h
  rcases h with rfl | rfl | rfl | rfl | rfl | rfl | rfl <;> rfl
def ESet (g : Nat) : Enc Nat := { size := 7, enc := fun m => (setA g m).toList, len := fun _ => rfl, one := setA_one g, d := 0 }
abbrev placeA (g m : Nat) (h : Hd) : Array Value := #[.pointer (some ⟨g, 0, none⟩), .bool (bt m 0), .bool (bt m 1), .bool (bt m 2), .bool (bt m 3), .bool (bt m 4), .bool (bt m 5), .slice h.1 h.2.1 h.2.2]
theorem cPlS {g : Nat} {w : World} {A : Option Addr} {n c b off : Nat} {xs : List (Nat × Hd)} (h : RAt (EPl (ESet g)) w A n c xs b off) {k : Nat} (hk : k < n) :
    w.cell? ⟨b, off + k * 8, none⟩ = some (.pointer (some ⟨g, 0, none⟩)) ∧ w.cell? ⟨b, off + k * 8 + 1, none⟩ = some (.bool (bt (xs.getD k (EPl (ESet g)).d).1 0)) ∧ w.cell? ⟨b, off + k * 8 + 2, none⟩ = some (.bool (bt (xs.getD k (EPl (ESet g)).d).1 1)) ∧
    w.cell? ⟨b, off + k * 8 + 3, none⟩ = some (.bool (bt (xs.getD k (EPl (ESet g)).d).1 2)) ∧ w.cell? ⟨b, off + k * 8 + 4, none⟩ = some (.bool (bt (xs.getD k (EPl (ESet g)).d).1 3)) ∧ w.cell? ⟨b, off + k * 8 + 5, none⟩ = some (.bool (bt (xs.getD k (EPl (ESet g)).d).1 4)) ∧
    w.cell? ⟨b, off + k * 8 + 6, none⟩ = some (.bool (bt (xs.getD k (EPl (ESet g)).d).1 5)) ∧ w.cell? ⟨b, off + k * 8 + 7, none⟩ = some (.slice (xs.getD k (EPl (ESet g)).d).2.1 (xs.getD k (EPl (ESet g)).d).2.2.1 (xs.getD k (EPl (ESet g)).d).2.2.2) :=
  ⟨h.cell k hk 0 (show 0 < 8 by decide), h.cell k hk 1 (show 1 < 8 by decide), h.cell k hk 2 (show 2 < 8 by decide), h.cell k hk 3 (show 3 < 8 by decide), h.cell k hk 4 (show 4 < 8 by decide), h.cell k hk 5 (show 5 < 8 by decide), h.cell k hk 6 (show 6 < 8 by decide), h.cell k hk 7 (show 7 < 8 by decide)⟩
theorem eqPtr (w : World) (d : Nat) (a : Addr) : (Op.equalIn (d + 1) 66 (.pointer (some a)) (.pointer (some a))).run Try.prog w = .ok true w := by
  obtain ⟨j, hj⟩ := Option.isSome_iff_exists.1 (show (Try.prog.info? 25).isSome = true from by kernel_rfl)
  simp [Op.equalIn, run_underlying Try.underlying66, sizeOf, typeInfo, hj, run_sameAddr_same]
theorem eqArr6 (w : World) (a0 a1 a2 a3 a4 a5 b0 b1 b2 b3 b4 b5 : Bool) : (Op.equalIn 9999 92 (.agg #[.bool a0, .bool a1, .bool a2, .bool a3, .bool a4, .bool a5]) (.agg #[.bool b0, .bool b1, .bool b2, .bool b3, .bool b4, .bool b5])).run Try.prog w = .ok (a0 == b0 && (a1 == b1 && (a2 == b2 && (a3 == b3 && (a4 == b4 && a5 == b5))))) w := by
  have u4 := Try.underlying4
  have a4' := Try.isAgg4
  have z4 := Try.sizeOf4
  rw [show (9999 : Nat) = 9998 + 1 from rfl, Op.equalIn]
  simp only [Sem.run_bind, run_underlying Try.underlying92, Result.andThen_ok]
  simp only [Std.Legacy.Range.forIn_eq_forIn_range', Std.Legacy.Range.size, Nat.sub_zero, Nat.add_sub_cancel, Nat.div_one, List.range'_succ, List.range'_zero, List.forIn_cons, List.forIn_nil]
  go_simp
  cases a0 <;> cases b0 <;> (try rfl) <;> cases a1 <;> cases b1 <;> (try rfl) <;> cases a2 <;> cases b2 <;> (try rfl) <;> cases a3 <;> cases b3 <;> (try rfl) <;> cases a4 <;> cases b4 <;> (try rfl) <;> cases a5 <;> cases b5 <;> rfl
theorem bits_beq {m t : Nat} (hm : m < 64) (ht : t < 64) : (bt m 0 == bt t 0 && (bt m 1 == bt t 1 && (bt m 2 == bt t 2 && (bt m 3 == bt t 3 && (bt m 4 == bt t 4 && bt m 5 == bt t 5))))) = (m == t) := by
  by_cases h : m = t
  · subst h; simp
  · rw [beq_eq_false_iff_ne.2 h, Bool.eq_false_iff]
    intro hh
    simp only [Bool.and_eq_true, beq_iff_eq] at hh
    exact h (bits_eq hm ht fun k hk => by
      obtain rfl | rfl | rfl | rfl | rfl | rfl : k = 0 ∨ k = 1 ∨ k = 2 ∨ k = 3 ∨ k = 4 ∨ k = 5 := by omega
      · exact hh.1
      · exact hh.2.1
      · exact hh.2.2.1
      · exact hh.2.2.2.1
      · exact hh.2.2.2.2.1
      · exact hh.2.2.2.2.2)
set_option maxRecDepth 100000 in
set_option maxHeartbeats 4000000 in
theorem findS1_any (g m q t : Nat) (hd : Hd) (w : World) (hm : m < 64) (ht : t < 64) (h : Bk w q 94 (setA g t)) :
    Calls Try.prog 127 #[.agg (placeA g m hd), .pointer (some ⟨q, 0, none⟩)] w fun e w' => e = .returned (.bool (m == t)) ∧ Below w.heap.size w w' := by
  have HB0 := hide ((Below.refl w.heap.size w).alloc (Nat.le_refl _) (.cells (placeA g m hd) 127))
  have hcs := bk_set (h.keep HB0.out h.in_)
  have hq := h.in_
  have e1 := fun w => eqPtr w 9998 ⟨g, 0, none⟩
  have e2 := fun w => eqArr6 w (bt m 0) (bt m 1) (bt m 2) (bt m 3) (bt m 4) (bt m 5) (bt t 0) (bt t 1) (bt t 2) (bt t 3) (bt t 4) (bt t 5)
  rw [bits_beq hm ht] at e2
  clear h hm ht
  generalize (m == t) = v at *
  cases v
  all_goals
    go_enter Try.func127, Try.ntmps127
    go_wp2_with fail
    go_ret
    exact ⟨rfl, HB0.out⟩
end Go.Proofs.Ytkjnhdkbojcojaa
