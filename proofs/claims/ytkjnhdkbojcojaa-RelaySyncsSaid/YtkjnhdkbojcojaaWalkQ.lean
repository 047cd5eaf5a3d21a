/- Walks: two boxes that read alike; copies of boxes. -/
import Derived.Test.YtkjnhdkbojcojaaWalkB
import Derived.Test.YtkjnhdkbojcojaaWalkCl
import Derived.Laws.StructEq
import Derived.Deep.RegionHeldLaw
namespace Go.Proofs.Ytkjnhdkbojcojaa
open Go.RowKit Go.Shelf
attribute [local go_sem] Oper.semAt_some

theorem eqArr2 (w : World) (x y : Int) : (Op.equalIn 10000 59 (.agg #[.int .i64 x, .int .i64 y]) (.agg #[.int .i64 x, .int .i64 y])).run Try.prog w = .ok true w := by
  have u3 := Try.underlying3
  have a3 := Try.isAgg3
  have z3 := Try.sizeOf3
  rw [show (10000 : Nat) = 9999 + 1 from rfl, Op.equalIn]
  simp only [Sem.run_bind, run_underlying Try.underlying59, Result.andThen_ok]
  simp only [Std.Legacy.Range.forIn_eq_forIn_range', Std.Legacy.Range.size, Nat.sub_zero, Nat.add_sub_cancel, Nat.div_one, List.range'_succ, List.range'_zero, List.forIn_cons, List.forIn_nil]
  go_simp
set_option maxRecDepth 100000 in
set_option maxHeartbeats 4000000 in
theorem SameBox_any (A : Option Addr) (n c : Nat) (A' : Option Addr) (n' c' : Nat) (B : Option Addr) (m d : Nat) (B' : Option Addr) (m' d' : Nat) (b : Bx) (w : World) (h : BxR w A n c A' n' c' b) (h2 : BxR w B m d B' m' d' b) (hn : n ≤ 1000) (hn' : n' ≤ 1000) :
    Calls Try.prog 36 #[bV A n c A' n' c', bV B m d B' m' d'] w fun e w' => e = .returned (.bool true) ∧ Below w.heap.size w w' := by
  obtain rfl : n = m := h.nx.length.symm.trans h2.nx.length
  obtain rfl : n' = m' := h.ou.length.symm.trans h2.ou.length
  have HB0 := hide (show Below w.heap.size w ((w.alloc (.cells #[.slice A n c, .slice A' n' c'] 25)).alloc (.cells #[.slice B n d, .slice B' n' d'] 25)) from le_two (le_two (Below.refl _ _) _) _)
  have HK1 := hide ((Bk.born w 25 #[.slice A n c, .slice A' n' c']).more (.cells #[.slice B n d, .slice B' n' d'] 25))
  have HK2 := hide (Bk.born (w.alloc (.cells #[.slice A n c, .slice A' n' c'] 25)) 25 #[.slice B n d, .slice B' n' d'])
  rw [show (w.alloc (.cells #[.slice A n c, .slice A' n' c'] 25)).heap.size = w.heap.size + 1 from by simp] at HK2
  have HR := hide (h.below HB0.out (Nat.le_refl _))
  have HR2 := hide (h2.below HB0.out (Nat.le_refl _))
  clear h h2
  have hnn : ((n : Int) != (n : Int)) = false := bne_self_eq_false _
  go_enter Try.func36, Try.ntmps36
  go_wp2_with fail
  generalize (w.alloc (.cells #[.slice A n c, .slice A' n' c'] 25)).alloc (.cells #[.slice B n d, .slice B' n' d'] 25) = W2 at *
  go_loopw [5] (fun i wr => ∃ k q : Nat, k ≤ n ∧ i = .int .i64 k ∧ wr = W2.drewN q) (fun i _ => n - (intOf i).toNat)
  case atStart => exact ⟨0, 0, Nat.zero_le _, rfl, rfl⟩
  case round =>
    obtain ⟨k, q, hk, rfl, rfl⟩ := hrel
    have hcb := bk_two HK1.out
    have hcb2 := bk_two HK2.out
    by_cases hlt : k < n
    · obtain ⟨b1, o1, hr1⟩ := HR.out.nx
      obtain ⟨b2, o2, hr2⟩ := HR2.out.nx
      obtain rfl := hr1.at_ (by omega)
      obtain rfl := hr2.at_ (by omega)
      have hc1 := cN hr1 hlt
      have hc2 := cN hr2 hlt
      have i1 : (k : Int) < (n : Int) := by omega
      clear hr1 hr2
      generalize (b.1.getD k (0, 0)).1 = x at *
      generalize (b.1.getD k (0, 0)).2 = y at *
      have e2 := fun w => eqArr2 w x y
      go_wp2_with fail
      go_quiet (fail)
      go_wp2_with fail
      go_roundw
      case rel => exact ⟨k + 1, q + nq, by omega, by go_num, by first | rfl | (rw [World.drewN_drewN])⟩
      case measure => simp [intOf]; omega
    · obtain rfl : k = n := by omega
      go_wp2_with (go_at_call 27; refine (SameInts_any A' n' c' B' n' d' b.2 b.2 _ (HR.out.ou.drewN q) (HR2.out.ou.drewN q) (by omega) (by omega)).mono ?_; rintro e w5 ⟨rfl, q5, hw5⟩; rw [beq_self_eq_true]; have D5 := hide (show Below w.heap.size w w5 from (by rw [hw5]; exact below_drewN (below_drewN HB0.out _) _)); clear hw5)
      go_ret
      exact ⟨rfl, D5.out⟩
def ClonePostN (xs : List (Int × Int)) (n : Nat) (w : World) (e : Ending) (w' : World) : Prop :=
  ∃ (A' : Option Addr) (c' : Nat), e = .returned (.slice A' n c') ∧ Own EN w' w.heap.size 59 A' n c' xs ∧ Below w.heap.size w w'
theorem info_two : (Try.prog.info? 59).map (fun i => (i.zero, i.size, i.bytes)) = some (some (.agg #[.int .i64 0, .int .i64 0]), 2, 16) := by kernel_rfl
set_option maxRecDepth 100000 in
set_option maxHeartbeats 400000 in
theorem CloneN_any (A : Option Addr) (n c : Nat) (xs : List (Int × Int)) (w : World) (h : R EN w A n c xs) (hn : n ≤ 1000) :
    Calls Try.prog 109 #[.slice A n c] w (ClonePostN xs n w) := by
  have HR := hide h
  have HL := hide h.length
  have hq := fun W : World => Lib.run_eql_slice_nil (P := Try.prog) W 22 59 A n c 0 0 Try.underlying22
  cases A with
  | none =>
    have hn0 : n = 0 := by
      obtain ⟨b, off, hr⟩ := h
      rcases Nat.eq_zero_or_pos n with e | e
      · exact e
      · have := hr.at_ e; cases this
    subst hn0
    have hx0 := h.zero rfl
    have HX := hide hx0
    clear hx0 h
    go_enter Try.func109, Try.ntmps109
    go_wp2_with fail
    go_ret
    exact ⟨none, 0, rfl, by rw [HX.out]; exact Own.nil _ _ _ _, Below.refl _ _⟩
  | some ad =>
    clear h
    go_enter Try.func109, Try.ntmps109
    go_wp2_with (at_builtin; refine wpList_appN (E := EN) _ (.agg #[.int .i64 0, .int .i64 0]) 16 rfl (.tmp 5) (.tmp 6) 22 59 rfl Try.underlying22 info_two rfl (by decide) (by omega) w.heap.size 0 0 (some ⟨w.heap.size, 0, none⟩) [] ad n c xs rfl rfl (Own.lit w [] (Nat.le_refl _) (by simp)) (HR.out.below ((Below.refl _ w).alloc (Nat.le_refl _) _) (Nat.le_refl _)) (by omega) (by omega) (by simp) ?_; intro A1 c1 w1 hown hb hg; rw [Nat.zero_add] at hown ⊢)
    go_ret
    exact ⟨A1, c1, rfl, by simpa using hown, ((Below.refl _ _).alloc (Nat.le_refl _) _).trans hb⟩
end Go.Proofs.Ytkjnhdkbojcojaa
