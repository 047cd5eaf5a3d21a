/- Walks: states among places. -/
import Derived.Test.YtkjnhdkbojcojaaWalkB
import Derived.Test.YtkjnhdkbojcojaaPl
import Derived.LaidEqlPtr
import Derived.Laws.StructEq
namespace Go.Proofs.Ytkjnhdkbojcojaa
open Go.RowKit Go.Shelf
attribute [local go_sem] Oper.semAt_some

theorem eqPtrD (w : World) (d : Nat) (a : Addr) : (Op.equalIn (d + 1) 66 (.pointer (some a)) (.pointer (some a))).run Try.prog w = .ok true w := by
  obtain ⟨j, hj⟩ := Option.isSome_iff_exists.1 (show (Try.prog.info? 25).isSome = true from by kernel_rfl)
  simp [Op.equalIn, run_underlying Try.underlying66, sizeOf, typeInfo, hj, run_sameAddr_same]
theorem bk_cellsT {w : World} {q : Nat} {t : TypeId} {a b : Value} (h : Bk w q t #[a, b]) : w.cell? ⟨q, 0, none⟩ = some a ∧ w.cell? ⟨q, 1, none⟩ = some b := bk_two h
theorem beqT (m t : Nat) : (((m : Nat) : Int) == ((t : Nat) : Int)) = (m == t) := by
  by_cases h : m = t
  · subst h; simp
  · rw [beq_eq_false_iff_ne.2 h, beq_eq_false_iff_ne]; omega
/-- A node and the header of its word, in cells. -/
abbrev placeT (g : Nat) (x : Nat) (h : Hd) : Array Value := #[.pointer (some ⟨g, 0, none⟩), .int .i64 (((x) : Nat) : Int), .slice h.1 h.2.1 h.2.2]
theorem cPlT {g : Nat} {w : World} {A : Option Addr} {n c b off : Nat} {xs : List (Nat × Hd)} (h : RAt (EPl (ES g)) w A n c xs b off) {k : Nat} (hk : k < n) :
    w.cell? ⟨b, off + k * 3, none⟩ = some (.pointer (some ⟨g, 0, none⟩)) ∧ w.cell? ⟨b, off + k * 3 + 1, none⟩ = some (.int .i64 ((((xs.getD k (EPl (ES g)).d).1) : Nat) : Int)) ∧ w.cell? ⟨b, off + k * 3 + 2, none⟩ = some (.slice (xs.getD k (EPl (ES g)).d).2.1 (xs.getD k (EPl (ES g)).d).2.2.1 (xs.getD k (EPl (ES g)).d).2.2.2) :=
  ⟨h.cell k hk 0 (show 0 < 3 by decide), h.cell k hk 1 (show 1 < 3 by decide), h.cell k hk 2 (show 2 < 3 by decide)⟩
theorem info_plT : (Try.prog.info? 76).map (fun i => (i.zero, i.size, i.bytes)) = some (some (.agg #[.pointer none, .int .i64 0, .slice none 0 0]), 3, 40) := by kernel_rfl
set_option maxRecDepth 100000 in
set_option maxHeartbeats 4000000 in
theorem findT1_any (g : Nat) (m t : Nat) (q : Nat) (hd : Hd) (w : World) (h : Bk w q 68 #[.pointer (some ⟨g, 0, none⟩), .int .i64 (((t) : Nat) : Int)]) :
    Calls Try.prog 99 #[.agg (placeT g m hd), .pointer (some ⟨q, 0, none⟩)] w fun e w' => e = .returned (.bool (m == t)) ∧ Below w.heap.size w w' := by
  have HB0 := hide ((Below.refl w.heap.size w).alloc (Nat.le_refl _) (.cells (placeT g m hd) 76))
  have hcs := bk_cellsT (h.keep HB0.out h.in_)
  have hq := h.in_
  have hqv := beqT m t
  have e1 := fun w => eqPtrD w 9998 ⟨g, 0, none⟩
  clear h
  generalize (m == t) = v at *
  cases v
  all_goals
    go_enter Try.func99, Try.ntmps99
    go_wp2_with fail
    go_ret
    exact ⟨rfl, HB0.out⟩
set_option maxRecDepth 100000 in
set_option maxHeartbeats 4000000 in
theorem idxT_find (g : Nat) (q : Nat) (p : Nat → Bool) (P : Nat → Prop) {w : World} {B n c : Nat} {A : Option Addr} {hs : List (Nat × Hd)} {V : Pl Nat} (h : Pls (ES g) w B 76 A n c hs V) (hn : n ≤ 1000) (hP : ∀ k, k < n → P (V.getD k (0, [])).1)
    (HF : ∀ x hd w', P x → Below w.heap.size w w' → Calls Try.prog 99 #[.agg (placeT g x hd), .pointer (some ⟨q, 0, none⟩)] w' fun e w'' => e = .returned (.bool (p x)) ∧ Below w'.heap.size w' w'') :
    Calls Try.prog 98 #[.slice A n c, .func (.func 99) #[] #[.pointer (some ⟨q, 0, none⟩)]] w fun e w' => e = .returned (.int .i64 (idxP V p)) ∧ Below w.heap.size w w' := by
  have HFF := hide HF
  have HH := hide h
  have HPP := hide hP
  have HLV := hide h.len
  have hlc : n ≤ c ∧ c ≤ 9223372036854775807 := by
    obtain ⟨b0, o0, hr0⟩ := h.own.row
    exact ⟨hr0.cap, hr0.max⟩
  have hc1 := hlc.1
  have hc2 := hlc.2
  clear h hP HF hlc
  go_enter Try.func98, Try.ntmps98
  go_wp2_with fail
  go_loopw [8] (fun i wr => ∃ k : Nat, k ≤ n ∧ i = .int .i64 k ∧ Hid (Below w.heap.size w wr) ∧ Hid (∀ j, j < k → p (V.getD j (0, [])).1 = false)) (fun i _ => n - (intOf i).toNat)
  case atStart => exact ⟨0, Nat.zero_le _, rfl, hide (Below.refl _ _), hide (by omega)⟩
  case round =>
    obtain ⟨k, hk, rfl, HBL, HJ⟩ := hrel
    by_cases hlt : k < n
    · have i1 : (k : Int) < (n : Int) := by omega
      obtain ⟨g0, rfl, _⟩ := HH.out.own.addr (by omega)
      have hcs := cPlT (HH.out.own.rowAt.below HBL.out (Nat.le_refl _)) hlt
      simp only [Nat.zero_add] at hcs
      have HX := hide (show (hs.getD k (EPl (ES g)).d).1 = (V.getD k (0, [])).1 from HH.out.node hlt)
      have HPK := hide (HPP.out k hlt)
      rw [← HX.out] at HPK
      have HS := hide (fun (hp : p (V.getD k (0, [])).1 = true) => idx_some (p := p) (d := 0) (by rw [HLV.out]; exact hlt) hp HJ.out)
      have HSJ := hide (fun (hp : p (V.getD k (0, [])).1 = false) => (show ∀ j, j < k + 1 → p (V.getD j (0, [])).1 = false from fun j hj => by
        by_cases e : j = k
        · subst e; exact hp
        · exact HJ.out j (by omega)))
      rw [← HX.out] at HS HSJ
      generalize hs.getD k (EPl (ES g)).d = y at *
      cases hpy : p y.1 with
      | true =>
        have HPY := hide hpy
        clear hpy
        go_wp2_with (go_at_call 99; refine (HFF.out y.1 y.2 _ HPK.out HBL.out).mono ?_; rintro e w5 ⟨rfl, b5⟩; rw [HPY.out])
        go_ret
        exact ⟨ret_i64 (HS.out HPY.out).symm, HBL.out.trans (b5.mono HBL.out.size)⟩
      | false =>
        have HPY := hide hpy
        clear hpy
        go_wp2_with (go_at_call 99; refine (HFF.out y.1 y.2 _ HPK.out HBL.out).mono ?_; rintro e w5 ⟨rfl, b5⟩; rw [HPY.out])
        go_roundw
        case rel => exact ⟨k + 1, by omega, by go_num, hide (HBL.out.trans (b5.mono HBL.out.size)), hide (HSJ.out HPY.out)⟩
        case measure => simp [intOf]; omega
    · obtain rfl : k = n := by omega
      have HNO := hide (idx_none (p := p) (d := 0) (V := V) (by rw [HLV.out]; exact HJ.out))
      go_wp2_with fail
      go_ret
      exact ⟨ret_i64 HNO.out.symm, HBL.out⟩
set_option maxRecDepth 100000 in
set_option maxHeartbeats 4000000 in
theorem findT_any (g : Nat) (t : Nat) {w : World} {B n c : Nat} {A : Option Addr} {hs : List (Nat × Hd)} {V : Pl Nat} (h : Pls (ES g) w B 76 A n c hs V) (hn : n ≤ 1000) :
    Calls Try.prog 76 #[.slice A n c, sV g t] w fun e w' => e = .returned (.int .i64 (idxP V fun m => m == t)) ∧ Below w.heap.size w w' := by
  have HB0 := hide ((Below.refl w.heap.size w).alloc (Nat.le_refl _) (.cells #[.pointer (some ⟨g, 0, none⟩), .int .i64 (((t) : Nat) : Int)] 68))
  have HK := hide (Bk.born w 68 #[.pointer (some ⟨g, 0, none⟩), .int .i64 (((t) : Nat) : Int)])
  have HI := hide (idxT_find g w.heap.size (fun m => m == t) (fun _ => True) (h.below HB0.out (Nat.le_refl _)) hn (fun _ _ => trivial) (fun x hd w' _ hw => findT1_any g x t w.heap.size hd w' (HK.out.keep hw (by simp))))
  clear h
  generalize idxP V (fun m => m == t) = v at *
  go_enter Try.func76, Try.ntmps76
  go_wp2_with (go_at_call 98; refine HI.out.mono ?_; rintro e w5 ⟨rfl, b5⟩)
  go_ret
  exact ⟨rfl, le_call HB0.out b5⟩
end Go.Proofs.Ytkjnhdkbojcojaa
