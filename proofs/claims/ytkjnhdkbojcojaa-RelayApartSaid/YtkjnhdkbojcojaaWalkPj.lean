/- Walks: pairs among places. -/
import Derived.Test.YtkjnhdkbojcojaaWalkTj
import Derived.Test.YtkjnhdkbojcojaaWalkF
namespace Go.Proofs.Ytkjnhdkbojcojaa
open Go.RowKit Go.Shelf
attribute [local go_sem] Oper.semAt_some

def EPr (g g2 : Nat) : Enc (Nat × Nat) := { size := 4, enc := fun x => [.pointer (some ⟨g, 0, none⟩), .int .i64 ((x.1 : Nat) : Int), .pointer (some ⟨g2, 0, none⟩), .int .i64 ((x.2 : Nat) : Int)], len := fun _ => rfl, one := fun x u h => by simp at h; rcases h with rfl | rfl | rfl | rfl <;> rfl, d := (0, 0) }
theorem bk_cellsP {w : World} {q : Nat} {t : TypeId} {a b c d : Value} (h : Bk w q t #[a, b, c, d]) : w.cell? ⟨q, 0, none⟩ = some a ∧ w.cell? ⟨q, 1, none⟩ = some b ∧ w.cell? ⟨q, 2, none⟩ = some c ∧ w.cell? ⟨q, 3, none⟩ = some d := bk_four h
theorem beqP (m t : Nat × Nat) : (m == t) = ((m.1 == t.1) && (m.2 == t.2)) := rfl
theorem beqfunP (x : Nat × Nat) : (fun m : Nat × Nat => m == x) = (fun m => @BEq.beq _ instBEqOfDecidableEq m x) := by
  funext m
  show (m == x) = decide (m = x)
  rw [beqP]
  obtain ⟨a, b⟩ := m
  obtain ⟨c, d⟩ := x
  by_cases h1 : a = c <;> by_cases h2 : b = d <;> simp_all
/-- A node and the header of its word, in cells. -/
abbrev placeP (g g2 : Nat) (x : (Nat × Nat)) (h : Hd) : Array Value := #[.pointer (some ⟨g, 0, none⟩), .int .i64 (((x).1 : Nat) : Int), .pointer (some ⟨g2, 0, none⟩), .int .i64 (((x).2 : Nat) : Int), .slice h.1 h.2.1 h.2.2]
theorem cPlP {g g2 : Nat} {w : World} {A : Option Addr} {n c b off : Nat} {xs : List ((Nat × Nat) × Hd)} (h : RAt (EPl (EPr g g2)) w A n c xs b off) {k : Nat} (hk : k < n) :
    w.cell? ⟨b, off + k * 5, none⟩ = some (.pointer (some ⟨g, 0, none⟩)) ∧ w.cell? ⟨b, off + k * 5 + 1, none⟩ = some (.int .i64 ((((xs.getD k (EPl (EPr g g2)).d).1).1 : Nat) : Int)) ∧ w.cell? ⟨b, off + k * 5 + 2, none⟩ = some (.pointer (some ⟨g2, 0, none⟩)) ∧ w.cell? ⟨b, off + k * 5 + 3, none⟩ = some (.int .i64 ((((xs.getD k (EPl (EPr g g2)).d).1).2 : Nat) : Int)) ∧ w.cell? ⟨b, off + k * 5 + 4, none⟩ = some (.slice (xs.getD k (EPl (EPr g g2)).d).2.1 (xs.getD k (EPl (EPr g g2)).d).2.2.1 (xs.getD k (EPl (EPr g g2)).d).2.2.2) :=
  ⟨h.cell k hk 0 (show 0 < 5 by decide), h.cell k hk 1 (show 1 < 5 by decide), h.cell k hk 2 (show 2 < 5 by decide), h.cell k hk 3 (show 3 < 5 by decide), h.cell k hk 4 (show 4 < 5 by decide)⟩
theorem info_plP : (Try.prog.info? 150).map (fun i => (i.zero, i.size, i.bytes)) = some (some (.agg #[.pointer none, .int .i64 0, .pointer none, .int .i64 0, .slice none 0 0]), 5, 56) := by kernel_rfl
set_option maxRecDepth 100000 in
set_option maxHeartbeats 4000000 in
theorem findP1_any (g g2 : Nat) (m t : (Nat × Nat)) (q : Nat) (hd : Hd) (w : World) (h : Bk w q 91 #[.pointer (some ⟨g, 0, none⟩), .int .i64 (((t).1 : Nat) : Int), .pointer (some ⟨g2, 0, none⟩), .int .i64 (((t).2 : Nat) : Int)]) :
    Calls Try.prog 137 #[.agg (placeP g g2 m hd), .pointer (some ⟨q, 0, none⟩)] w fun e w' => e = .returned (.bool (m == t)) ∧ Below w.heap.size w w' := by
  have HB0 := hide ((Below.refl w.heap.size w).alloc (Nat.le_refl _) (.cells (placeP g g2 m hd) 150))
  have hcs := bk_cellsP (h.keep HB0.out h.in_)
  have hq := h.in_
  have hqv := beqP m t
  have e1 := fun w => eqPtrD w 9997 ⟨g, 0, none⟩
  have e2 := fun w => eqPtrD w 9997 ⟨g2, 0, none⟩
  have h1 := beqT m.1 t.1
  have h2 := beqT m.2 t.2
  rw [hqv]
  clear hqv
  clear h
  generalize (m.1 == t.1) = v1 at *
  generalize (m.2 == t.2) = v2 at *
  cases v1 <;> cases v2
  all_goals
    go_enter Try.func137, Try.ntmps137
    go_wp2_with fail
    go_ret
    exact ⟨rfl, HB0.out⟩
set_option maxRecDepth 100000 in
set_option maxHeartbeats 4000000 in
theorem idxP_find (g g2 : Nat) (q : Nat) (p : (Nat × Nat) → Bool) (P : (Nat × Nat) → Prop) {w : World} {B n c : Nat} {A : Option Addr} {hs : List ((Nat × Nat) × Hd)} {V : Pl (Nat × Nat)} (h : Pls (EPr g g2) w B 150 A n c hs V) (hn : n ≤ 1000) (hP : ∀ k, k < n → P (V.getD k ((0, 0), [])).1)
    (HF : ∀ x hd w', P x → Below w.heap.size w w' → Calls Try.prog 137 #[.agg (placeP g g2 x hd), .pointer (some ⟨q, 0, none⟩)] w' fun e w'' => e = .returned (.bool (p x)) ∧ Below w'.heap.size w' w'') :
    Calls Try.prog 124 #[.slice A n c, .func (.func 137) #[] #[.pointer (some ⟨q, 0, none⟩)]] w fun e w' => e = .returned (.int .i64 (idxP V p)) ∧ Below w.heap.size w w' := by
  have HFF := hide HF
  have HH := hide h
  have HPP := hide hP
  have HLV := hide h.len
  have hlc : n ≤ c ∧ c ≤ 9223372036854775807 := by
    obtain ⟨b0, o0, hr0⟩ := h.own.row
    exact ⟨hr0.cap, hr0.max⟩
  have hc1 := hlc.1
  have hc2 := hlc.2
  clear h hP HF hlc
  go_enter Try.func124, Try.ntmps124
  go_wp2_with fail
  go_loopw [8] (fun i wr => ∃ k : Nat, k ≤ n ∧ i = .int .i64 k ∧ Hid (Below w.heap.size w wr) ∧ Hid (∀ j, j < k → p (V.getD j ((0, 0), [])).1 = false)) (fun i _ => n - (intOf i).toNat)
  case atStart => exact ⟨0, Nat.zero_le _, rfl, hide (Below.refl _ _), hide (by omega)⟩
  case round =>
    obtain ⟨k, hk, rfl, HBL, HJ⟩ := hrel
    by_cases hlt : k < n
    · have i1 : (k : Int) < (n : Int) := by omega
      obtain ⟨g0, rfl, _⟩ := HH.out.own.addr (by omega)
      have hcs := cPlP (HH.out.own.rowAt.below HBL.out (Nat.le_refl _)) hlt
      simp only [Nat.zero_add] at hcs
      have HX := hide (show (hs.getD k (EPl (EPr g g2)).d).1 = (V.getD k ((0, 0), [])).1 from HH.out.node hlt)
      have HPK := hide (HPP.out k hlt)
      rw [← HX.out] at HPK
      have HS := hide (fun (hp : p (V.getD k ((0, 0), [])).1 = true) => idx_some (p := p) (d := (0, 0)) (by rw [HLV.out]; exact hlt) hp HJ.out)
      have HSJ := hide (fun (hp : p (V.getD k ((0, 0), [])).1 = false) => (show ∀ j, j < k + 1 → p (V.getD j ((0, 0), [])).1 = false from fun j hj => by
        by_cases e : j = k
        · subst e; exact hp
        · exact HJ.out j (by omega)))
      rw [← HX.out] at HS HSJ
      generalize hs.getD k (EPl (EPr g g2)).d = y at *
      cases hpy : p y.1 with
      | true =>
        have HPY := hide hpy
        clear hpy
        go_wp2_with (go_at_call 137; refine (HFF.out y.1 y.2 _ HPK.out HBL.out).mono ?_; rintro e w5 ⟨rfl, b5⟩; rw [HPY.out])
        go_ret
        exact ⟨ret_i64 (HS.out HPY.out).symm, HBL.out.trans (b5.mono HBL.out.size)⟩
      | false =>
        have HPY := hide hpy
        clear hpy
        go_wp2_with (go_at_call 137; refine (HFF.out y.1 y.2 _ HPK.out HBL.out).mono ?_; rintro e w5 ⟨rfl, b5⟩; rw [HPY.out])
        go_roundw
        case rel => exact ⟨k + 1, by omega, by go_num, hide (HBL.out.trans (b5.mono HBL.out.size)), hide (HSJ.out HPY.out)⟩
        case measure => simp [intOf]; omega
    · obtain rfl : k = n := by omega
      have HNO := hide (idx_none (p := p) (d := (0, 0)) (V := V) (by rw [HLV.out]; exact HJ.out))
      go_wp2_with fail
      go_ret
      exact ⟨ret_i64 HNO.out.symm, HBL.out⟩
set_option maxRecDepth 100000 in
set_option maxHeartbeats 4000000 in
theorem findP_any (g g2 : Nat) (t : (Nat × Nat)) {w : World} {B n c : Nat} {A : Option Addr} {hs : List ((Nat × Nat) × Hd)} {V : Pl (Nat × Nat)} (h : Pls (EPr g g2) w B 150 A n c hs V) (hn : n ≤ 1000) :
    Calls Try.prog 126 #[.slice A n c, pV g (t).1 g2 (t).2] w fun e w' => e = .returned (.int .i64 (idxP V fun m => m == t)) ∧ Below w.heap.size w w' := by
  have HB0 := hide ((Below.refl w.heap.size w).alloc (Nat.le_refl _) (.cells #[.pointer (some ⟨g, 0, none⟩), .int .i64 (((t).1 : Nat) : Int), .pointer (some ⟨g2, 0, none⟩), .int .i64 (((t).2 : Nat) : Int)] 91))
  have HK := hide (Bk.born w 91 #[.pointer (some ⟨g, 0, none⟩), .int .i64 (((t).1 : Nat) : Int), .pointer (some ⟨g2, 0, none⟩), .int .i64 (((t).2 : Nat) : Int)])
  have HI := hide (idxP_find g g2 w.heap.size (fun m => m == t) (fun _ => True) (h.below HB0.out (Nat.le_refl _)) hn (fun _ _ => trivial) (fun x hd w' _ hw => findP1_any g g2 x t w.heap.size hd w' (HK.out.keep hw (by simp))))
  clear h
  generalize idxP V (fun m => m == t) = v at *
  go_enter Try.func126, Try.ntmps126
  go_wp2_with (go_at_call 124; refine HI.out.mono ?_; rintro e w5 ⟨rfl, b5⟩)
  go_ret
  exact ⟨rfl, le_call HB0.out b5⟩
end Go.Proofs.Ytkjnhdkbojcojaa
