/- The amounts up to some one: the program's loop by goto. -/
import Derived.Test.YtlhlcchimammlaaWalkE
import Derived.ScopeJumps
import Derived.WalkMore
import Derived.Outline
namespace Go.Proofs.Ytlhlcchimammlaa
open Go.RowKit Go.Shelf

section
variable {α : Type} {E : Enc α} {w w' : World} {B n c p : Nat} {e t : TypeId} {A : Option Addr} {l : List α} {cs : Array Value}
theorem own_bk_ne (h : Own E w B e A n c l) (hb : Bk w p t cs) (hte : t ≠ e) : (Value.slice A n c).ownBlock = none ∨ (Value.slice A n c).ownBlock ≠ some p := by
  rcases h.2.2 with ⟨hv, _⟩ | ⟨g, cap, cur, hv, _, hg, _⟩
  · simp at hv
    obtain ⟨h1, _⟩ := hv
    left
    rw [h1]
    rfl
  · right
    simp at hv
    obtain ⟨h1, _⟩ := hv
    rw [h1]
    intro e1
    simp [Value.ownBlock] at e1
    subst e1
    rw [show w.heap[g]? = _ from hb] at hg
    cases hg
    exact hte rfl
theorem own_setBk (h : Own E w B e A n c l) (hb : Bk w p t cs) (hte : t ≠ e) (i : Nat) (v : Value) : Own E (w.setCell ⟨p, i, none⟩ v) B e A n c l :=
  h.kept (row := some p) ⟨rfl, rfl, rfl, by simp, fun k _ hn => Below.heap_setCell w ⟨p, i, none⟩ v k (fun e => hn (by rw [e]))⟩ (own_bk_ne h hb hte)
end
theorem bk_row {α : Type} {E : Enc α} {W w' : World} {g B n c : Nat} {t e : TypeId} {cs : Array Value} {A : Option Addr} {l : List α} (h : Bk W g t cs) (ho : Own E W B e A n c l) (hte : t ≠ e) (hg : W.grownBy w' (Value.slice A n c).ownBlock) : Bk w' g t cs := by
  refine (hg.block g h.in_ (fun e' => ?_)).trans h
  rcases ho.2.2 with ⟨hv, _⟩ | ⟨g', cap, cur, hv, hb, hg', _⟩
  · simp at hv
    obtain ⟨rfl, _⟩ := hv
    simp [Value.ownBlock] at e'
  · simp at hv
    obtain ⟨rfl, _⟩ := hv
    simp [Value.ownBlock] at e'
    subst e'
    rw [show W.heap[g]? = _ from h] at hg'
    cases hg'
    exact hte rfl
/-- The struct with all amounts up to m. -/
def AmPost (Aw : Option Addr) (nw cw : Nat) (xs : List Int) (m : Nat) (w : World) (e : Ending) (w' : World) : Prop :=
  ∃ Af cf, e = .returned (amV Aw nw cw Af (m + 1) cf) ∧ Own E1 w' w.heap.size 3 Af (m + 1) cf (few xs m) ∧ Below w.heap.size w w'
theorem am_start (w : World) (Aw : Option Addr) (nw cw : Nat) (xs : List Int) :
    Bk (((w.alloc (.cells #[.slice none 0 0, .slice none 0 0] 52)).alloc (.cells #[.int .i64 0] 3)).alloc (.cells #[.slice Aw nw cw, .slice (some ⟨w.heap.size + 1, 0, none⟩) 1 1] 52)) w.heap.size 52 #[.slice none 0 0, .slice none 0 0] ∧
    Bk (((w.alloc (.cells #[.slice none 0 0, .slice none 0 0] 52)).alloc (.cells #[.int .i64 0] 3)).alloc (.cells #[.slice Aw nw cw, .slice (some ⟨w.heap.size + 1, 0, none⟩) 1 1] 52)) (w.heap.size + 1 + 1) 52 #[.slice Aw nw cw, .slice (some ⟨w.heap.size + 1, 0, none⟩) 1 1] ∧
    Own E1 (((w.alloc (.cells #[.slice none 0 0, .slice none 0 0] 52)).alloc (.cells #[.int .i64 0] 3)).alloc (.cells #[.slice Aw nw cw, .slice (some ⟨w.heap.size + 1, 0, none⟩) 1 1] 52)) w.heap.size 3 (some ⟨w.heap.size + 1, 0, none⟩) 1 1 (few xs 0) ∧ Below w.heap.size w (((w.alloc (.cells #[.slice none 0 0, .slice none 0 0] 52)).alloc (.cells #[.int .i64 0] 3)).alloc (.cells #[.slice Aw nw cw, .slice (some ⟨w.heap.size + 1, 0, none⟩) 1 1] 52)) := by
  refine ⟨((Bk.born w _ _).more _).more _, ?_, ?_, (((Below.refl _ w).alloc (Nat.le_refl _) _).alloc (by simp) _).alloc (by simp <;> omega) _⟩
  · have := Bk.born ((w.alloc (.cells #[.slice none 0 0, .slice none 0 0] 52)).alloc (.cells #[.int .i64 0] 3)) 52 #[.slice Aw nw cw, .slice (some ⟨w.heap.size + 1, 0, none⟩) 1 1]
    simpa using this
  · have := (Own.lit (E := E1) (e := 3) (B := w.heap.size) (w.alloc (.cells #[.slice none 0 0, .slice none 0 0] 52)) [0] (by simp) (by simp [maxLen])).alloc (.cells #[.slice Aw nw cw, .slice (some ⟨w.heap.size + 1, 0, none⟩) 1 1] 52)
    simpa [Enc.cells, E1, few] using this
set_option maxRecDepth 100000 in
set_option maxHeartbeats 4000000 in
theorem amountsTo_any (Aw : Option Addr) (nw cw : Nat) (xs : List Int) (up : Int) (w : World) (hx : R E1 w Aw nw cw xs) (hw : Wt xs) (hu : up ≤ 4000) :
    Calls Try.prog 61 #[.int .i64 up, .slice Aw nw cw] w (AmPost Aw nw cw xs up.toNat w) := by
  have hlx := hx.le
  have HX := hide hx
  have HW := hide hw
  clear hx hw
  obtain ⟨hr, ha, ho, hd⟩ := am_start w Aw nw cw xs
  have HR := hide hr
  have HA := hide ha
  have HO := hide ho
  have HD := hide hd
  clear hr ha ho hd
  go_enter Try.func61, Try.ntmps61
  go_wp2_with fail
  refine wp_scope_jumps 0 (fun a' w' => ∃ (k : Nat) (Af : Option Addr) (cf : Nat) (u7 u8 u9 u10 u11 u12 u13 u14 u15 u16 u17 u18 u19 u20 u21 u22 u23 u24 u25 u26 : Value), a' = { tmps := #[.int .i64 up, .slice Aw nw cw, undef, undef, .pointer (some ⟨w.heap.size, 0, none⟩), .pointer (some ⟨w.heap.size + 2, 0, none⟩), .int .i64 k, u7, u8, u9, u10, u11, u12, u13, u14, u15, u16, u17, u18, u19, u20, u21, u22, u23, u24, u25, u26], defers := [] } ∧ Hid (Bk w' w.heap.size 52 #[.slice none 0 0, .slice none 0 0]) ∧ Hid (Bk w' (w.heap.size + 2) 52 #[.slice Aw nw cw, .slice Af (k + 1) cf]) ∧ Hid (Own E1 w' w.heap.size 3 Af (k + 1) cf (few xs k)) ∧ Hid (Below w.heap.size w w') ∧ (k : Int) ≤ up) (fun a' _ => up.toNat - (intOf (a'.tmps.getD 6 undef)).toNat) rfl ?_ ?_
  · go_wp2_with fail
    go_step3
    generalize (((w.alloc (.cells #[.slice none 0 0, .slice none 0 0] 52)).alloc (.cells #[.int .i64 0] 3)).alloc (.cells #[.slice Aw nw cw, .slice (some ⟨w.heap.size + 1, 0, none⟩) 1 1] 52)) = wr at *
    have r0 := HR.out.at_ 0
    have r1 := HR.out.at_ 1
    have rz := HR.out.fr 0
    have rz1 := HR.out.fr 1
    have a0 := HA.out.at_ 0
    have a1 := HA.out.at_ 1
    have az := HA.out.fr 1
    have ai := HA.out.in_
    simp at r0 r1 a0 a1
    by_cases hlt : (1 : Int) ≤ up
    · have hk5 : 1 ≤ 5000 := by omega
      have HFW := hide (show few xs (0 + 1) = few xs 0 ++ [oneM xs (few xs 0) (1)] from rfl)
      have HFB := hide (fun i (hi : i < 1) => (show -1 ≤ (few xs 0).getD i (-1) ∧ (few xs 0).getD i (-1) ≤ 100000 from by
        rw [few_at xs 0 i (by omega)]
        have := fw_ge HW.out i
        omega))
      have HAI := hide (HD.out.size)
      generalize few xs 0 = fs at *
      go_wp2_with (first
        | (go_at_call 80; refine (oneMore_any Aw nw cw xs _ (1) _ fs _ (HX.out.below HD.out (Nat.le_refl _)) HO.out.row HW.out (by omega) HFB.out).mono ?_; rintro e w1 ⟨rfl, b1⟩; have j1 := HA.out.keep b1 HA.out.in_; have j2 := HR.out.keep b1 HR.out.in_; have q1 := j1.at_ 1; have qz := j1.fr 1; simp at q1; have J1 := hide j1; have J2 := hide j2; have HO1 := hide (HO.out.below b1 (Nat.le_refl _)); have B1 := hide b1; have hs1 : w.heap.size ≤ w1.heap.size := Nat.le_trans HAI.out b1.size; clear b1 j1 j2 a0 a1 az r0 r1 rz rz1)
        | (at_builtin; refine wpList_app1 (E := E1) w1 (.int .i64 0) 8 rfl (.tmp 21) (.tmp 23) 22 3 rfl Try.underlying22 info_int rfl (by decide) (by omega) w.heap.size (1) _ _ fs (oneM xs fs (1)) _ rfl rfl rfl HO1.out (by omega) hs1 ?_; intro A5 c5 w5 o5 b5 g5; have m1 := bk_row J1.out HO1.out (by decide) g5; have m2 := bk_row J2.out HO1.out (by decide) g5; have p1 := m1.at_ 1; have pz := m1.fr 1; simp at p1; have M1 := hide m1; have M2 := hide m2; have HO5 := hide o5; have B5 := hide b5; clear o5 b5 g5 m1 m2))
      go_step3
      have P1 := M1.out.put 1 (.slice A5 (1 + 1) c5)
      have P2 := M2.out.apart (p := ⟨w.heap.size + 1 + 1, 1, none⟩) (by simp <;> omega) (.slice A5 (1 + 1) c5)
      have PD : Below w.heap.size w (w5.setCell ⟨w.heap.size + 1 + 1, 1, none⟩ (.slice A5 (1 + 1) c5)) := ((HD.out.trans (B1.out.mono HAI.out)).trans B5.out).setCell (by simp <;> omega) _
      refine ⟨rfl, 1, A5, c5, _, _, _, _, _, _, _, _, _, _, _, _, _, _, _, _, _, _, _, _, rfl, hide P2, hide (by simpa using P1), hide (by rw [HFW.out]; exact own_setBk HO5.out M1.out (by decide) 1 _), hide PD, by omega⟩

    · have hlt' : up < (1 : Int) := by omega
      go_wp2_with fail
      have PR := (HR.out.put 0 (.slice Aw nw cw)).put 1 (.slice (some ⟨w.heap.size + 1, 0, none⟩) (1) 1)
      have f0 := PR.at_ 0
      have f1 := PR.at_ 1
      simp at f0 f1
      have PD : Below w.heap.size w ((wr.setCell ⟨w.heap.size, 0, none⟩ (.slice Aw nw cw)).setCell ⟨w.heap.size, 1, none⟩ (.slice (some ⟨w.heap.size + 1, 0, none⟩) (1) 1)) := (HD.out.setCell (Nat.le_refl _) _).setCell (Nat.le_refl _) _
      have HU := hide (show up.toNat = 0 from by omega)
      have PO : Own E1 ((wr.setCell ⟨w.heap.size, 0, none⟩ (.slice Aw nw cw)).setCell ⟨w.heap.size, 1, none⟩ (.slice (some ⟨w.heap.size + 1, 0, none⟩) (1) 1)) w.heap.size 3 (some ⟨w.heap.size + 1, 0, none⟩) (1) 1 (few xs 0) := own_setBk (own_setBk HO.out HR.out (by decide) 0 _) (HR.out.put 0 (.slice Aw nw cw)) (by decide) 1 _
      simp only [Exit.jump]
      exact bodyPost_ret (v := amV Aw nw cw (some ⟨w.heap.size + 1, 0, none⟩) (1) 1) (by simp [results, Try.results61, go_sem, f0, f1]) rfl (by rw [HU.out]; exact ⟨_, _, rfl, PO, PD⟩)
  · clear HR HA HO HD
    rintro a' wr ⟨k, Af, cf, u7, u8, u9, u10, u11, u12, u13, u14, u15, u16, u17, u18, u19, u20, u21, u22, u23, u24, u25, u26, rfl, HR, HA, HO, HD, hk⟩
    have r0 := HR.out.at_ 0
    have r1 := HR.out.at_ 1
    have rz := HR.out.fr 0
    have rz1 := HR.out.fr 1
    have a0 := HA.out.at_ 0
    have a1 := HA.out.at_ 1
    have az := HA.out.fr 1
    have ai := HA.out.in_
    simp at r0 r1 a0 a1
    by_cases hlt : (k : Int) + 1 ≤ up
    · have hk5 : k + 1 ≤ 5000 := by omega
      have HFW := hide (show few xs (k + 1) = few xs k ++ [oneM xs (few xs k) (k + 1)] from rfl)
      have HFB := hide (fun i (hi : i < k + 1) => (show -1 ≤ (few xs k).getD i (-1) ∧ (few xs k).getD i (-1) ≤ 100000 from by
        rw [few_at xs k i (by omega)]
        have := fw_ge HW.out i
        omega))
      have HAI := hide (HD.out.size)
      generalize few xs k = fs at *
      go_wp2_with (first
        | (go_at_call 80; refine (oneMore_any Aw nw cw xs _ (k + 1) _ fs _ (HX.out.below HD.out (Nat.le_refl _)) HO.out.row HW.out (by omega) HFB.out).mono ?_; rintro e w1 ⟨rfl, b1⟩; have j1 := HA.out.keep b1 HA.out.in_; have j2 := HR.out.keep b1 HR.out.in_; have q1 := j1.at_ 1; have qz := j1.fr 1; simp at q1; have J1 := hide j1; have J2 := hide j2; have HO1 := hide (HO.out.below b1 (Nat.le_refl _)); have B1 := hide b1; have hs1 : w.heap.size ≤ w1.heap.size := Nat.le_trans HAI.out b1.size; clear b1 j1 j2 a0 a1 az r0 r1 rz rz1)
        | (at_builtin; refine wpList_app1 (E := E1) w1 (.int .i64 0) 8 rfl (.tmp 21) (.tmp 23) 22 3 rfl Try.underlying22 info_int rfl (by decide) (by omega) w.heap.size (k + 1) _ _ fs (oneM xs fs (k + 1)) _ rfl rfl rfl HO1.out (by omega) hs1 ?_; intro A5 c5 w5 o5 b5 g5; have m1 := bk_row J1.out HO1.out (by decide) g5; have m2 := bk_row J2.out HO1.out (by decide) g5; have p1 := m1.at_ 1; have pz := m1.fr 1; simp at p1; have M1 := hide m1; have M2 := hide m2; have HO5 := hide o5; have B5 := hide b5; clear o5 b5 g5 m1 m2))
      go_step3
      have P1 := M1.out.put 1 (.slice A5 (k + 1 + 1) c5)
      have P2 := M2.out.apart (p := ⟨w.heap.size + 2, 1, none⟩) (by simp <;> omega) (.slice A5 (k + 1 + 1) c5)
      have PD : Below w.heap.size w (w5.setCell ⟨w.heap.size + 2, 1, none⟩ (.slice A5 (k + 1 + 1) c5)) := ((HD.out.trans (B1.out.mono HAI.out)).trans B5.out).setCell (by simp <;> omega) _
      refine ⟨rfl, ⟨k + 1, A5, c5, _, _, _, _, _, _, _, _, _, _, _, _, _, _, _, _, _, _, _, _, rfl, hide P2, hide (by simpa using P1), hide (by rw [HFW.out]; exact own_setBk HO5.out M1.out (by decide) 1 _), hide PD, by omega⟩, ?_⟩
      simp [intOf]; omega
    · have hlt' : up < (k : Int) + 1 := by omega
      go_wp2_with fail
      have PR := (HR.out.put 0 (.slice Aw nw cw)).put 1 (.slice Af (k + 1) cf)
      have f0 := PR.at_ 0
      have f1 := PR.at_ 1
      simp at f0 f1
      have PD : Below w.heap.size w ((wr.setCell ⟨w.heap.size, 0, none⟩ (.slice Aw nw cw)).setCell ⟨w.heap.size, 1, none⟩ (.slice Af (k + 1) cf)) := (HD.out.setCell (Nat.le_refl _) _).setCell (Nat.le_refl _) _
      have HU := hide (show up.toNat = k from by omega)
      have PO : Own E1 ((wr.setCell ⟨w.heap.size, 0, none⟩ (.slice Aw nw cw)).setCell ⟨w.heap.size, 1, none⟩ (.slice Af (k + 1) cf)) w.heap.size 3 Af (k + 1) cf (few xs k) := own_setBk (own_setBk HO.out HR.out (by decide) 0 _) (HR.out.put 0 (.slice Aw nw cw)) (by decide) 1 _
      simp only [Exit.jump]
      exact bodyPost_ret (v := amV Aw nw cw Af (k + 1) cf) (by simp [results, Try.results61, go_sem, f0, f1]) rfl (by rw [HU.out]; exact ⟨_, _, rfl, PO, PD⟩)
end Go.Proofs.Ytlhlcchimammlaa
