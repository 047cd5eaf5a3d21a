/- Walks of the document's side: the box that answers later. -/
import Derived.Test.YtkjnhdkbojcojaaWalkLa
import Derived.Test.YtkjnhdkbojcojaaPl
import Derived.Deep.Cut
import Derived.Deep.CutRange
namespace Go.Proofs.Ytkjnhdkbojcojaa
open Go.RowKit Go.Shelf
attribute [local go_sem] Oper.semAt_some

/-- The box that answers later, as far as the state k. -/
def lateTo (b : Bx) (k : Nat) : Bx := ((lateB b).1.take (k + 1), (lateB b).2.take (k + 1))
theorem take_app {α : Type} {l : List α} {k : Nat} {d : α} (h : k < l.length) : l.take k ++ [l.getD k d] = l.take (k + 1) := by
  rw [List.take_add_one, List.getD_eq_getElem?_getD, List.getElem?_eq_getElem h]; rfl
theorem lateTo_nx {b : Bx} {k : Nat} (h : k < b.1.length) : (lateTo b k).1 ++ [((b.1.getD k (0, 0)).1 + 1, (b.1.getD k (0, 0)).2 + 1)] = (lateTo b (k + 1)).1 := by
  rw [← late_get h]
  exact take_app (by simp [lateB]; omega)
theorem lateTo_ou {b : Bx} {k : Nat} (h : k < b.2.length) : (lateTo b k).2 ++ [b.2.getD k 0] = (lateTo b (k + 1)).2 :=
  take_app (l := (lateB b).2) (k := k + 1) (d := 0) (by simp [lateB]; omega)
theorem lateTo_all {b : Bx} (h : b.1.length = b.2.length) : lateTo b b.2.length = lateB b := by
  unfold lateTo
  rw [List.take_of_length_le (by simp [lateB]; omega), List.take_of_length_le (by simp [lateB])]
theorem own_bk_ne {α : Type} {E : Enc α} {w : World} {B n c : Nat} {e : TypeId} {A : Option Addr} {l : List α} (h : Own E w B e A n c l) {g : Nat} {t : TypeId} {cs : Array Value} (hb : Bk w g t cs) (ht : t ≠ e) : (Value.slice A n c).ownBlock = none ∨ (Value.slice A n c).ownBlock ≠ some g := by
  rcases h.2.2 with ⟨hv, _⟩ | ⟨g', cap, cur, hv, _, hk, _⟩
  · simp at hv
    obtain ⟨h1, _⟩ := hv
    left; rw [h1]; rfl
  · simp at hv
    obtain ⟨h1, _⟩ := hv
    right
    rw [h1]
    intro e1
    simp [Value.ownBlock] at e1
    subst e1
    have h2 := hk.symm.trans hb
    cases h2
    exact ht rfl
theorem gb_bkO {α : Type} {E : Enc α} {w w' : World} {B n c : Nat} {e : TypeId} {A : Option Addr} {l : List α} (h : Own E w B e A n c l) (hg : w.grownBy w' (Value.slice A n c).ownBlock) {g : Nat} {t : TypeId} {cs : Array Value} (hb : Bk w g t cs) (ht : t ≠ e) : Bk w' g t cs := by
  refine (hg.block g hb.in_ fun e1 => ?_).trans hb
  rcases own_bk_ne h hb ht with h1 | h1
  · rw [h1] at e1; cases e1
  · exact h1 e1.symm
/-- What is stored to a block of another type changes no row. -/
theorem own_put {α : Type} {E : Enc α} {w : World} {B n c : Nat} {e : TypeId} {A : Option Addr} {l : List α} (h : Own E w B e A n c l) {g : Nat} {t : TypeId} {cs : Array Value} (hb : Bk w g t cs) (ht : t ≠ e) (i : Nat) (v : Value) : Own E (w.setCell ⟨g, i, none⟩ v) B e A n c l :=
  h.kept (row := some g) (gb_set (gb_refl w (some g)) i v) (own_bk_ne h hb ht)
set_option maxRecDepth 100000 in
set_option maxHeartbeats 8000000 in
theorem rLate_any (A : Option Addr) (n c : Nat) (A' : Option Addr) (n' c' : Nat) (b : Bx) (w : World) (h : BxR w A n c A' n' c' b) :
    Calls Try.prog 53 #[bV A n c A' n' c'] w (BoxPost (errLt b) (lateF b) w) := by
  have HB0 := hide (show Below w.heap.size w ((w.alloc (.cells #[.slice A n c, .slice A' n' c'] 25)).alloc (.cells #[.slice none 0 0, .slice none 0 0] 25)) from le_two (le_two (Below.refl _ _) _) _)
  have HK1 := hide ((Bk.born w 25 #[.slice A n c, .slice A' n' c']).more (.cells #[.slice none 0 0, .slice none 0 0] 25))
  have HK2 := hide (Bk.born (w.alloc (.cells #[.slice A n c, .slice A' n' c'] 25)) 25 #[.slice none 0 0, .slice none 0 0])
  rw [show (w.alloc (.cells #[.slice A n c, .slice A' n' c'] 25)).heap.size = w.heap.size + 1 from by simp] at HK2
  have HR := hide (h.below HB0.out (Nat.le_refl _))
  have HOL := hide h.ou.length
  have HNL := hide h.nx.length
  clear h
  by_cases hx : errX b = 0
  · have hee : (errX b != 0) = false := by simp [hx]
    have HX := hide hx
    have hok := okx_of hx
    have hn6' : n' ≤ 6 := by rw [← HOL.out]; exact hok.n6
    have HNN := hide (show n = n' from by rw [← HNL.out, hok.len, HOL.out])
    have HOK := hide hok
    clear hx hok
    by_cases hl : n' = 6
    · have HE := hide (errLt_large HX.out (by rw [HOL.out]; exact hl))
      have HF := hide (lateF_no (b := b) (by rw [HE.out]; decide))
      subst hl
      go_enter Try.func53, Try.ntmps53
      go_wp2_with (go_at_call 26; refine (rValidate_any _ _ _ _ _ _ b _ HR.out).mono ?_; rintro e w1 ⟨rfl, b1⟩; have f1 := bk_two (HK1.out.keep b1 HK1.out.in_); have B1 := hide b1; have HK2r := hide (HK2.out.keep b1 HK2.out.in_); have hk2 := bk_two HK2r.out; have hf0 := HK2r.out.fr 0; have hf1 := HK2r.out.fr 1; clear b1)
      have HFF := hide ((HK2r.out.put 0 (.slice none 0 0)).put 1 (.slice none 0 0))
      have hf := bk_two HFF.out
      have hbl := le_call HB0.out B1.out
      rw [HF.out, HE.out]
      refine bodyPost_ret (v := .tuple #[bV none 0 0 none 0 0, .int .i64 3]) (by simp [results, Try.results53, go_sem, hf]) rfl ⟨none, 0, 0, none, 0, 0, rfl, OwnBox.nil _ _, Below.setCell (Below.setCell hbl (by simp) _) (by simp) _⟩
    · have HE := hide (errLt_fine HX.out (by rw [HOL.out]; exact hl))
      have HF := hide (lateF_ok HE.out)
      have il : ((n' : Int) == 6) = false := by rw [beq_eq_false_iff_ne]; omega
      go_enter Try.func53, Try.ntmps53
      go_wp2_with (go_at_call 26; refine (rValidate_any _ _ _ _ _ _ b _ HR.out).mono ?_; rintro e w1 ⟨rfl, b1⟩; have B1 := hide b1; have f1 := bk_two (HK1.out.keep b1 HK1.out.in_); clear b1)
      have h3 := bk3 w1 (.cells #[.int .i64 1, .int .i64 1] 59) (.cells #[.int .i64 0] 3) (.cells #[.slice (some ⟨w1.heap.size, 0, none⟩) 1 1, .slice (some ⟨w1.heap.size + 1, 0, none⟩) 1 1] 25)
      have B4 := hide (show Below w1.heap.size w1 (((w1.alloc (.cells #[.int .i64 1, .int .i64 1] 59)).alloc (.cells #[.int .i64 0] 3)).alloc (.cells #[.slice (some ⟨w1.heap.size, 0, none⟩) 1 1, .slice (some ⟨w1.heap.size + 1, 0, none⟩) 1 1] 25)) from le_two (le_two (le_two (Below.refl _ _) _) _) _)
      generalize (((w1.alloc (.cells #[.int .i64 1, .int .i64 1] 59)).alloc (.cells #[.int .i64 0] 3)).alloc (.cells #[.slice (some ⟨w1.heap.size, 0, none⟩) 1 1, .slice (some ⟨w1.heap.size + 1, 0, none⟩) 1 1] 25)) = W4 at *
      have KP0 := hide (show Bk W4 (w1.heap.size + 1 + 1) 25 #[.slice (some ⟨w1.heap.size, 0, none⟩) 1 1, .slice (some ⟨w1.heap.size + 1, 0, none⟩) 1 1] from h3.2.2)
      have ON0 := hide (show Own EN W4 w1.heap.size 59 (some ⟨w1.heap.size, 0, none⟩) 1 1 (lateTo b 0).1 from own_of_bk (l := [(1, 1)]) h3.1 rfl (Nat.le_refl _) (by decide))
      have OI0 := hide (show Own E1 W4 w1.heap.size 3 (some ⟨w1.heap.size + 1, 0, none⟩) 1 1 (lateTo b 0).2 from own_of_bk (l := [0]) h3.2.1 rfl (by omega) (by decide))
      clear h3
      have HSB := hide (fun x (hx : Below w1.heap.size w1 x) => bk_two ((HK1.out.keep B1.out HK1.out.in_).keep hx (Nat.lt_of_lt_of_le HK1.out.in_ B1.out.size)))
      clear f1
      have HGP := hide (show w1.heap.size ≤ w1.heap.size + 1 + 1 by omega)
      generalize w1.heap.size + 1 + 1 = gp at *
      go_loopw [6] (fun i wr => ∃ (k : Nat) (A3 : Option Addr) (c3 : Nat) (A4 : Option Addr) (c4 : Nat), k ≤ n' ∧ i = .int .i64 k ∧ Hid (Own EN wr w1.heap.size 59 A3 (k + 1) c3 (lateTo b k).1) ∧ Hid (Own E1 wr w1.heap.size 3 A4 (k + 1) c4 (lateTo b k).2) ∧ Hid (Bk wr gp 25 #[.slice A3 (k + 1) c3, .slice A4 (k + 1) c4]) ∧ Hid (Below w1.heap.size w1 wr)) (fun i _ => n' - (intOf i).toNat)
      case atStart => exact ⟨0, _, 1, _, 1, Nat.zero_le _, rfl, ON0, OI0, KP0, B4⟩
      case round =>
        obtain ⟨k, A3, c3, A4, c4, hk, rfl, ON, OI, KP, BL⟩ := hrel
        have hcb := HSB.out _ BL.out
        have hcp := bk_two KP.out
        by_cases hlt : k < n'
        · have hkn : k < n := by rw [HNN.out]; exact hlt
          obtain ⟨b1, o1, hr1⟩ := HR.out.nx
          obtain ⟨b2, o2, hr2⟩ := HR.out.ou
          obtain rfl := hr1.at_ (by omega)
          obtain rfl := hr2.at_ (by omega)
          have HCX := hide (fun u (hu : Below w1.heap.size w1 u) => cN ((hr1.below B1.out (Nat.le_refl _)).below hu (Nat.le_refl _)) hkn)
          have HC2 := hide (fun x (hx : Below w1.heap.size w1 x) => c1 ((hr2.below B1.out (Nat.le_refl _)).below hx (Nat.le_refl _)) hlt)
          have HT1 := hide (lateTo_nx (b := b) (k := k) (by rw [HNL.out]; exact hkn))
          have HT2 := hide (lateTo_ou (b := b) (k := k) (by rw [HOL.out]; exact hlt))
          have hnx := HOK.out.nx k (by rw [HOL.out]; exact hlt)
          rw [inB_iff, inB_iff, HOL.out] at hnx
          have hx1 := hnx.1
          have hx2 := hnx.2
          have i1 : (k : Int) < (n' : Int) := by omega
          have i2 : (k : Int) < (n : Int) := by omega
          clear hr1 hr2 hnx
          generalize (b.1.getD k (0, 0)).1 = x at *
          generalize (b.1.getD k (0, 0)).2 = y at *
          have wx : IntKind.i64.wrap (x + 1) = x + 1 := IntWalk.i64_in _ (by omega)
          have wy : IntKind.i64.wrap (y + 1) = y + 1 := IntWalk.i64_in _ (by omega)
          have HGE := hide BL.out.size
          clear hx1 hx2
          have hcpz := bk_two (KP.out.more (.cells #[.int .i64 (x + 1), .int .i64 (y + 1)] 59))
          have HCN := HCX.out wr BL.out
          go_upto_region 10 with fail
          go_cut [] from 22 to 58 (fun wx => ∃ (A5 : Option Addr) (c5 : Nat), Hid (Own EN wx w1.heap.size 59 A5 (k + 1 + 1) c5 (lateTo b (k + 1)).1) ∧ Hid (Own E1 wx w1.heap.size 3 A4 (k + 1) c4 (lateTo b k).2) ∧ Hid (Bk wx gp 25 #[.slice A5 (k + 1 + 1) c5, .slice A4 (k + 1) c4]) ∧ Hid (Below w1.heap.size w1 wx))
          case first =>
            go_region_law (refine step_app1G (E := EN) wr.drew (.agg #[.int .i64 0, .int .i64 0]) 16 rfl (.tmp 30) (.tmp 46) 22 59 rfl Try.underlying22 info_two rfl (by decide) (by omega) w1.heap.size (k + 1) c3 A3 (lateTo b k).1 (x + 1, y + 1) _ rfl rfl rfl ON.out.drew (by omega) HGE.out ?_; intro A5 c5 w5 o5 b5 g5; have O5 := hide o5; have B5 := hide (BL.out.drew.trans b5); have KP5 := hide (gb_bkO (w := wr.drew) ON.out.drew g5 KP.out.draw (by decide)); have OI5 := hide (OI.out.drew.kept g5 (own_neG ON.out.drew OI.out.drew (by decide))); have y0 := KP5.out.fr 0; have y2 := bk_two KP5.out; clear o5 b5 g5)
            all_goals
              go_wp2_with fail
              go_meet
              exact ⟨A5, c5, hide (by rw [← HT1.out]; exact own_put O5.out KP5.out (by decide) _ _), hide (own_put OI5.out KP5.out (by decide) _ _), hide (KP5.out.put 0 _), hide (Below.setCell B5.out (p := ⟨gp, 0, none⟩) HGP.out _)⟩
          case rest =>
            obtain ⟨A5, c5, ON6, OI6, KP6, BL6⟩ := hcut
            have hcb6 := HSB.out _ BL6.out
            have hcp6 := bk_two KP6.out
            have hc26 := HC2.out _ BL6.out
            have HGE6 := hide BL6.out.size
            generalize b.2.getD k 0 = s at *
            have hcpz6 := bk_two (KP6.out.more (.cells #[.int .i64 s] 3))
            clear HCN hcb hcp hcpz HCX
            go_upto_region 11 with fail
            go_region_law (refine step_app1G (E := E1) wc.drew (.int .i64 0) 8 rfl (.tmp 50) (.tmp 56) 23 3 rfl Try.underlying23 info_int rfl (by decide) (by omega) w1.heap.size (k + 1) c4 A4 (lateTo b k).2 s _ rfl rfl rfl OI6.out.drew (by omega) HGE6.out ?_; intro A7 c7 w7 o7 b7 g7; have O7 := hide o7; have B7 := hide (BL6.out.drew.trans b7); have KP7 := hide (gb_bkO (w := wc.drew) OI6.out.drew g7 KP6.out.draw (by decide)); have ON7 := hide (ON6.out.drew.kept g7 (own_neG OI6.out.drew ON6.out.drew (by decide))); have y0 := KP7.out.fr 1; have y2 := bk_two KP7.out; clear o7 b7 g7)
            all_goals
              go_wp2_with fail
              go_roundw
              case rel =>
                exact ⟨k + 1, A5, c5, A7, c7, by omega, by go_num, hide (own_put ON7.out KP7.out (by decide) _ _), hide (by rw [← HT2.out]; exact own_put O7.out KP7.out (by decide) _ _), hide (KP7.out.put 1 _), hide (Below.setCell B7.out (p := ⟨gp, 1, none⟩) HGP.out _)⟩
              case measure => simp [intOf]; omega
        · obtain rfl : k = n' := by omega
          have HTA := hide (lateTo_all (b := b) HOK.out.len)
          rw [HOL.out] at HTA
          rw [HTA.out] at ON OI
          have BL5 := hide (le_call B1.out BL.out)
          have KR := hide (HK2.out.keep BL5.out HK2.out.in_)
          have m0 := KR.out.fr 0
          have m1 := KR.out.fr 1
          have m2 := bk_two KR.out
          go_wp2_with fail
          have HFF := hide ((KR.out.put 0 (.slice A3 (k + 1) c3)).put 1 (.slice A4 (k + 1) c4))
          have hf := bk_two HFF.out
          have hin := Nat.lt_of_lt_of_le HK2.out.in_ B1.out.size
          have OA := hide (own_other (own_other ON.out hin 0 (.slice A3 (k + 1) c3)) hin 1 (.slice A4 (k + 1) c4))
          have OBB := hide (own_other (own_other OI.out hin 0 (.slice A3 (k + 1) c3)) hin 1 (.slice A4 (k + 1) c4))
          have hs6 := Nat.le_trans HB0.out.size B1.out.size
          have hbl := le_call HB0.out BL5.out
          rw [HF.out, HE.out]
          refine bodyPost_ret (v := .tuple #[bV A3 (k + 1) c3 A4 (k + 1) c4, .int .i64 0]) (by simp [results, Try.results53, go_sem, hf]) rfl ⟨_, _, c3, _, _, c4, rfl, ⟨OA.out.more hs6, OBB.out.more hs6⟩, Below.setCell (Below.setCell hbl (by simp) _) (by simp) _⟩
  · have hee : (errX b != 0) = true := by simp [hx]
    have HE := hide (errLt_bad hx)
    have HF := hide (lateF_no (b := b) (by rw [HE.out]; exact hx))
    clear hx
    go_enter Try.func53, Try.ntmps53
    go_wp2_with (go_at_call 26; refine (rValidate_any _ _ _ _ _ _ b _ HR.out).mono ?_; rintro e w1 ⟨rfl, b1⟩; have B1 := hide b1; have HK2r := hide (HK2.out.keep b1 HK2.out.in_); have hk2 := bk_two HK2r.out; have hf0 := HK2r.out.fr 0; have hf1 := HK2r.out.fr 1; clear b1)
    have HFF := hide ((HK2r.out.put 0 (.slice none 0 0)).put 1 (.slice none 0 0))
    have hf := bk_two HFF.out
    have hbl := le_call HB0.out B1.out
    rw [HF.out, HE.out]
    refine bodyPost_ret (v := .tuple #[bV none 0 0 none 0 0, .int .i64 (errX b)]) (by simp [results, Try.results53, go_sem, hf]) rfl ⟨none, 0, 0, none, 0, 0, rfl, OwnBox.nil _ _, Below.setCell (Below.setCell hbl (by simp) _) (by simp) _⟩
end Go.Proofs.Ytkjnhdkbojcojaa
