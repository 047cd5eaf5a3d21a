/- Walks: which states are alike, by rounds. -/
import Derived.Test.YtkjnhdkbojcojaaWalkF
import Derived.Test.YtkjnhdkbojcojaaRow
namespace Go.Proofs.Ytkjnhdkbojcojaa
open Go.RowKit Go.Shelf
attribute [local go_sem] Oper.semAt_some

/-- The first mark that tells. -/
def tIdx (b : Bx) (ks : List Nat) (s t : Nat) : Int := if !(sgl b s == sgl b t) then 0 else if !(mkK b ks 0 s == mkK b ks 0 t) then 1 else if !(mkK b ks 1 s == mkK b ks 1 t) then 2 else -1
theorem tIdx_told (b : Bx) (ks : List Nat) (s t : Nat) : decide (0 ≤ tIdx b ks s t) = told b ks s t := by
  unfold tIdx told
  cases !(sgl b s == sgl b t) <;> cases !(mkK b ks 0 s == mkK b ks 0 t) <;> cases !(mkK b ks 1 s == mkK b ks 1 t) <;> rfl
set_option maxRecDepth 100000 in
set_option maxHeartbeats 4000000 in
theorem idxMark_any (g : Nat) (b : Bx) (s t p q m : Nat) (ks : List Nat) (A : Option Addr) (n c : Nat) (w : World) (h : BoxAt w g b) (hb : Okx b) (hs : s < b.2.length) (ht : t < b.2.length) (hk : KAt w p ks A n c) (hl : ks.length = b.2.length) (hq : Bk w q 91 #[.pointer (some ⟨g, 0, none⟩), .int .i64 (s : Int), .pointer (some ⟨g, 0, none⟩), .int .i64 (t : Int)]) (hm : Bk w m 147 #[mF0, mF1 p, mF2 p]) :
    Calls Try.prog 139 #[.slice (some ⟨m, 0, none⟩) 3 3, .func (.func 136) #[] #[.pointer (some ⟨q, 0, none⟩)]] w fun e w' => e = .returned (.int .i64 (tIdx b ks s t)) ∧ Below w.heap.size w w' := by
  have HX := hide h
  have HKA := hide hk
  have HQ := hide hq
  have HM := hide hm
  have HT0 := hide (fun x (hx : Below w.heap.size w x) => told0_any g b s t p q ks A n c x (HX.out.below hx (Nat.le_refl _)) hb hs ht (HKA.out.below hx (Nat.le_refl _)) hl (HQ.out.keep hx HQ.out.in_))
  have HT1 := hide (fun x (hx : Below w.heap.size w x) => told1_any g b s t p q ks A n c x (HX.out.below hx (Nat.le_refl _)) hb hs ht (HKA.out.below hx (Nat.le_refl _)) hl (HQ.out.keep hx HQ.out.in_))
  have HT2 := hide (fun x (hx : Below w.heap.size w x) => told2_any g b s t p q ks A n c x (HX.out.below hx (Nat.le_refl _)) hb hs ht (HKA.out.below hx (Nat.le_refl _)) hl (HQ.out.keep hx HQ.out.in_))
  clear h hb hs ht hk hl hq hm
  unfold tIdx
  generalize (!(sgl b s == sgl b t)) = t0 at *
  generalize (!(mkK b ks 0 s == mkK b ks 0 t)) = t1 at *
  generalize (!(mkK b ks 1 s == mkK b ks 1 t)) = t2 at *
  go_enter Try.func139, Try.ntmps139
  go_wp2_with fail
  go_loopw [8] (fun i wr => ∃ k : Nat, k ≤ 3 ∧ i = .int .i64 k ∧ Below w.heap.size w wr ∧ (1 ≤ k → t0 = false) ∧ (2 ≤ k → t1 = false) ∧ (3 ≤ k → t2 = false)) (fun i _ => 3 - (intOf i).toNat)
  case atStart => exact ⟨0, by omega, rfl, Below.refl _ _, by omega, by omega, by omega⟩
  case round =>
    obtain ⟨k, hk, rfl, hbl, h0, h1, h2⟩ := hrel
    have HBL := hide hbl
    by_cases hlt : k < 3
    · have hcm := HM.out.keep hbl HM.out.in_
      have m0 : wr.cell? ⟨m, 0, none⟩ = some mF0 := hcm.at_ 0
      have m1 : wr.cell? ⟨m, 1, none⟩ = some (mF1 p) := hcm.at_ 1
      have m2 : wr.cell? ⟨m, 2, none⟩ = some (mF2 p) := hcm.at_ 2
      clear hcm
      obtain rfl | rfl | rfl : k = 0 ∨ k = 1 ∨ k = 2 := by omega
      · cases t0
        · go_wp2_with (go_at_call 136; refine (HT0.out _ HBL.out).mono ?_; rintro e w5 ⟨rfl, b5⟩)
          go_roundw
          case rel => exact ⟨1, by omega, by go_num, HBL.out.trans (b5.mono HBL.out.size), by simp, by omega, by omega⟩
          case measure => simp [intOf]
        · go_wp2_with (go_at_call 136; refine (HT0.out _ HBL.out).mono ?_; rintro e w5 ⟨rfl, b5⟩)
          go_ret
          exact ⟨rfl, HBL.out.trans (b5.mono HBL.out.size)⟩
      · obtain rfl := h0 (by omega)
        cases t1
        · go_wp2_with (go_at_call 136; refine (HT1.out _ HBL.out).mono ?_; rintro e w5 ⟨rfl, b5⟩)
          go_roundw
          case rel => exact ⟨2, by omega, by go_num, HBL.out.trans (b5.mono HBL.out.size), by simp, by simp, by omega⟩
          case measure => simp [intOf]
        · go_wp2_with (go_at_call 136; refine (HT1.out _ HBL.out).mono ?_; rintro e w5 ⟨rfl, b5⟩)
          go_ret
          exact ⟨rfl, HBL.out.trans (b5.mono HBL.out.size)⟩
      · obtain rfl := h0 (by omega)
        obtain rfl := h1 (by omega)
        cases t2
        · go_wp2_with (go_at_call 136; refine (HT2.out _ HBL.out).mono ?_; rintro e w5 ⟨rfl, b5⟩)
          go_roundw
          case rel => exact ⟨3, by omega, by go_num, HBL.out.trans (b5.mono HBL.out.size), by simp, by simp, by simp⟩
          case measure => simp [intOf]
        · go_wp2_with (go_at_call 136; refine (HT2.out _ HBL.out).mono ?_; rintro e w5 ⟨rfl, b5⟩)
          go_ret
          exact ⟨rfl, HBL.out.trans (b5.mono HBL.out.size)⟩
    · obtain rfl : k = 3 := by omega
      obtain rfl := h0 (by omega)
      obtain rfl := h1 (by omega)
      obtain rfl := h2 (by omega)
      go_wp2_with fail
      go_ret
      exact ⟨rfl, HBL.out⟩
set_option maxRecDepth 100000 in
set_option maxHeartbeats 4000000 in
theorem contMark_any (g : Nat) (b : Bx) (s t p q m : Nat) (ks : List Nat) (A : Option Addr) (n c : Nat) (w : World) (h : BoxAt w g b) (hb : Okx b) (hs : s < b.2.length) (ht : t < b.2.length) (hk : KAt w p ks A n c) (hl : ks.length = b.2.length) (hq : Bk w q 91 #[.pointer (some ⟨g, 0, none⟩), .int .i64 (s : Int), .pointer (some ⟨g, 0, none⟩), .int .i64 (t : Int)]) (hm : Bk w m 147 #[mF0, mF1 p, mF2 p]) :
    Calls Try.prog 135 #[.slice (some ⟨m, 0, none⟩) 3 3, .func (.func 136) #[] #[.pointer (some ⟨q, 0, none⟩)]] w fun e w' => e = .returned (.bool (told b ks s t)) ∧ Below w.heap.size w w' := by
  have HI := hide (idxMark_any g b s t p q m ks A n c w h hb hs ht hk hl hq hm)
  have HTT := hide (tIdx_told b ks s t)
  clear h hb hs ht hk hl hq hm
  generalize tIdx b ks s t = i at *
  go_enter Try.func135, Try.ntmps135
  go_wp2_with (go_at_call 139; refine HI.out.mono ?_; rintro e w5 ⟨rfl, b5⟩)
  go_ret
  exact ⟨ret_bool HTT.out, b5⟩
set_option maxRecDepth 100000 in
set_option maxHeartbeats 4000000 in
theorem isTold_any (g : Nat) (b : Bx) (s t p m : Nat) (ks : List Nat) (A : Option Addr) (n c : Nat) (w : World) (h : BoxAt w g b) (hb : Okx b) (hs : s < b.2.length) (ht : t < b.2.length) (hk : KAt w p ks A n c) (hl : ks.length = b.2.length) (hm : Bk w m 147 #[mF0, mF1 p, mF2 p]) :
    Calls Try.prog 121 #[pV g s g t, .slice (some ⟨m, 0, none⟩) 3 3] w fun e w' => e = .returned (.bool (told b ks s t)) ∧ Below w.heap.size w w' := by
  have HB0 := hide ((Below.refl w.heap.size w).alloc (Nat.le_refl _) (.cells #[.pointer (some ⟨g, 0, none⟩), .int .i64 (s : Int), .pointer (some ⟨g, 0, none⟩), .int .i64 (t : Int)] 91))
  have HI := hide (contMark_any g b s t p w.heap.size m ks A n c _ (h.below HB0.out (Nat.le_refl _)) hb hs ht (hk.below HB0.out (Nat.le_refl _)) hl (Bk.born w 91 #[.pointer (some ⟨g, 0, none⟩), .int .i64 (s : Int), .pointer (some ⟨g, 0, none⟩), .int .i64 (t : Int)]) (hm.keep HB0.out hm.in_))
  clear h hb hs ht hk hl hm
  generalize told b ks s t = v at *
  go_enter Try.func121, Try.ntmps121
  go_wp2_with (go_at_call 135; refine HI.out.mono ?_; rintro e w5 ⟨rfl, b5⟩)
  go_ret
  exact ⟨rfl, le_call HB0.out b5⟩
set_option maxRecDepth 100000 in
set_option maxHeartbeats 4000000 in
theorem finer_any (A : Option Addr) (n c : Nat) (A' : Option Addr) (n' c' : Nat) (b : Bx) (p m : Nat) (ks : List Nat) (K : Option Addr) (nk ck : Nat) (w : World) (h : BxR w A n c A' n' c' b) (hb : Okx b) (hk : KAt w p ks K nk ck) (hl : ks.length = b.2.length) (hm : Bk w m 147 #[mF0, mF1 p, mF2 p]) :
    Calls Try.prog 95 #[bV A n c A' n' c', .slice (some ⟨m, 0, none⟩) 3 3] w (IntsPost (kI (finV b ks)) w) := by
  have HB0 := hide ((Below.refl w.heap.size w).alloc (Nat.le_refl _) (.cells #[.slice A n c, .slice A' n' c'] 25))
  have HN := hide h.ou.length
  have HX := hide (BoxAt.born h)
  have HK := hide (hk.below HB0.out (Nat.le_refl _))
  have HM := hide (hm.keep HB0.out hm.in_)
  have HKB := hide (Bk.born w 25 #[.slice A n c, .slice A' n' c'])
  have HOK := hide hb
  have HL := hide hl
  have hn6 : n' ≤ 6 := by rw [← HN.out]; exact hb.n6
  clear h hb hk hl hm
  go_enter Try.func95, Try.ntmps95
  go_wp2_with fail
  generalize w.alloc (.cells #[.slice A n c, .slice A' n' c'] 25) = W1 at *
  have HIS := hide (fun s t (hs : s < b.2.length) (ht : t < b.2.length) x (hx : Below W1.heap.size W1 x) => isTold_any w.heap.size b s t p m ks K nk ck x (HX.out.below hx (Nat.le_refl _)) HOK.out hs ht (HK.out.below hx (Nat.le_refl _)) HL.out (HM.out.keep hx HM.out.in_))
  go_loopw [11, 5] (fun i o wr => ∃ (k : Nat) (A6 : Option Addr) (c6 : Nat), k ≤ n' ∧ i = .int .i64 k ∧ o = .slice A6 k c6 ∧ Hid (Own E1 wr W1.heap.size 3 A6 k c6 ((kI (finV b ks)).take k)) ∧ Below W1.heap.size W1 wr) (fun i _ _ => n' - (intOf i).toNat)
  case atStart => exact ⟨0, none, 0, Nat.zero_le _, rfl, rfl, hide (Own.nil _ _ _ _), Below.refl _ _⟩
  case round =>
    obtain ⟨k, A6, c6, hk, rfl, rfl, HO, hbl⟩ := hrel
    by_cases hlt : k < n'
    · have hcb := bk_two (HKB.out.keep hbl HKB.out.in_)
      have HKN := hide (show k < b.2.length by rw [HN.out]; exact hlt)
      have HT := hide (take_succ_getD (l := kI (finV b ks)) (k := k) (by rw [kI_len, finV_len, HN.out]; exact hlt))
      have HG := hide (show (kI (finV b ks)).getD k 0 = (leastS b ks k : Nat) from by rw [kI_get, finV_get HKN.out])
      rw [HG.out] at HT
      have i1 : (k : Int) < (n' : Int) := by omega
      have HBL := hide hbl
      clear hbl
      go_wp2_with fail
      go_loopw [7] (fun v w3 => ∃ f : Nat, f ≤ k ∧ v = .int .i64 f ∧ Hid (∀ j, j < f → told b ks j k = true) ∧ Hid (Below wr.heap.size wr w3)) (fun v _ => k - (intOf v).toNat)
      case atStart => exact ⟨0, Nat.zero_le _, rfl, hide (by omega), hide (Below.refl _ _)⟩
      case round =>
        obtain ⟨f, hf, rfl, HF, HB3⟩ := hrel
        have HFB := hide (show Below W1.heap.size W1 _ from HBL.out.trans (HB3.out.mono HBL.out.size))
        cases ht : told b ks f k with
        | true =>
          have hfk : f < k := by
            rcases Nat.lt_or_ge f k with h1 | h1
            · exact h1
            · obtain rfl : f = k := by omega
              rw [told_self] at ht; cases ht
          have HTT := hide ht
          clear ht
          go_wp2_with (go_at_call 121; refine (HIS.out f k (by have := HKN.out; omega) HKN.out _ HFB.out).mono ?_; rintro e w5 ⟨rfl, b5⟩; rw [HTT.out])
          go_roundw
          case rel => exact ⟨f + 1, by omega, by go_num, hide (fun j hj => by
            by_cases e : j = f
            · subst e; exact HTT.out
            · exact HF.out j (by omega)), hide (HB3.out.trans (b5.mono HB3.out.size))⟩
          case measure => simp [intOf]; omega
        | false =>
          have HTT := hide ht
          have HLS := hide (leastS_eq HTT.out HF.out)
          clear ht
          go_wp2_with (first
            | (go_at_call 121; refine (HIS.out f k (by have := HKN.out; omega) HKN.out _ HFB.out).mono ?_; rintro e w5 ⟨rfl, b5⟩; rw [HTT.out]; have HB5 := hide (HB3.out.trans (b5.mono HB3.out.size)))
            | (at_builtin; refine wpList_app1 (E := E1) _ (.int .i64 0) 8 rfl (.tmp 23) (.tmp 25) 23 3 rfl Try.underlying23 info_int rfl (by decide) (by omega) W1.heap.size k c6 A6 ((kI (finV b ks)).take k) (f : Int) _ rfl rfl rfl (HO.out.below HB5.out (Nat.le_refl _)) (by omega) (Nat.le_trans HBL.out.size HB5.out.size) ?_; intro A7 c7 w7 hown hbb hg))
          go_roundw
          case rel => exact ⟨k + 1, A7, c7, by omega, by go_num, rfl, hide (by rw [HT.out, HLS.out]; exact hown), (HBL.out.trans (HB5.out.mono HBL.out.size)).trans hbb⟩
          case measure => simp [intOf]; omega
    · obtain rfl : k = n' := by omega
      go_wp2_with fail
      go_ret
      have h1 := HO.out
      rw [List.take_of_length_le (by rw [kI_len, finV_len, HN.out]; exact Nat.le_refl _)] at h1
      exact ⟨A6, k, c6, rfl, h1.more HB0.out.size, HB0.out.trans (hbl.mono HB0.out.size)⟩
end Go.Proofs.Ytkjnhdkbojcojaa
