/- Walks: states, and what follows; on both sides. -/
import Derived.Test.YtkjnhdkbojcojaaWalkA
namespace Go.Proofs.Ytkjnhdkbojcojaa
open Go.RowKit Go.Shelf
attribute [local go_sem] Oper.semAt_some

/-- A box that lies in a block. -/
def BoxAt (w : World) (g : Nat) (b : Bx) : Prop := ∃ A n c A' n' c', Bk w g 25 #[.slice A n c, .slice A' n' c'] ∧ BxR w A n c A' n' c' b
theorem BoxAt.lt {w : World} {g : Nat} {b : Bx} (h : BoxAt w g b) : g < w.heap.size := by
  obtain ⟨A, n, c, A', n', c', h1, _⟩ := h
  exact h1.in_
theorem BoxAt.below {w w' : World} {g : Nat} {b : Bx} (h : BoxAt w g b) {B : Nat} (hb : Below B w w') (hB : w.heap.size ≤ B) : BoxAt w' g b := by
  obtain ⟨A, n, c, A', n', c', h1, h2⟩ := h
  exact ⟨A, n, c, A', n', c', h1.keep hb (Nat.lt_of_lt_of_le h1.in_ hB), h2.below hb hB⟩
theorem BoxAt.born {w : World} {A : Option Addr} {n c : Nat} {A' : Option Addr} {n' c' : Nat} {b : Bx} (h : BxR w A n c A' n' c' b) : BoxAt (w.alloc (.cells #[.slice A n c, .slice A' n' c'] 25)) w.heap.size b :=
  ⟨A, n, c, A', n', c', Bk.born _ _ _, h.below ((Below.refl _ _).alloc (Nat.le_refl _) _) (Nat.le_refl _)⟩
abbrev sV (g : Nat) (s : Nat) : Value := .agg #[.pointer (some ⟨g, 0, none⟩), .int .i64 (s : Int)]
set_option maxHeartbeats 1000000 in
theorem signal_any (g : Nat) (b : Bx) (s : Nat) (w : World) (h : BoxAt w g b) (hb : Okx b) (hs : s < b.2.length) :
    Calls Try.prog 61 #[sV g s] w fun e w' => e = .returned (.int .i64 (sgl b s)) ∧ Below w.heap.size w w' := by
  have HB := hide ((Below.refl w.heap.size w).alloc (Nat.le_refl _) (.cells #[.pointer (some ⟨g, 0, none⟩), .int .i64 (s : Int)] 68))
  obtain ⟨A, n, c, A', n', c', h1, h2⟩ := h.below HB.out (Nat.le_refl _)
  have hg := h.lt
  have hcb := bk_two h1
  obtain ⟨b2, o2, hr2⟩ := h2.ou
  have hl := hr2.len
  have hlt : s < n' := by omega
  obtain rfl := hr2.at_ (by omega)
  have hc2 := c1 hr2 hlt
  have hcs := bk_two (Bk.born w 68 #[.pointer (some ⟨g, 0, none⟩), .int .i64 (s : Int)])
  have HV := hide (show b.2.getD s 0 = sgl b s from rfl)
  have hi : (s : Int) < (n' : Int) := by omega
  generalize b.2.getD s 0 = o at *
  clear h1 h2 hr2 h hl hs
  go_enter Try.func61, Try.ntmps61
  go_wp2_with fail
  go_quiet (fail)
  go_wp2_with fail
  go_ret
  exact ⟨ret_i64 HV.out, below_drewN HB.out _⟩
set_option maxHeartbeats 1000000 in
theorem after_any (g : Nat) (b : Bx) (s : Nat) (x : Int) (w : World) (h : BoxAt w g b) (hb : Okx b) (hs : s < b.2.length) (hx : x = 0 ∨ x = 1) :
    Calls Try.prog 74 #[sV g s, .int .i64 x] w fun e w' => e = .returned (sV g (aft b s x)) ∧ Below w.heap.size w w' := by
  have HB := hide (((Below.refl w.heap.size w).alloc (Nat.le_refl _) (.cells #[.pointer (some ⟨g, 0, none⟩), .int .i64 (s : Int)] 68)).alloc (by simp) (.cells #[.pointer none, .int .i64 0] 68))
  obtain ⟨A, n, c, A', n', c', h1, h2⟩ := h.below HB.out (Nat.le_refl _)
  have hg := h.lt
  have hcb := bk_two h1
  obtain ⟨b1, o1, hr⟩ := h2.nx
  have hl := hr.len
  have hlen := hb.len
  have hlt : s < n := by omega
  obtain rfl := hr.at_ (by omega)
  have hc := cN hr hlt
  rw [hb.aft0 hs, hb.aft1 hs] at hc
  have hcs := bk_two ((Bk.born w 68 #[.pointer (some ⟨g, 0, none⟩), .int .i64 (s : Int)]).more (.cells #[.pointer none, .int .i64 0] 68))
  have hi : (s : Int) < (n : Int) := by omega
  clear h1 h2 hr h hl hs hlen
  rcases hx with rfl | rfl
  all_goals
    generalize aft b s 0 = y at *
    generalize aft b s 1 = z at *
    go_enter Try.func74, Try.ntmps74
    go_wp2_with fail
    go_region
    all_goals go_wp2_with fail
    all_goals refine bodyPost_ret (v := sV g _) (by simp [results, Try.results74, go_sem]) rfl ⟨rfl, ?_⟩
    all_goals exact (by (repeat' (first | exact Below.refl _ _ | exact Nat.le_refl _ | refine Below.drew ?_ | refine below_drewN ?_ _ | refine Below.alloc ?_ ?_ _ | refine Below.setCell ?_ ?_ _)); all_goals (first | (simp; done) | (simp; omega)))
/-- States of the box at g. -/
def ES (g : Nat) : Enc Nat := { size := 2, enc := fun s => [.pointer (some ⟨g, 0, none⟩), .int .i64 (s : Int)], len := fun _ => rfl, one := fun x u h => by simp at h; rcases h with rfl | rfl <;> rfl, d := 0 }
theorem info_state : (Try.prog.info? 68).map (fun i => (i.zero, i.size, i.bytes)) = some (some (.agg #[.pointer none, .int .i64 0]), 2, 16) := by kernel_rfl
theorem cS {g : Nat} {w : World} {A : Option Addr} {n c b off : Nat} {xs : List Nat} (h : RAt (ES g) w A n c xs b off) {k : Nat} (hk : k < n) : w.cell? ⟨b, off + k * 2, none⟩ = some (.pointer (some ⟨g, 0, none⟩)) ∧ w.cell? ⟨b, off + k * 2 + 1, none⟩ = some (.int .i64 ((xs.getD k 0 : Nat) : Int)) :=
  ⟨h.cell k hk 0 (show 0 < 2 by decide), h.cell k hk 1 (show 1 < 2 by decide)⟩
/-- The states on a way. -/
def PathPost (b : Bx) (l : List Int) (w : World) (e : Ending) (w' : World) : Prop :=
  ∃ g A c, e = .returned (.slice A (l.length + 1) c) ∧ Own (ES g) w' w.heap.size 68 A (l.length + 1) c (pathV b 0 l) ∧ BoxAt w' g b ∧ Below w.heap.size w w'
theorem take_succ_getD {l : List Int} {k : Nat} (h : k < l.length) : l.take (k + 1) = l.take k ++ [l.getD k 0] := by
  rw [List.take_add_one, List.getD_eq_getElem?_getD, List.getElem?_eq_getElem h]; rfl
set_option maxHeartbeats 2000000 in
theorem path_any (A : Option Addr) (n c : Nat) (A' : Option Addr) (n' c' : Nat) (b : Bx) (L : Option Addr) (m d : Nat) (l : List Int) (w : World) (h : BxR w A n c A' n' c' b) (hb : Okx b) (hw : R E1 w L m d l) (hm : m ≤ 40) (hi : ∀ i, i < l.length → inpB (l.getD i 0) = true) :
    Calls Try.prog 60 #[bV A n c A' n' c', .slice L m d] w (PathPost b l w) := by
  have HML := hide hw.length
  have H0 := hide (BoxAt.born h)
  have HW := hide hw
  have HI := hide hi
  have HB0 := hide ((Below.refl w.heap.size w).alloc (Nat.le_refl _) (.cells #[.slice A n c, .slice A' n' c'] 25))
  clear h hw hi
  go_enter Try.func60, Try.ntmps60
  go_wp2_with fail
  have HO := hide (Own.lit (E := ES w.heap.size) (B := w.heap.size + 2) (e := 68) ((w.alloc (.cells #[.slice A n c, .slice A' n' c'] 25)).alloc (.cells #[.pointer (some ⟨w.heap.size, 0, none⟩), .int .i64 0] 68)) [0] (by simp) (by simp [maxLen]))
  have HS0 := hide ((Bk.born (w.alloc (.cells #[.slice A n c, .slice A' n' c'] 25)) 68 #[.pointer (some ⟨w.heap.size, 0, none⟩), .int .i64 0]).more (.cells #[.pointer (some ⟨w.heap.size, 0, none⟩), .int .i64 0] 68))
  have hs1 : (w.alloc (.cells #[.slice A n c, .slice A' n' c'] 25)).heap.size = w.heap.size + 1 := by simp
  rw [hs1] at HS0
  rw [show (((w.alloc (.cells #[.slice A n c, .slice A' n' c'] 25)).alloc (.cells #[.pointer (some ⟨w.heap.size, 0, none⟩), .int .i64 0] 68))).heap.size = w.heap.size + 1 + 1 from by simp] at HO
  have HB1 := hide (show Below (w.heap.size + 1) (w.alloc (.cells #[.slice A n c, .slice A' n' c'] 25)) (((w.alloc (.cells #[.slice A n c, .slice A' n' c'] 25)).alloc (.cells #[.pointer (some ⟨w.heap.size, 0, none⟩), .int .i64 0] 68)).alloc (.cells #[.pointer (some ⟨w.heap.size, 0, none⟩), .int .i64 0] 68)) from by
    rw [← hs1]; exact le_two (le_two (Below.refl _ _) _) _)
  have HSZ := hide (show w.heap.size + 2 ≤ (((w.alloc (.cells #[.slice A n c, .slice A' n' c'] 25)).alloc (.cells #[.pointer (some ⟨w.heap.size, 0, none⟩), .int .i64 0] 68)).alloc (.cells #[.pointer (some ⟨w.heap.size, 0, none⟩), .int .i64 0] 68)).heap.size from by simp)
  have HP := hide (HW.out.below HB0.out (Nat.le_refl _))
  have hal := hs1
  generalize w.alloc (.cells #[.slice A n c, .slice A' n' c'] 25) = W1 at *
  generalize hG : w.heap.size = G at *
  go_loopw [14, 6] (fun i o wr => ∃ (k : Nat) (A6 : Option Addr) (c6 : Nat), k ≤ m ∧ i = .int .i64 k ∧ o = .slice A6 (k + 1) c6 ∧ Own (ES G) wr (G + 2) 68 A6 (k + 1) c6 (pathV b 0 (l.take k)) ∧ Bk wr (G + 1) 68 #[.pointer (some ⟨G, 0, none⟩), .int .i64 (endV b 0 (l.take k) : Nat)] ∧ Below (G + 1) W1 wr ∧ G + 2 ≤ wr.heap.size) (fun i _ _ => m - (intOf i).toNat)
  case atStart => exact ⟨0, _, 1, Nat.zero_le _, rfl, rfl, HO.out, HS0.out, HB1.out, HSZ.out⟩
  case round =>
    obtain ⟨k, A6, c6, hk, rfl, rfl, how, hbk, hbl, hsz⟩ := hrel
    have HOW := hide how
    have HBK := hide hbk
    have HBX := hide (H0.out.below hbl (by omega))
    have HBL := hide hbl
    by_cases hlt : k < m
    · obtain ⟨b2, o2, hr2⟩ := HP.out.below hbl (by omega)
      obtain rfl := hr2.at_ (by omega)
      have hc1 := c1 hr2 hlt
      have HX := hide (inp_two (HI.out k (by rw [HML.out]; exact hlt)))
      have HT := hide (take_succ_getD (l := l) (k := k) (by rw [HML.out]; exact hlt))
      have HPS := hide (path_snoc b (l.getD k 0) (l.take k) 0)
      have HES := hide (end_app b 0 (l.take k) [l.getD k 0])
      have HLS := hide (hb.end_lt (l.take k) (s := 0) (by have := hb.n1; omega))
      clear hr2 how hbk hbl
      generalize l.getD k 0 = x at *
      generalize endV b 0 (l.take k) = s at *
      have hcb := bk_two HBK.out
      have i1 : (k : Int) < (m : Int) := by omega
      go_wp2_with (first
        | (go_at_call 74; refine (after_any G b s x _ HBX.out hb HLS.out HX.out).mono ?_; rintro e w1 ⟨rfl, D1⟩; have HK1 := HBK.out.keep D1 HBK.out.in_; have f1 := bk_two HK1; have f2 := HK1.fr 0; have f3 := HK1.fr 1)
        | (at_builtin; refine wpList_app1 (E := ES G) _ (.agg #[.pointer none, .int .i64 0]) 16 rfl (.tmp 21) (.tmp 23) 64 68 rfl Try.underlying64 info_state rfl (show 0 < 2 by decide) (by omega) (G + 2) (k + 1) c6 A6 (pathV b 0 (l.take k)) (aft b s x) _ rfl rfl (show Value.slice (some ⟨w1.heap.size, 0, none⟩) 1 1 = _ from by simp) (own_other (own_other (HOW.out.below D1 (Nat.le_refl _)) (by omega) 0 _) (by omega) 1 _) (by omega) (by have := D1.size; simp; omega) ?_; intro A1 c1 w2 hown hbb hg))
      go_roundw
      case rel =>
        refine ⟨k + 1, A1, c1, by omega, by go_num, rfl, ?_, ?_, ?_, ?_⟩
        · rw [HT.out, HPS.out]; exact hown
        · rw [HT.out, HES.out]; exact ((HK1.put 0 _).put 1 _).keep hbb (by omega)
        · exact (Below.setCell (Below.setCell (HBL.out.trans (D1.mono (by omega))) (Nat.le_refl _) _) (Nat.le_refl _) _).trans (hbb.mono (by omega))
        · have := D1.size; have := hbb.size; simp at this; omega
      case measure => simp [intOf]; omega
    · obtain rfl : k = m := by omega
      have HTK := hide (show l.take k = l from List.take_of_length_le (by rw [HML.out]; exact Nat.le_refl _))
      go_wp2_with fail
      go_ret
      rw [HTK.out] at HOW
      refine ⟨G, A6, c6, ?_, ?_, HBX.out, ?_⟩
      · rw [HML.out]; rfl
      · rw [HML.out]; exact HOW.out.more (by omega)
      · rw [hG]; exact HB0.out.trans (HBL.out.mono (by omega))
end Go.Proofs.Ytkjnhdkbojcojaa
