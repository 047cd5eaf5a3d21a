/- Walks: the word that tells two boxes apart. -/
import Derived.Test.YtkjnhdkbojcojaaWalkTp
import Derived.Test.YtkjnhdkbojcojaaWalkW
import Derived.Test.YtkjnhdkbojcojaaWalkN
namespace Go.Proofs.Ytkjnhdkbojcojaa
open Go.RowKit Go.Shelf
attribute [local go_sem] Oper.semAt_some

set_option maxRecDepth 100000 in
set_option maxHeartbeats 4000000 in
theorem firstP1_any (g g2 : Nat) (a b : Bx) (x : Nat × Nat) (q : Nat) (hd : Hd) (w : World) (h1 : BoxAt w g a) (h2 : BoxAt w g2 b) (ha : Okx a) (hb : Okx b) (hx : inP a b x) (h : Bk w q 124 #[.func (.func 103) #[] #[]]) :
    Calls Try.prog 125 #[.agg (placeP g g2 x hd), .pointer (some ⟨q, 0, none⟩)] w fun e w' => e = .returned (.bool (toldP a b x)) ∧ Below w.heap.size w w' := by
  have HB0 := hide ((Below.refl w.heap.size w).alloc (Nat.le_refl _) (.cells (placeP g g2 x hd) 150))
  have hcq : (w.alloc (.cells (placeP g g2 x hd) 150)).cell? ⟨q, 0, none⟩ = some (.func (.func 103) #[] #[]) := (h.keep HB0.out h.in_).at_ 0
  have hq := h.in_
  have HP := hide (pairTold_any g g2 a b x.1 x.2 _ (h1.below HB0.out (Nat.le_refl _)) (h2.below HB0.out (Nat.le_refl _)) ha hb hx.1 hx.2)
  clear h h1 h2
  go_enter Try.func125, Try.ntmps125
  go_wp2_with (go_at_call 103; refine HP.out.mono ?_; rintro e w5 ⟨rfl, b5⟩)
  go_ret
  exact ⟨rfl, le_call HB0.out b5⟩
set_option maxRecDepth 100000 in
set_option maxHeartbeats 4000000 in
theorem idxP_first (g g2 : Nat) (q : Nat) (p : (Nat × Nat) → Bool) (P : (Nat × Nat) → Prop) {w : World} {B n c : Nat} {A : Option Addr} {hs : List ((Nat × Nat) × Hd)} {V : Pl (Nat × Nat)} (h : Pls (EPr g g2) w B 150 A n c hs V) (hn : n ≤ 1000) (hP : ∀ k, k < n → P (V.getD k ((0, 0), [])).1)
    (HF : ∀ x hd w', P x → Below w.heap.size w w' → Calls Try.prog 125 #[.agg (placeP g g2 x hd), .pointer (some ⟨q, 0, none⟩)] w' fun e w'' => e = .returned (.bool (p x)) ∧ Below w'.heap.size w' w'') :
    Calls Try.prog 124 #[.slice A n c, .func (.func 125) #[] #[.pointer (some ⟨q, 0, none⟩)]] w fun e w' => e = .returned (.int .i64 (idxP V p)) ∧ Below w.heap.size w w' := by
  have HFF := hide HF
  have HH := hide h
  have HPP := hide hP
  have HLV := hide h.len
  have hlc : n ≤ c ∧ c ≤ 9223372036854775807 := by
    obtain ⟨b0, o0, hr0⟩ := h.own.row
    exact ⟨hr0.cap, hr0.max⟩
  have hc1 := hlc.1
  have hc2 := hlc.2
  clear h hP HF hlc
  go_enter Try.func124, Try.ntmps124
  go_wp2_with fail
  go_loopw [8] (fun i wr => ∃ k : Nat, k ≤ n ∧ i = .int .i64 k ∧ Hid (Below w.heap.size w wr) ∧ Hid (∀ j, j < k → p (V.getD j ((0, 0), [])).1 = false)) (fun i _ => n - (intOf i).toNat)
  case atStart => exact ⟨0, Nat.zero_le _, rfl, hide (Below.refl _ _), hide (by omega)⟩
  case round =>
    obtain ⟨k, hk, rfl, HBL, HJ⟩ := hrel
    by_cases hlt : k < n
    · have i1 : (k : Int) < (n : Int) := by omega
      obtain ⟨g0, rfl, _⟩ := HH.out.own.addr (by omega)
      have hcs := cPlP (HH.out.own.rowAt.below HBL.out (Nat.le_refl _)) hlt
      simp only [Nat.zero_add] at hcs
      have HX := hide (show (hs.getD k (EPl (EPr g g2)).d).1 = (V.getD k ((0, 0), [])).1 from HH.out.node hlt)
      have HPK := hide (HPP.out k hlt)
      rw [← HX.out] at HPK
      have HS := hide (fun (hp : p (V.getD k ((0, 0), [])).1 = true) => idx_some (p := p) (d := (0, 0)) (by rw [HLV.out]; exact hlt) hp HJ.out)
      have HSJ := hide (fun (hp : p (V.getD k ((0, 0), [])).1 = false) => (show ∀ j, j < k + 1 → p (V.getD j ((0, 0), [])).1 = false from fun j hj => by
        by_cases e : j = k
        · subst e; exact hp
        · exact HJ.out j (by omega)))
      rw [← HX.out] at HS HSJ
      generalize hs.getD k (EPl (EPr g g2)).d = y at *
      cases hpy : p y.1 with
      | true =>
        have HPY := hide hpy
        clear hpy
        go_wp2_with (go_at_call 125; refine (HFF.out y.1 y.2 _ HPK.out HBL.out).mono ?_; rintro e w5 ⟨rfl, b5⟩; rw [HPY.out])
        go_ret
        exact ⟨ret_i64 (HS.out HPY.out).symm, HBL.out.trans (b5.mono HBL.out.size)⟩
      | false =>
        have HPY := hide hpy
        clear hpy
        go_wp2_with (go_at_call 125; refine (HFF.out y.1 y.2 _ HPK.out HBL.out).mono ?_; rintro e w5 ⟨rfl, b5⟩; rw [HPY.out])
        go_roundw
        case rel => exact ⟨k + 1, by omega, by go_num, hide (HBL.out.trans (b5.mono HBL.out.size)), hide (HSJ.out HPY.out)⟩
        case measure => simp [intOf]; omega
    · obtain rfl : k = n := by omega
      have HNO := hide (idx_none (p := p) (d := (0, 0)) (V := V) (by rw [HLV.out]; exact HJ.out))
      go_wp2_with fail
      go_ret
      exact ⟨ret_i64 HNO.out.symm, HBL.out⟩
set_option maxRecDepth 100000 in
set_option maxHeartbeats 4000000 in
theorem firstP_any (g g2 : Nat) (a b : Bx) {w : World} {B n c : Nat} {A : Option Addr} {hs : List ((Nat × Nat) × Hd)} {V : Pl (Nat × Nat)} (h : Pls (EPr g g2) w B 150 A n c hs V) (hn : n ≤ 1000) (h1 : BoxAt w g a) (h2 : BoxAt w g2 b) (ha : Okx a) (hb : Okx b) (hP : ∀ k, k < n → inP a b (V.getD k ((0, 0), [])).1) :
    Calls Try.prog 100 #[.slice A n c, .func (.func 103) #[] #[]] w (FirstPost (firstW V (toldP a b)) B w) := by
  have HB0 := hide ((Below.refl w.heap.size w).alloc (Nat.le_refl _) (.cells #[.func (.func 103) #[] #[]] 124))
  have HK := hide (Bk.born w 124 #[.func (.func 103) #[] #[]])
  have HI := hide (idxP_first g g2 w.heap.size (toldP a b) (inP a b) (h.below HB0.out (Nat.le_refl _)) hn hP (fun x hd w' hx hw => firstP1_any g g2 a b x w.heap.size hd w' ((h1.below HB0.out (Nat.le_refl _)).below hw (Nat.le_refl _)) ((h2.below HB0.out (Nat.le_refl _)).below hw (Nat.le_refl _)) ha hb hx (HK.out.keep hw (by simp))))
  have HH := hide (h.below HB0.out (Nat.le_refl _))
  have hl := h.len
  clear h h1 h2 hP
  rcases idx_cases V (toldP a b) (0, 0) with ⟨k, hk, hi, hf⟩ | ⟨hi, hf, _⟩
  · rw [hi] at HI
    have hk' : k < n := by omega
    obtain ⟨g0, rfl, _, _, hc1, hc2⟩ := HH.out.own.addr (by omega)
    have hc3 : c ≤ 9223372036854775807 := hc2
    clear hc2
    have HCS := hide (fun x (hx : Below (w.alloc (.cells #[.func (.func 103) #[] #[]] 124)).heap.size (w.alloc (.cells #[.func (.func 103) #[] #[]] 124)) x) => cPlP (HH.out.own.rowAt.below hx (Nat.le_refl _)) hk')
    have HWD := hide (HH.out.wd k hk')
    have HR := hide (show firstW V (toldP a b) = some (V.getD k ((EPr g g2).d, [])).2 from by rw [firstW, hf]; rfl)
    have i0 : (0 : Int) ≤ (k : Int) := by omega
    have i1 : (k : Int) < (n : Int) := by omega
    clear hi hf
    go_enter Try.func100, Try.ntmps100
    go_wp2_with (go_at_call 124; refine HI.out.mono ?_; rintro e w5 ⟨rfl, b5⟩; have hcs := HCS.out w5 b5; simp only [Nat.zero_add] at hcs)
    go_ret2
    exact ⟨_, _, _, by rw [HR.out]; rfl, by rw [HR.out]; exact Own.below (E := E1) HWD.out b5 (Nat.le_refl _), le_call HB0.out b5⟩
  · rw [hi] at HI
    have HR := hide (show firstW V (toldP a b) = none from by rw [firstW, hf]; rfl)
    clear hi hf
    go_enter Try.func100, Try.ntmps100
    go_wp2_with (go_at_call 124; refine HI.out.mono ?_; rintro e w5 ⟨rfl, b5⟩)
    go_ret2
    exact ⟨none, 0, 0, by rw [HR.out]; rfl, by rw [HR.out]; exact Own.nil _ _ _ _, le_call HB0.out b5⟩
set_option maxRecDepth 100000 in
set_option maxHeartbeats 4000000 in
theorem tell_any (g g2 : Nat) (a b : Bx) (s t : Nat) (w : World) (h1 : BoxAt w g a) (h2 : BoxAt w g2 b) (ha : Okx a) (hb : Okx b) (hs : s < a.2.length) (ht : t < b.2.length) :
    Calls Try.prog 80 #[pV g s g2 t] w (FirstPost (tellV a b s t) w.heap.size w) := by
  have HB0 := hide ((Below.refl w.heap.size w).alloc (Nat.le_refl _) (.cells #[.pointer (some ⟨g, 0, none⟩), .int .i64 ((s : Nat) : Int), .pointer (some ⟨g2, 0, none⟩), .int .i64 ((t : Nat) : Int)] 91))
  have HX := hide (h1.below HB0.out (Nat.le_refl _))
  have HY := hide (h2.below HB0.out (Nat.le_refl _))
  have HPL := hide (fun w' (hw : Below w.heap.size w w') (hx : BoxAt w' g a) (hy : BoxAt w' g2 b) => placesP_any g g2 (s, t) (aftP a b) (inP a b) cdP ⟨hs, ht⟩ (inP_aft ha hb) (cdP_lt ha hb) (cdP_inj ha hb) w' (fun x k w'' hp hk hw' => pairAfter_any g g2 a b x.1 x.2 k w'' (hx.below hw' (Nat.le_refl _)) (hy.below hw' (Nat.le_refl _)) ha hb hp.1 hp.2 hk))
  have HAL := hide ((inv_plN (f := aftP a b) (P := inP a b) (x0 := (s, t)) ⟨hs, ht⟩ (inP_aft ha hb) 64).all)
  have HTV := hide (show firstW (plN (aftP a b) (s, t) 64) (toldP a b) = tellV a b s t from rfl)
  have HA := hide ha
  have HBB := hide hb
  clear h1 h2 ha hb hs ht
  go_enter Try.func80, Try.ntmps80
  go_wp2_with (first
    | (go_at_call 101; refine (HPL.out _ HB0.out HX.out HY.out).mono ?_; rintro e w5 ⟨A5, n5, c5, hs5, rfl, pl5, hn5, b5⟩; have P5 := hide pl5; have N5 := hide hn5; have B5 := hide b5; clear pl5 b5)
    | (go_at_call 100; refine (firstP_any g g2 a b P5.out (by have := N5.out; omega) (HX.out.below B5.out (Nat.le_refl _)) (HY.out.below B5.out (Nat.le_refl _)) HA.out HBB.out (fun k hk => by rw [List.getD_eq_getElem?_getD, List.getElem?_eq_getElem (by rw [P5.out.len]; exact hk)]; exact HAL.out _ (List.getElem_mem _))).mono ?_; rw [HTV.out]; rintro e w7 ⟨A7, n7, c7, rfl, o7, b7⟩; have O7 := hide o7; have B7 := hide (B5.out.trans (b7.mono B5.out.size)); clear o7 b7))
  go_ret2
  exact ⟨_, _, _, rfl, O7.out.more HB0.out.size, le_call HB0.out B7.out⟩
def errTw (a b : Bx) : Int := if errX a = 0 then errX b else errX a
theorem errTw_ok {a b : Bx} (h : errTw a b = 0) : Okx a ∧ Okx b := by
  unfold errTw at h
  by_cases e : errX a = 0
  · rw [if_pos e] at h; exact ⟨okx_of e, okx_of h⟩
  · rw [if_neg e] at h; exact absurd h e
def tellF (a b : Bx) : Option (List Int) := if errTw a b = 0 then tellV a b 0 0 else none
theorem tellF_ok {a b : Bx} (h : errTw a b = 0) : tellF a b = tellV a b 0 0 := if_pos h
theorem tellF_no {a b : Bx} (h : ¬ errTw a b = 0) : tellF a b = none := if_neg h
set_option maxRecDepth 100000 in
set_option maxHeartbeats 4000000 in
theorem Tell_any (A : Option Addr) (n c : Nat) (A' : Option Addr) (n' c' : Nat) (a : Bx) (B : Option Addr) (m d : Nat) (B' : Option Addr) (m' d' : Nat) (b : Bx) (w : World) (h : BxR w A n c A' n' c' a) (h2 : BxR w B m d B' m' d' b) :
    Calls Try.prog 39 #[bV A n c A' n' c', bV B m d B' m' d'] w (FindPost (errTw a b) (tellF a b) w) := by
  have HB0 := hide (show Below w.heap.size w ((w.alloc (.cells #[.slice A n c, .slice A' n' c'] 25)).alloc (.cells #[.slice B m d, .slice B' m' d'] 25)) from le_two (le_two (Below.refl _ _) _) _)
  have HK1 := hide ((Bk.born w 25 #[.slice A n c, .slice A' n' c']).more (.cells #[.slice B m d, .slice B' m' d'] 25))
  have HK2 := hide (Bk.born (w.alloc (.cells #[.slice A n c, .slice A' n' c'] 25)) 25 #[.slice B m d, .slice B' m' d'])
  rw [show (w.alloc (.cells #[.slice A n c, .slice A' n' c'] 25)).heap.size = w.heap.size + 1 from by simp] at HK2
  have HR := hide (h.below HB0.out (Nat.le_refl _))
  have HR2 := hide (h2.below HB0.out (Nat.le_refl _))
  have HX := hide (show BoxAt ((w.alloc (.cells #[.slice A n c, .slice A' n' c'] 25)).alloc (.cells #[.slice B m d, .slice B' m' d'] 25)) w.heap.size a from ⟨A, n, c, A', n', c', HK1.out, HR.out⟩)
  have HY := hide (show BoxAt ((w.alloc (.cells #[.slice A n c, .slice A' n' c'] 25)).alloc (.cells #[.slice B m d, .slice B' m' d'] 25)) (w.heap.size + 1) b from ⟨B, m, d, B', m', d', HK2.out, HR2.out⟩)
  clear h h2
  by_cases he : errX a = 0
  · have hee : (errX a != 0) = false := by simp [he]
    have HEA := hide he
    have HT := hide (show errTw a b = errX b from if_pos he)
    clear he
    by_cases he2 : errX b = 0
    · have hee2 : (errX b != 0) = false := by simp [he2]
      have HEB := hide he2
      have HOA := hide (okx_of HEA.out)
      have HOB := hide (okx_of he2)
      have HTF := hide (tellF_ok (HT.out.trans he2))
      clear he2
      go_enter Try.func39, Try.ntmps39
      go_wp2_with (first
        | (have hgd := B1; clear hgd; go_at_call 25; refine (Validate_any B m d B' m' d' b _ (HR2.out.below B1.out (Nat.le_refl _))).mono ?_; rintro e w2 ⟨rfl, b2⟩; have B2 := hide (le_call B1.out b2); clear b2)
        | (go_at_call 25; refine (Validate_any A n c A' n' c' a _ HR.out).mono ?_; rintro e w1 ⟨rfl, b1⟩; have f1 := bk_two (HK2.out.keep b1 HK2.out.in_); have B1 := hide b1; clear b1)
        | (go_at_call 80; refine (tell_any w.heap.size (w.heap.size + 1) a b 0 0 _ (HX.out.below B2.out (Nat.le_refl _)) (HY.out.below B2.out (Nat.le_refl _)) HOA.out HOB.out HOA.out.n1 HOB.out.n1).mono ?_; rintro e w3 ⟨A3, n3, c3, rfl, o3, b3⟩; have O3 := hide o3; have B3 := hide (le_call B2.out b3); clear o3 b3))
      rw [HT.out, HTF.out, HEB.out]
      refine bodyPost_ret (v := .tuple #[.slice A3 n3 c3, .bool (tellV a b 0 0).isSome, .int .i64 0]) (by simp [results, Try.results39, go_sem]) rfl ?_
      exact ⟨A3, n3, c3, rfl, O3.out.more (Nat.le_trans HB0.out.size B2.out.size), le_call HB0.out B3.out⟩
    · have hee2 : (errX b != 0) = true := by simp [he2]
      have HTF := hide (tellF_no (show ¬ errTw a b = 0 by rw [HT.out]; exact he2))
      clear he2
      go_enter Try.func39, Try.ntmps39
      go_wp2_with (first
        | (have hgd := B1; clear hgd; go_at_call 25; refine (Validate_any B m d B' m' d' b _ (HR2.out.below B1.out (Nat.le_refl _))).mono ?_; rintro e w2 ⟨rfl, b2⟩; have B2 := hide (le_call B1.out b2); clear b2)
        | (go_at_call 25; refine (Validate_any A n c A' n' c' a _ HR.out).mono ?_; rintro e w1 ⟨rfl, b1⟩; have f1 := bk_two (HK2.out.keep b1 HK2.out.in_); have B1 := hide b1; clear b1))
      rw [HT.out, HTF.out]
      refine bodyPost_ret (v := .tuple #[.slice none 0 0, .bool false, .int .i64 (errX b)]) (by simp [results, Try.results39, go_sem]) rfl ?_
      exact ⟨none, 0, 0, rfl, Own.nil _ _ _ _, le_call HB0.out B2.out⟩
  · have hee : (errX a != 0) = true := by simp [he]
    have HT := hide (show errTw a b = errX a from if_neg he)
    have HTF := hide (tellF_no (show ¬ errTw a b = 0 by rw [HT.out]; exact he))
    clear he
    go_enter Try.func39, Try.ntmps39
    go_wp2_with (go_at_call 25; refine (Validate_any A n c A' n' c' a _ HR.out).mono ?_; rintro e w1 ⟨rfl, b1⟩; have B1 := hide b1; clear b1)
    rw [HT.out, HTF.out]
    refine bodyPost_ret (v := .tuple #[.slice none 0 0, .bool false, .int .i64 (errX a)]) (by simp [results, Try.results39, go_sem]) rfl ?_
    exact ⟨none, 0, 0, rfl, Own.nil _ _ _ _, le_call HB0.out B1.out⟩
end Go.Proofs.Ytkjnhdkbojcojaa
