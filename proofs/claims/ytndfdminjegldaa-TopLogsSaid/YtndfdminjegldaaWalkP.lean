/- Walks: the document's tables of the ends of two logs. -/
import Derived.Test.YtndfdminjegldaaBth
import Derived.Test.YtndfdminjegldaaWalkC
import Derived.Deep.Cut
import Derived.Deep.CutRange
import Derived.Deep.LoopGhost
import Derived.Deep.RegionHeld3
namespace Go.Proofs.Ytndfdminjegldaa
open Go.RowKit Go.Shelf
attribute [local go_sem] Oper.semAt_some

set_option maxRecDepth 100000 in
set_option maxHeartbeats 1000000 in
theorem rchange_any (x y o i h : Int) (w : World) :
    Calls Try.prog 59 #[.int .i64 x, .int .i64 y, cV o i h] w fun e w' => e = .returned (.int .i64 (chg ⟨o, i, h⟩ x y)) ∧ Below w.heap.size w w' := by
  have B1 := hide ((Below.refl w.heap.size w).alloc (Nat.le_refl _) (.cells #[.int .i64 o, .int .i64 i, .int .i64 h] 24))
  by_cases hxy : x = y
  · have HK := hide (show chg ⟨o, i, h⟩ x y = 0 from if_pos hxy)
    have hb : (x == y) = true := by simpa using hxy
    clear hxy
    go_enter Try.func59, Try.ntmps59
    go_wp2_with fail
    go_ret
    exact ⟨ret_i64 HK.out.symm, B1.out⟩
  · have HK := hide (show chg ⟨o, i, h⟩ x y = h from if_neg hxy)
    have hb : (x == y) = false := by simpa using hxy
    clear hxy
    go_enter Try.func59, Try.ntmps59
    go_wp2_with fail
    go_ret
    exact ⟨ret_i64 HK.out.symm, B1.out⟩
def EndPost (l m : List Int) (c : Cst) (n n' : Nat) (w : World) (e : Ending) (w' : World) : Prop :=
  ∃ g8 c8 g9 c9 gs L gs' L', e = .returned (.tuple #[.slice (some ⟨g8, 0, none⟩) (n + 1) c8, .slice (some ⟨g9, 0, none⟩) (n + 1) c9]) ∧ Both w' w.heap.size (some ⟨g8, 0, none⟩) c8 (n + 1) (some ⟨g9, 0, none⟩) c9 (n + 1) (n' + 1) gs L gs' L' ∧ Dn l m c n n' L L' 0 0 ∧ Below w.heap.size w w'
set_option maxRecDepth 100000 in
set_option maxHeartbeats 16000000 in
theorem rends_any (A : Option Addr) (n c : Nat) (xs : List Int) (A' : Option Addr) (n' c' : Nat) (ys : List Int) (o i h : Int) (w : World) (hx : R E1 w A n c xs) (hy : R E1 w A' n' c' ys) (hn : n ≤ 10) (hn' : n' ≤ 10)
    (ho : 1 ≤ o ∧ o ≤ 9) (hi : 1 ≤ i ∧ i ≤ 9) (hh : 1 ≤ h ∧ h ≤ 9) :
    Calls Try.prog 69 #[.slice A n c, .slice A' n' c', cV o i h] w (EndPost xs ys ⟨o, i, h⟩ n n' w) := by
  have BX := hide ((Below.refl w.heap.size w).alloc (Nat.le_refl _) (.cells #[.int .i64 o, .int .i64 i, .int .i64 h] 24))
  have HBK := hide (Bk.born w 24 #[.int .i64 o, .int .i64 i, .int .i64 h])
  have HX := hide (hx.below BX.out (Nat.le_refl _))
  have HY := hide (hy.below BX.out (Nat.le_refl _))
  have HC := hide (show Cst.ok ⟨o, i, h⟩ from ⟨ho, hi, hh⟩)
  have HLX := hide hx.length
  have HLY := hide hy.length
  have hz : w.heap.size < (w.alloc (.cells #[.int .i64 o, .int .i64 i, .int .i64 h] 24)).heap.size := by simp
  clear hx hy
  go_enter Try.func69, Try.ntmps69
  go_wp2_with fail
  generalize w.alloc (.cells #[.int .i64 o, .int .i64 i, .int .i64 h] 24) = w0 at *
  go_loopw [8, 9, 10] (fun a8 a9 a10 wr => ∃ (t : Nat) (A8 : Option Addr) (c8 : Nat) (A9 : Option Addr) (c9 : Nat) (gs gs' : Nat → Nat) (L L' : Nat → List Int), t ≤ n + 1 ∧ a8 = .slice A8 t c8 ∧ a9 = .slice A9 t c9 ∧ a10 = .int .i64 t ∧ Hid (Both wr w0.heap.size A8 c8 t A9 c9 t (n' + 1) gs L gs' L') ∧ Hid (Below w0.heap.size w0 wr)) (fun _ _ a10 _ => n + 1 - (intOf a10).toNat)
  case atStart => exact ⟨0, none, 0, none, 0, fun _ => 0, fun _ => 0, fun _ => [], fun _ => [], Nat.zero_le _, rfl, rfl, rfl, hide (Both.nil0 ..), hide (Below.refl _ _)⟩
  case round =>
    obtain ⟨t, A8, c8, A9, c9, gs, gs', L, L', ht, rfl, rfl, rfl, HT, HB⟩ := hrel
    by_cases hlt : t < n + 1
    · have htn : (t : Int) ≤ (n : Int) := by omega
      have hsz := HB.out.size
      have hn2 : ((n' + 1 : Nat) : Int) = (n' : Int) + 1 := by omega
      go_wp2_with (first
        | (have hgd := T2; clear hgd; at_make; refine wpList_mkE (E := E1) w2 rfl (.tmp 34) (.tmp 34) 22 3 rfl Try.underlying22 (.int .i64 0) 0 8 info_int (by decide) rfl rfl rfl w0.heap.size (n' + 1) rfl rfl (by omega) B2.out.size ?_; intro w3 o3 b3 s3; have T3 := hide (T2.out.below b3 (Nat.le_refl _)); have O3 := hide o3; have B3 := hide (le_call B2.out b3); clear o3 b3)
        | (at_make; refine wpList_mkE (E := E1) wr rfl (.tmp 27) (.tmp 27) 22 3 rfl Try.underlying22 (.int .i64 0) 0 8 info_int (by decide) rfl rfl rfl w0.heap.size (n' + 1) rfl rfl (by omega) HB.out.size ?_; intro w1 o1 b1 s1; have T1 := hide (HT.out.below b1 (Nat.le_refl _)); have O1 := hide o1; have B1 := hide (le_call HB.out b1); clear o1 b1)
        | (have hgd := T3; clear hgd; at_builtin; refine wpList_app1L (E := EH) w3 (.slice none 0 0) 24 rfl (.tmp 31) (.tmp 36) 40 22 rfl Try.underlying40 info_row rfl (by decide) (by omega) w0.heap.size t c9 A9 (hdg gs' (n' + 1) t) (some ⟨w2.heap.size, 0, none⟩, n' + 1, n' + 1) _ rfl rfl rfl T3.out.b.hd (by omega) B3.out.size ?_; intro g4 d4 w4 o4 b4 r4 e4; have T4 := hide (T3.out.sw.addA O3.out (fun k hk e => by have := T2.out.b.lt hk; omega) (fun k hk e => by have := T2.out.a.lt hk; omega) o4 r4 e4); have B4 := hide (B3.out.trans b4); clear o4 b4 r4 e4)
        | (have hgd := T1; clear hgd; at_builtin; refine wpList_app1L (E := EH) w1 (.slice none 0 0) 24 rfl (.tmp 24) (.tmp 29) 40 22 rfl Try.underlying40 info_row rfl (by decide) (by omega) w0.heap.size t c8 A8 (hdg gs (n' + 1) t) (some ⟨wr.heap.size, 0, none⟩, n' + 1, n' + 1) _ rfl rfl rfl T1.out.a.hd (by omega) B1.out.size ?_; intro g2 d2 w2 o2 b2 r2 e2; have T2 := hide (T1.out.addA O1.out (fun k hk e => by have := HT.out.a.lt hk; omega) (fun k hk e => by have := HT.out.b.lt hk; omega) o2 r2 e2); have B2 := hide (B1.out.trans b2); clear o2 b2 r2 e2))
      go_roundw
      case rel => exact ⟨t + 1, _, _, _, _, _, _, _, _, by omega, rfl, rfl, by go_num, hide T4.out.sw, B4⟩
      case measure => simp [intOf]; omega
    · obtain rfl : t = n + 1 := by omega
      have htn : (n : Int) < ((n + 1 : Nat) : Int) := by omega
      obtain ⟨g8, rfl, _, hg8, hc8, hm8⟩ := HT.out.a.hd.addr (by omega)
      obtain ⟨g9, rfl, _, hg9, hc9, hm9⟩ := HT.out.b.hd.addr (by omega)
      have hc8' : c8 ≤ 9223372036854775807 := hm8
      have hc9' : c9 ≤ 9223372036854775807 := hm9
      have HT0 := hide HT.out
      have HB0 := hide HB.out
      clear hm8 hm9
      go_wp2_with fail
      go_loopw [11] (fun a11 wr => ∃ (t : Nat) (v : Int) (L L' : Nat → List Int), t ≤ n + 1 ∧ v + 1 = (t : Int) ∧ a11 = .int .i64 v ∧ Hid (Both wr w0.heap.size (some ⟨g8, 0, none⟩) c8 (n + 1) (some ⟨g9, 0, none⟩) c9 (n + 1) (n' + 1) gs L gs' L') ∧ Hid (Dn xs ys ⟨o, i, h⟩ n n' L L' t 0) ∧ Hid (Below w0.heap.size w0 wr)) (fun a11 _ => (intOf a11 + 1).toNat)
      case atStart => exact ⟨n + 1, n, L, L', Nat.le_refl _, by omega, rfl, HT0, hide (dn_start L L'), HB0⟩
      case round =>
        clear HT HB HT0 HB0
        obtain ⟨t, v, L, L', ht, hv, rfl, HT, HD, HB⟩ := hrel
        rcases Nat.eq_zero_or_pos t with h0 | h0
        · subst h0
          have hv0 : v < 0 := by omega
          go_wp2_with fail
          go_ret2
          exact ⟨g8, c8, g9, c9, gs, L, gs', L', rfl, ⟨HT.out.a.more (Nat.le_of_lt hz), HT.out.b.more (Nat.le_of_lt hz), HT.out.sep, HT.out.hs⟩, HD.out, BX.out.trans (HB.out.mono (Nat.le_of_lt hz))⟩
        · obtain ⟨r, rfl⟩ : ∃ r, t = r + 1 := ⟨t - 1, by omega⟩
          obtain rfl : v = (r : Int) := by omega
          have hr0 : (0 : Int) ≤ (r : Int) := by omega
          have HD1 := hide (dn_row HD.out)
          clear hv h0
          go_wp2_with fail
          go_loopw [12] (fun a12 wr => ∃ (t : Nat) (v : Int) (L L' : Nat → List Int), t ≤ n' + 1 ∧ v + 1 = (t : Int) ∧ a12 = .int .i64 v ∧ Hid (Both wr w0.heap.size (some ⟨g8, 0, none⟩) c8 (n + 1) (some ⟨g9, 0, none⟩) c9 (n + 1) (n' + 1) gs L gs' L') ∧ Hid (Dn xs ys ⟨o, i, h⟩ n n' L L' r t) ∧ Hid (Below w0.heap.size w0 wr)) (fun a12 _ => (intOf a12 + 1).toNat)
          case atStart => exact ⟨n' + 1, n', L, L', Nat.le_refl _, by omega, rfl, HT, HD1, HB⟩
          case round =>
            clear HT HB HD HD1
            obtain ⟨t2, v, L, L', ht2, hv, rfl, HT, HD, HB⟩ := hrel
            rcases Nat.eq_zero_or_pos t2 with h0 | h0
            · subst h0
              have hv0 : v < 0 := by omega
              go_wp2_with fail
              go_roundw
              case rel => exact ⟨r, (r : Int) - 1, L, L', by omega, by omega, by go_num, HT, HD, HB⟩
              case measure => simp [intOf]
            · obtain ⟨k, rfl⟩ : ∃ k, t2 = k + 1 := ⟨t2 - 1, by omega⟩
              obtain rfl : v = (k : Int) := by omega
              have hk0 : (0 : Int) ≤ (k : Int) := by omega
              have k0 := (HBK.out.keep HB.out hz).at_ 0
              have k1 := (HBK.out.keep HB.out hz).at_ 1
              simp at k0 k1
              have m1 := mulb (x := (n : Int) - (r : Int)) ho (by omega)
              have m2 := mulb (x := (n' : Int) - (k : Int)) hi (by omega)
              obtain ⟨P, hP⟩ : ∃ P, o * ((n : Int) - (r : Int)) = P := ⟨_, rfl⟩
              obtain ⟨Q, hQ⟩ : ∃ Q, i * ((n' : Int) - (k : Int)) = Q := ⟨_, rfl⟩
              rw [hP] at m1
              rw [hQ] at m2
              have HPQ := hide (show bsE xs ys ⟨o, i, h⟩ r k = P + Q from by unfold bsE; rw [HLX.out, HLY.out, ← hP, ← hQ])
              have q1 : IntKind.i64.wrap ((n : Int) - (r : Int)) = (n : Int) - (r : Int) := IntWalk.i64_in _ (by omega)
              have q2 : IntKind.i64.wrap (o * ((n : Int) - (r : Int))) = P := by rw [hP]; exact IntWalk.i64_in _ (by omega)
              have q3 : IntKind.i64.wrap ((n' : Int) - (k : Int)) = (n' : Int) - (k : Int) := IntWalk.i64_in _ (by omega)
              have q4 : IntKind.i64.wrap (i * ((n' : Int) - (k : Int))) = Q := by rw [hQ]; exact IntWalk.i64_in _ (by omega)
              clear hP hQ hv h0
              go_wp2_with fail
              clear q1 q2 q3 q4 k0 k1
              rename World => wm
              have hzr : w.heap.size < wm.heap.size := Nat.lt_of_lt_of_le hz HB.out.size
              have HX1 := hide (HX.out.below HB.out (Nat.le_refl _))
              have HY1 := hide (HY.out.below HB.out (Nat.le_refl _))
              have HBK1 := hide (HBK.out.keep HB.out hz)
              have hrn : r ≤ n := by omega
              have hkn : k ≤ n' := by omega
              have HRN := hide (show r ≤ xs.length from by rw [HLX.out]; exact hrn)
              have HKN := hide (show k ≤ ys.length from by rw [HLY.out]; exact hkn)
              have HL0 := hide (show LsTo xs ys ⟨o, i, h⟩ r k r k (P + Q) from by rw [← HPQ.out]; exact ls_start HRN.out HKN.out)
              have HZ0 := hide (show (1 : Int) = ctE xs ys ⟨o, i, h⟩ r k r k (P + Q) from by rw [← HPQ.out]; exact ct_start.symm)
              go_loopw [13, 14, 15] (fun a13 a14 a15 wq => ∃ (a : Nat) (x z : Int), r ≤ a ∧ a ≤ n ∧ a13 = .int .i64 x ∧ a14 = .int .i64 z ∧ a15 = .int .i64 a ∧ Hid (LsTo xs ys ⟨o, i, h⟩ r k a k x) ∧ Hid (z = ctE xs ys ⟨o, i, h⟩ r k a k x) ∧ Hid (Below wm.heap.size wm wq)) (fun _ _ a15 _ => n - (intOf a15).toNat)
              case atStart => exact ⟨r, P + Q, 1, Nat.le_refl _, hrn, rfl, rfl, rfl, HL0, HZ0, hide (Below.refl _ _)⟩
              case round =>
                clear HL0 HZ0 HPQ
                obtain ⟨a, x, z, hra, han, rfl, rfl, rfl, HLS, HZ, HQ⟩ := hrel
                by_cases hal : a < n
                · have haln : (a : Int) < (n : Int) := by omega
                  go_wp2_with fail
                  go_loopg [13, 14, 16] (n' - k) (fun gg a13 a14 a16 wq => ∃ (b : Nat) (x z : Int), k ≤ b ∧ b ≤ n' ∧ n' - b ≤ gg ∧ a13 = .int .i64 x ∧ a14 = .int .i64 z ∧ a16 = .int .i64 b ∧ Hid (LsTo xs ys ⟨o, i, h⟩ r k a b x) ∧ Hid (z = ctE xs ys ⟨o, i, h⟩ r k a b x) ∧ Hid (Below wm.heap.size wm wq))
                  case atStart => exact ⟨k, x, z, Nat.le_refl _, hkn, Nat.le_refl _, rfl, rfl, rfl, HLS, HZ, HQ⟩
                  case round =>
                    clear HLS HZ HQ
                    obtain ⟨b, x, z, hkb, hbn, hgg, rfl, rfl, rfl, HLS, HZ, HQ⟩ := hrel
                    by_cases hbl : b < n'
                    · have hbln : (b : Int) < (n' : Int) := by omega
                      have HT1 := hide (HT.out.below HQ.out (Nat.le_refl _))
                      obtain ⟨bx, ox, hrx⟩ := HX1.out.below HQ.out (Nat.le_refl _)
                      obtain rfl := hrx.at_ (by omega)
                      have hbx := hrx.lt (by omega)
                      have cx := c1 hrx hal
                      have hcx := hrx.cap
                      have hmx := hrx.max
                      obtain ⟨by', oy, hry⟩ := HY1.out.below HQ.out (Nat.le_refl _)
                      obtain rfl := hry.at_ (by omega)
                      have hby := hry.lt (by omega)
                      have cy := c1 hry hbl
                      have hcy := hry.cap
                      have hmy := hry.max
                      have n1 := HT1.out.a.head (k := a + 1) (by omega)
                      have n2 := HT1.out.a.cell (k := a + 1) (j := b + 1) (by omega) (by omega)
                      rw [(HD.out (a + 1) (b + 1) (by omega) (by omega) (.inl (by omega))).1] at n2
                      have hl8 := gtl HT1.out.a.hd
                      have hla := HT1.out.a.lt (k := a + 1) (by omega)
                      have hlc : w.heap.size < wr.heap.size := Nat.lt_of_lt_of_le hzr HQ.out.size
                      have kk0 := (HBK1.out.keep HQ.out hzr).at_ 0
                      have kk1 := (HBK1.out.keep HQ.out hzr).at_ 1
                      have kk2 := (HBK1.out.keep HQ.out hzr).at_ 2
                      simp at kk0 kk1 kk2
                      have bc := chg_bd HC.out (xs.getD a 0) (ys.getD b 0)
                      have bl := ld_bd (l := xs) (m := ys) HC.out (by rw [HLX.out]; exact hn) (by rw [HLY.out]; exact hn') (a + 1) (b + 1)
                      have m1 := mulb (x := (a : Int) - (r : Int)) ho (by omega)
                      have m2 := mulb (x := (b : Int) - (k : Int)) hi (by omega)
                      obtain ⟨P1, hP⟩ : ∃ P, o * ((a : Int) - (r : Int)) = P := ⟨_, rfl⟩
                      obtain ⟨Q1, hQ⟩ : ∃ Q, i * ((b : Int) - (k : Int)) = Q := ⟨_, rfl⟩
                      rw [hP] at m1
                      rw [hQ] at m2
                      obtain ⟨V, hV⟩ : ∃ V, P1 + Q1 + chg ⟨o, i, h⟩ (xs.getD a 0) (ys.getD b 0) + ld xs ys ⟨o, i, h⟩ (a + 1) (b + 1) = V := ⟨_, rfl⟩
                      have HVE := hide (show vlE xs ys ⟨o, i, h⟩ r k a b = V from by unfold vlE; simp only; rw [hP, hQ, hV])
                      have q1 : IntKind.i64.wrap ((a : Int) - (r : Int)) = (a : Int) - (r : Int) := IntWalk.i64_in _ (by omega)
                      have q2 : IntKind.i64.wrap (o * ((a : Int) - (r : Int))) = P1 := by rw [hP]; exact IntWalk.i64_in _ (by omega)
                      have q3 : IntKind.i64.wrap ((b : Int) - (k : Int)) = (b : Int) - (k : Int) := IntWalk.i64_in _ (by omega)
                      have q4 : IntKind.i64.wrap (i * ((b : Int) - (k : Int))) = Q1 := by rw [hQ]; exact IntWalk.i64_in _ (by omega)
                      have HCH := hide (fun W => rchange_any (xs.getD a 0) (ys.getD b 0) o i h W)
                      have HND := hide (nd_bd xs ys ⟨o, i, h⟩ (by rw [HLX.out]; exact hn) (by rw [HLY.out]; exact hn') (a + 1) (b + 1))
                      have HCB := hide (fun x => ct_bd (l := xs) (m := ys) (c := ⟨o, i, h⟩) (i := r) (j := k) (a := a) (b := b) (x := x) (by rw [HLX.out]; exact hn) (by rw [HLY.out]; exact hn') hra (by omega) HKN.out hkb (by omega))
                      generalize chg ⟨o, i, h⟩ (xs.getD a 0) (ys.getD b 0) = ch at *
                      generalize xs.getD a 0 = u at *
                      generalize ys.getD b 0 = v at *
                      generalize ld xs ys ⟨o, i, h⟩ (a + 1) (b + 1) = D at *
                      have q5 : IntKind.i64.wrap (P1 + Q1) = P1 + Q1 := IntWalk.i64_in _ (by omega)
                      have q6 : IntKind.i64.wrap (P1 + Q1 + ch) = P1 + Q1 + ch := IntWalk.i64_in _ (by omega)
                      have q7 : IntKind.i64.wrap (P1 + Q1 + ch + D) = V := by rw [hV]; exact IntWalk.i64_in _ (by omega)
                      have i0 : (0 : Int) ≤ (a : Int) + 1 := by omega
                      have i1 : (a : Int) + 1 < (n : Int) + 1 := by omega
                      have i2 : ((a : Int) + 1).toNat = a + 1 := by omega
                      have i3 : IntKind.i64.wrap ((a : Int) + 1) = (a : Int) + 1 := IntWalk.i64_in _ (by omega)
                      have j0 : (0 : Int) ≤ (b : Int) + 1 := by omega
                      have j1 : (b : Int) + 1 < (n' : Int) + 1 := by omega
                      have j2 : ((b : Int) + 1).toNat = b + 1 := by omega
                      have j3 : IntKind.i64.wrap ((b : Int) + 1) = (b : Int) + 1 := IntWalk.i64_in _ (by omega)
                      clear hP hQ hV hrx hry
                      go_upto_region 20 with fail
                      go_cut [17] from 73 to 130 (fun a17 wx => a17 = .int .i64 V ∧ Hid (Below wm.heap.size wm wx))
                      case first =>
                        go_region_held3 (fun w' => w'.cell? ⟨w.heap.size, 0, none⟩ = some (.int .i64 o) ∧ w'.cell? ⟨w.heap.size, 1, none⟩ = some (.int .i64 i) ∧ w'.cell? ⟨w.heap.size, 2, none⟩ = some (.int .i64 h) ∧ w'.cell? ⟨bx, ox + a, none⟩ = some (.int .i64 u) ∧ w'.cell? ⟨by', oy + b, none⟩ = some (.int .i64 v) ∧ w'.cell? ⟨g8, a + 1, none⟩ = some (.slice (some ⟨gs (a + 1), 0, none⟩) (n' + 1) (n' + 1)) ∧ w'.cell? ⟨gs (a + 1), b + 1, none⟩ = some (.int .i64 D))
                          (first
                            | go_keep
                            | (go_split_ands
                               refine ⟨?_, ?_, ?_, ?_, ?_, ?_, ?_⟩ <;> (rw [hb8.cell (by simp; omega)]; assumption)))
                          (first
                            | (go_at_call 59; refine (HCH.out _).mono ?_; rintro e8 w8 ⟨rfl, hb8⟩))
                        all_goals
                          go_wp2_with fail
                          go_meet
                          exact ⟨rfl, hide (HQ.out.drew.trans (hb8.mono HQ.out.size))⟩
                      case rest =>
                        obtain ⟨rfl, HQ2⟩ := hcut
                        have HTT := hide (HT.out.below HQ2.out (Nat.le_refl _))
                        clear HT1 n1 n2 q1 q2 q3 q4 q5 q6 q7 cx cy kk0 kk1 kk2 HQ hl8 hla hlc hbx hby
                        have n1 := HTT.out.b.head (k := a + 1) (by omega)
                        have n2 := HTT.out.b.cell (k := a + 1) (j := b + 1) (by omega) (by omega)
                        rw [(HD.out (a + 1) (b + 1) (by omega) (by omega) (.inl (by omega))).2] at n2
                        have bN := HND.out
                        by_cases hv : V < x
                        · have HL2 := hide (show LsTo xs ys ⟨o, i, h⟩ r k a (b + 1) V from by rw [← HVE.out]; exact ls_less HLS.out (by rw [HVE.out]; exact hv) hra (by rw [HLX.out]; exact hal) hkb (by rw [HLY.out]; exact hbl))
                          have HZ2 := hide (show nd xs ys ⟨o, i, h⟩ (a + 1) (b + 1) = ctE xs ys ⟨o, i, h⟩ r k a (b + 1) V from by rw [ct_eq hkb HVE.out, ct_less HLS.out hra (by rw [HLY.out]; exact hbn) hv]; omega)
                          clear HLS HZ
                          generalize nd xs ys ⟨o, i, h⟩ (a + 1) (b + 1) = N at *
                          have w0' : IntKind.i64.wrap (0 + N) = N := by rw [Int.zero_add]; exact IntWalk.i64_in _ (by omega)
                          have w1' : IntKind.i64.wrap N = N := IntWalk.i64_in _ (by omega)
                          go_wp2_with fail
                          go_roundg (n' - (b + 1))
                          case measure => omega
                          case rel => exact ⟨b + 1, V, N, by omega, by omega, Nat.le_refl _, rfl, rfl, by go_num, HL2, HZ2, HQ2⟩
                        · have hv' : x ≤ V := by omega
                          have HL2 := hide (show LsTo xs ys ⟨o, i, h⟩ r k a (b + 1) x from ls_more HLS.out (by rw [HVE.out]; exact hv))
                          by_cases hve : V = x
                          · have hvb : (V == x) = true := by simpa using hve
                            have HZ2 := hide (show z + nd xs ys ⟨o, i, h⟩ (a + 1) (b + 1) = ctE xs ys ⟨o, i, h⟩ r k a (b + 1) x from by rw [ct_eq hkb (by rw [HVE.out]; exact hve), HZ.out])
                            have bz := HCB.out x
                            rw [← HZ.out] at bz
                            clear HLS HZ hve
                            generalize nd xs ys ⟨o, i, h⟩ (a + 1) (b + 1) = N at *
                            have w1' : IntKind.i64.wrap (z + N) = z + N := IntWalk.i64_in _ (by omega)
                            go_wp2_with fail
                            go_roundg (n' - (b + 1))
                            case measure => omega
                            case rel => exact ⟨b + 1, x, z + N, by omega, by omega, Nat.le_refl _, rfl, rfl, by go_num, HL2, HZ2, HQ2⟩
                          · have hvb : (V == x) = false := by simpa using hve
                            have HZ2 := hide (show z = ctE xs ys ⟨o, i, h⟩ r k a (b + 1) x from by rw [ct_ne hkb (by rw [HVE.out]; exact hve), HZ.out])
                            clear HLS HZ hve n1 n2
                            go_wp2_with fail
                            go_roundg (n' - (b + 1))
                            case measure => omega
                            case rel => exact ⟨b + 1, x, z, by omega, by omega, Nat.le_refl _, rfl, rfl, by go_num, HL2, HZ2, HQ2⟩
                    · obtain rfl : b = n' := by omega
                      have HLE := hide (ls_row (show LsTo xs ys ⟨o, i, h⟩ r k a ys.length x from by rw [HLY.out]; exact HLS.out))
                      have HZE := hide (show z = ctE xs ys ⟨o, i, h⟩ r k (a + 1) k x from by rw [HZ.out, ← HLY.out]; exact ct_row hra)
                      go_wp2_with fail
                      go_roundw
                      case rel => exact ⟨a + 1, x, z, by omega, by omega, rfl, rfl, by go_num, HLE, HZE, HQ⟩
                      case measure => simp [intOf]; omega
                · obtain rfl : a = n := by omega
                  have HXE := hide (show x = ld xs ys ⟨o, i, h⟩ r k from ls_end (by rw [HLX.out]; exact HLS.out) HRN.out HKN.out)
                  have HZE := hide (show z = nd xs ys ⟨o, i, h⟩ r k from by rw [HZ.out, HXE.out, ← HLX.out]; exact ct_end HRN.out HKN.out)
                  have HT1 := hide (HT.out.below HQ.out (Nat.le_refl _))
                  have m1 := HT1.out.a.head (k := r) (by omega)
                  have m2 := HT1.out.a.cell (k := r) (j := k) (by omega) (by omega)
                  have f2 := HT1.out.a.frozen (k := r) (by omega) k
                  have l2 := HT1.out.a.lt (k := r) (by omega)
                  have e2 := HT1.out.a.ge (k := r) (by omega)
                  have T2 := hide (HT1.out.setA (k := r) (j := k) (by omega) (by omega) x)
                  have B2 := hide ((HB.out.trans (HQ.out.mono HB.out.size)).setCell (p := ⟨gs r, k, none⟩) e2 (.int .i64 x))
                  have m3 := T2.out.b.head (k := r) (by omega)
                  have m4 := T2.out.b.cell (k := r) (j := k) (by omega) (by omega)
                  have f4 := T2.out.b.frozen (k := r) (by omega) k
                  have l4 := T2.out.b.lt (k := r) (by omega)
                  have e4 := T2.out.b.ge (k := r) (by omega)
                  have T4 := hide (T2.out.setB (k := r) (j := k) (by omega) (by omega) z)
                  have B4 := hide (B2.out.setCell (p := ⟨gs' r, k, none⟩) e4 (.int .i64 z))
                  have HLL := hide (HT.out.a.ro r (by omega)).len
                  have HLL' := hide (HT.out.b.ro r (by omega)).len
                  have HD4 := hide (dn_set HD.out hkn HLL.out HLL'.out)
                  rw [← HXE.out, ← HZE.out] at HD4
                  go_wp2_with fail
                  go_roundw
                  case rel => exact ⟨k, (k : Int) - 1, _, _, by omega, by omega, by go_num, T4, HD4, B4⟩
                  case measure => simp [intOf]
set_option maxRecDepth 100000 in
set_option maxHeartbeats 4000000 in
theorem rdistance_any (A : Option Addr) (n c : Nat) (xs : List Int) (A' : Option Addr) (n' c' : Nat) (ys : List Int) (o i h : Int) (w : World) (hx : R E1 w A n c xs) (hy : R E1 w A' n' c' ys) (hn : n ≤ 10) (hn' : n' ≤ 10)
    (ho : 1 ≤ o ∧ o ≤ 9) (hi : 1 ≤ i ∧ i ≤ 9) (hh : 1 ≤ h ∧ h ≤ 9) :
    Calls Try.prog 62 #[.slice A n c, .slice A' n' c', cV o i h] w fun e w' => e = .returned (.int .i64 (dist xs ys ⟨o, i, h⟩)) ∧ Below w.heap.size w w' := by
  have BX := hide ((Below.refl w.heap.size w).alloc (Nat.le_refl _) (.cells #[.int .i64 o, .int .i64 i, .int .i64 h] 24))
  have HX := hide (hx.below BX.out (Nat.le_refl _))
  have HY := hide (hy.below BX.out (Nat.le_refl _))
  clear hx hy
  go_enter Try.func62, Try.ntmps62
  go_wp2_with (go_at_call 69; refine (rends_any A n c xs A' n' c' ys o i h _ HX.out HY.out hn hn' ho hi hh).mono ?_; rintro e1 w1 ⟨g8, c8, g9, c9, gs, L, gs', L', rfl, t1, d1, b1⟩; have B1 := hide (le_call BX.out b1); have m1 := t1.a.head (k := 0) (by omega); have m2 := t1.a.cell (k := 0) (j := 0) (by omega) (by omega); rw [(d1 0 0 (by omega) (by omega) (.inr ⟨rfl, Nat.le_refl _⟩)).1, ld_zero] at m2; clear t1 d1 b1)
  go_ret
  exact ⟨rfl, B1.out⟩
set_option maxRecDepth 100000 in
set_option maxHeartbeats 4000000 in
theorem rDistance_any (A : Option Addr) (n c : Nat) (xs : List Int) (A' : Option Addr) (n' c' : Nat) (ys : List Int) (o i h : Int) (w : World) (hx : R E1 w A n c xs) (hy : R E1 w A' n' c' ys) :
    Calls Try.prog 27 #[.slice A n c, .slice A' n' c', cV o i h] w fun e w' => e = .returned (.tuple #[.int .i64 (distV xs ys ⟨o, i, h⟩), .int .i64 (errD xs ys ⟨o, i, h⟩)]) ∧ Below w.heap.size w w' := by
  have BX := hide ((Below.refl w.heap.size w).alloc (Nat.le_refl _) (.cells #[.int .i64 o, .int .i64 i, .int .i64 h] 24))
  have HBK := hide (Bk.born w 24 #[.int .i64 o, .int .i64 i, .int .i64 h])
  have HX := hide (hx.below BX.out (Nat.le_refl _))
  have HY := hide (hy.below BX.out (Nat.le_refl _))
  have hz : w.heap.size < (w.alloc (.cells #[.int .i64 o, .int .i64 i, .int .i64 h] 24)).heap.size := by simp
  by_cases he : errD xs ys ⟨o, i, h⟩ = 0
  · have HE := hide he
    have HV := hide (distV_ok he)
    obtain ⟨h1, h2, h3⟩ := errD_ok.1 he
    have hn : n ≤ 10 := by rw [← hx.length]; exact (errL_ok.1 h1).1
    have hn' : n' ≤ 10 := by rw [← hy.length]; exact (errL_ok.1 h2).1
    obtain ⟨ho, hi, hh⟩ := h3
    simp only at ho hi hh
    clear hx hy he h1 h2
    go_enter Try.func27, Try.ntmps27
    go_wp2_with (first
      | (go_at_call 57; refine (rcosted_any A n c xs A' n' c' ys o i h _ HX.out HY.out).mono ?_; rintro e1 w1 ⟨rfl, b1⟩; rw [HE.out]; have B1 := hide b1; clear b1; have k0 := (HBK.out.keep B1.out hz).at_ 0; have k1 := (HBK.out.keep B1.out hz).at_ 1; have k2 := (HBK.out.keep B1.out hz).at_ 2; simp at k0 k1 k2)
      | (go_at_call 62; refine (rdistance_any A n c xs A' n' c' ys o i h _ (HX.out.below B1.out (Nat.le_refl _)) (HY.out.below B1.out (Nat.le_refl _)) hn hn' ho hi hh).mono ?_; rintro e2 w2 ⟨rfl, b2⟩; have B2 := hide b2; clear b2))
    go_ret2
    exact ⟨by rw [HV.out, HE.out]; rfl, le_call (le_call BX.out B1.out) B2.out⟩
  · have HV := hide (distV_no he)
    have hne : (errD xs ys ⟨o, i, h⟩ != 0) = true := by simpa using he
    clear hx hy he
    go_enter Try.func27, Try.ntmps27
    go_wp2_with (go_at_call 57; refine (rcosted_any A n c xs A' n' c' ys o i h _ HX.out HY.out).mono ?_; rintro e1 w1 ⟨rfl, b1⟩; have B1 := hide b1; clear b1)
    go_ret2
    exact ⟨by rw [HV.out]; rfl, le_call BX.out B1.out⟩
set_option maxRecDepth 100000 in
set_option maxHeartbeats 4000000 in
theorem rCount_any (A : Option Addr) (n c : Nat) (xs : List Int) (A' : Option Addr) (n' c' : Nat) (ys : List Int) (o i h : Int) (w : World) (hx : R E1 w A n c xs) (hy : R E1 w A' n' c' ys) :
    Calls Try.prog 31 #[.slice A n c, .slice A' n' c', cV o i h] w fun e w' => e = .returned (.tuple #[.int .i64 (cntV xs ys ⟨o, i, h⟩), .int .i64 (errD xs ys ⟨o, i, h⟩)]) ∧ Below w.heap.size w w' := by
  have BX := hide ((Below.refl w.heap.size w).alloc (Nat.le_refl _) (.cells #[.int .i64 o, .int .i64 i, .int .i64 h] 24))
  have HBK := hide (Bk.born w 24 #[.int .i64 o, .int .i64 i, .int .i64 h])
  have HX := hide (hx.below BX.out (Nat.le_refl _))
  have HY := hide (hy.below BX.out (Nat.le_refl _))
  have hz : w.heap.size < (w.alloc (.cells #[.int .i64 o, .int .i64 i, .int .i64 h] 24)).heap.size := by simp
  by_cases he : errD xs ys ⟨o, i, h⟩ = 0
  · have HE := hide he
    have HV := hide (show cntV xs ys ⟨o, i, h⟩ = cntD xs ys ⟨o, i, h⟩ from by rw [cntV_ok he, cntD_cq])
    obtain ⟨h1, h2, h3⟩ := errD_ok.1 he
    have hn : n ≤ 10 := by rw [← hx.length]; exact (errL_ok.1 h1).1
    have hn' : n' ≤ 10 := by rw [← hy.length]; exact (errL_ok.1 h2).1
    obtain ⟨ho, hi, hh⟩ := h3
    simp only at ho hi hh
    clear hx hy he h1 h2
    go_enter Try.func31, Try.ntmps31
    go_wp2_with (first
      | (go_at_call 57; refine (rcosted_any A n c xs A' n' c' ys o i h _ HX.out HY.out).mono ?_; rintro e1 w1 ⟨rfl, b1⟩; rw [HE.out]; have B1 := hide b1; clear b1; have k0 := (HBK.out.keep B1.out hz).at_ 0; have k1 := (HBK.out.keep B1.out hz).at_ 1; have k2 := (HBK.out.keep B1.out hz).at_ 2; simp at k0 k1 k2)
      | (go_at_call 69; refine (rends_any A n c xs A' n' c' ys o i h _ (HX.out.below B1.out (Nat.le_refl _)) (HY.out.below B1.out (Nat.le_refl _)) hn hn' ho hi hh).mono ?_; rintro e1 w2 ⟨g8, c8, g9, c9, gs, L, gs', L', rfl, t1, d1, b1⟩; have B2 := hide b1; have m1 := t1.b.head (k := 0) (by omega); have m2 := t1.b.cell (k := 0) (j := 0) (by omega) (by omega); rw [(d1 0 0 (by omega) (by omega) (.inr ⟨rfl, Nat.le_refl _⟩)).2, show nd xs ys ⟨o, i, h⟩ 0 0 = cntD xs ys ⟨o, i, h⟩ from rfl] at m2; clear t1 d1 b1))
    go_ret2
    exact ⟨by rw [HV.out, HE.out]; rfl, le_call (le_call BX.out B1.out) B2.out⟩
  · have HV := hide (cntV_no he)
    have hne : (errD xs ys ⟨o, i, h⟩ != 0) = true := by simpa using he
    clear hx hy he
    go_enter Try.func31, Try.ntmps31
    go_wp2_with (go_at_call 57; refine (rcosted_any A n c xs A' n' c' ys o i h _ HX.out HY.out).mono ?_; rintro e1 w1 ⟨rfl, b1⟩; have B1 := hide b1; clear b1)
    go_ret2
    exact ⟨by rw [HV.out]; rfl, le_call BX.out B1.out⟩
end Go.Proofs.Ytndfdminjegldaa
