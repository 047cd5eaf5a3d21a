/- Walks: the table is filled. -/
import Derived.Test.YtndfdminjegldaaWalkE
import Derived.Test.YtndfdminjegldaaMF
import Derived.Deep.Cut
import Derived.Deep.CutRange
import Derived.Deep.LoopGhost
namespace Go.Proofs.Ytndfdminjegldaa
open Go.RowKit Go.Shelf
attribute [local go_sem] Oper.semAt_some

theorem R.none {w : World} (A : Option Addr) (c : Nat) (hc : c ≤ 9223372036854775807) : R E1 w A 0 c [] := ⟨0, 0, rfl, by omega, hc, fun h => by omega, fun h => by omega, fun k hk => by omega⟩
theorem RAt.front {w : World} {b off n c : Nat} {xs : List Int} (h : RAt E1 w (some ⟨b, off, none⟩) n c xs b off) {t : Nat} (ht : t ≤ n) : R E1 w (some ⟨b, off, none⟩) t c (xs.take t) := by
  have := h.sub (i := 0) (m := t) (by omega)
  simpa using this
theorem R.front {w : World} {A : Option Addr} {n c : Nat} {xs : List Int} (h : R E1 w A n c xs) {t : Nat} (ht : t ≤ n) : R E1 w A t c (xs.take t) := by
  obtain ⟨b, off, hr⟩ := h
  have hl := hr.len
  have hcn := hr.cap
  refine ⟨b, off, by rw [List.length_take]; omega, by omega, hr.max, fun h => hr.at_ (by omega), fun h => hr.lt (by omega), fun k hk j hj => ?_⟩
  rw [hr.cell k (by omega) j hj]
  have : (xs.take t).getD k E1.d = xs.getD k E1.d := by
    rw [List.getD_eq_getElem?_getD, List.getD_eq_getElem?_getD, List.getElem?_take, if_pos hk]
  rw [this]
theorem ownE {w : World} {B n c g : Nat} {e : TypeId} {L : List Int} (h : Own EI w B e (some ⟨g, 0, none⟩) n c L) {k : Nat} (hk : k < n) : w.cell? ⟨g, k, none⟩ = some (ival (L.getD k 0)) := by
  have h1 := h.cell (j := 0) hk (by decide)
  rw [show k * EI.size + 0 = k from Nat.mul_one k] at h1
  exact h1
theorem prc_bd (x : Int) (c : Cst) (e : Int) : x + prc c.o c.i c.h e = x + (if e = 0 then c.o else if e = 1 then c.i else if e = 3 then 0 else c.h) := rfl
def DisPost (l m : List Int) (c : Cst) (n n' : Nat) (w : World) (e : Ending) (w' : World) : Prop :=
  ∃ gO gC L, e = .returned (.slice (some ⟨gO, 0, none⟩) (n + 1) (n + 1)) ∧ Tab w' w.heap.size gO gC (n + 1) (n' + 1) L ∧ (∀ r k, r ≤ n → k ≤ n' → L.getD (r * (n' + 1) + k) 0 = dd l m c r k) ∧ Below w.heap.size w w'
set_option maxRecDepth 100000 in
set_option maxHeartbeats 16000000 in
theorem distances_any (A : Option Addr) (n c : Nat) (xs : List Int) (A' : Option Addr) (n' c' : Nat) (ys : List Int) (o i h : Int) (w : World) (hx : R E1 w A n c xs) (hy : R E1 w A' n' c' ys) (hn : n ≤ 10) (hn' : n' ≤ 10)
    (ho : 1 ≤ o ∧ o ≤ 9) (hi : 1 ≤ i ∧ i ≤ 9) (hh : 1 ≤ h ∧ h ≤ 9) :
    Calls Try.prog 63 #[.slice A n c, .slice A' n' c', cV o i h] w (DisPost xs ys ⟨o, i, h⟩ n n' w) := by
  have BX := hide ((Below.refl w.heap.size w).alloc (Nat.le_refl _) (.cells #[.int .i64 o, .int .i64 i, .int .i64 h] 24))
  have HBK := hide (Bk.born w 24 #[.int .i64 o, .int .i64 i, .int .i64 h])
  have HX := hide (hx.below BX.out (Nat.le_refl _))
  have HY := hide (hy.below BX.out (Nat.le_refl _))
  have HC := hide (show Cst.ok ⟨o, i, h⟩ from ⟨ho, hi, hh⟩)
  have hz : w.heap.size < (w.alloc (.cells #[.int .i64 o, .int .i64 i, .int .i64 h] 24)).heap.size := by simp
  have hle := hx.le
  have hle' := hy.le
  clear hx hy
  go_enter Try.func63, Try.ntmps63
  go_upto_region 2 with (go_at_call 67; refine (zeros_any (n + 1) (n' + 1) _ (by omega) (by omega) (by omega) (by omega)).mono ?_; rintro e1 w1 ⟨gO, gC, rfl, t1, b1⟩; have T1 := hide t1; have B1 := hide b1; clear t1 b1)
  generalize w.alloc (.cells #[.int .i64 o, .int .i64 i, .int .i64 h] 24) = w0 at *
  have HT1 := hide T1.out
  have HBK0 := HBK
  go_wp2_with fail
  go_loopw [22] (fun iv wr => ∃ (t : Nat) (L : List Int), t ≤ n + 1 ∧ iv = .int .i64 t ∧ Hid (Tab wr w0.heap.size gO gC (n + 1) (n' + 1) L) ∧ Hid (FilTo xs ys ⟨o, i, h⟩ L (n + 1) (n' + 1) t 0) ∧ Hid (Below w0.heap.size w0 wr)) (fun iv _ => n + 1 - (intOf iv).toNat)
  case atStart => exact ⟨0, _, Nat.zero_le _, rfl, T1, hide fil_zero, B1⟩
  case round =>
    obtain ⟨t, L, ht, rfl, HT, HF, HB⟩ := hrel
    by_cases hlt : t < n + 1
    · have hd := HT.out.head hlt
      have htn : (t : Int) < (n : Int) + 1 := by omega
      go_wp2_with fail
      go_loopg [30] (n' + 1) (fun gg s30 wr => ∃ (s : Nat) (L : List Int), s ≤ n' + 1 ∧ s30 = .int .i64 s ∧ n' + 1 - s ≤ gg ∧ Hid (Tab wr w0.heap.size gO gC (n + 1) (n' + 1) L) ∧ Hid (FilTo xs ys ⟨o, i, h⟩ L (n + 1) (n' + 1) t s) ∧ Hid (Below w0.heap.size w0 wr))
      case atStart => exact ⟨0, L, Nat.zero_le _, rfl, by omega, HT, HF, HB⟩
      case round =>
        clear HT HF HB hd
        obtain ⟨s, L, hs, rfl, hgg, HT, HF, HB⟩ := hrel
        by_cases hls : s < n' + 1
        · have hsn : (s : Int) < (n' : Int) + 1 := by omega
          go_upto_region 8 with fail
          go_cut [30, 39, 40, 41] from 30 to 73 (fun a30 a39 a40 a41 wx => a30 = .int .i64 s ∧ a41 = .int .i64 0 ∧ ∃ (Ae : Option Addr) (ne ce : Nat), a39 = .slice Ae ne ce ∧ a40 = .int .i64 ne ∧ Hid (Own EI wx w0.heap.size 71 Ae ne ce (eds xs ys t s)) ∧ Hid (Tab wx w0.heap.size gO gC (n + 1) (n' + 1) L) ∧ Hid (Below w0.heap.size w0 wx))
          case first =>
            have htc : (t : Int) ≤ (c : Int) := by obtain ⟨_, _, hr⟩ := HX.out; have := hr.cap; omega
            have hsc : (s : Int) ≤ (c' : Int) := by obtain ⟨_, _, hr⟩ := HY.out; have := hr.cap; omega
            have HXT := hide ((HX.out.below HB.out.drew (Nat.le_refl _)).front (t := t) (by omega))
            have HYT := hide ((HY.out.below HB.out.drew (Nat.le_refl _)).front (t := s) (by omega))
            cases A <;> cases A'
            all_goals
              go_region_with (go_at_call 84; refine (edits_any _ t c (xs.take t) _ s c' (ys.take s) _ HXT.out HYT.out (by omega) (by omega)).mono ?_; rw [eds_take]; rintro e5 w5 ⟨Ae, ne, ce, rfl, o5, b5⟩; have O5 := hide (o5.more (Nat.le_trans HB.out.size (Nat.le_refl _))); have B5 := hide (le_call HB.out.drew b5); have T5 := hide (HT.out.drew.below b5 (Nat.le_refl _)); clear o5 b5)
              all_goals
                go_wp2_with fail
                go_meet
                exact ⟨rfl, rfl, Ae, ne, ce, rfl, rfl, O5, T5, B5⟩
          case rest =>
          obtain ⟨rfl, rfl, Ae, ne, ce, rfl, rfl, OE, HT2, HB2⟩ := hcut
          have HF2 := hide (in_start HF.out)
          have hne := OE.out.len
          have hne3 := eds_len xs ys t s
          rw [hne] at hne3
          have HNE := hide hne
          clear HT HB HF hne
          go_wp2_with fail
          go_loopw [41] (fun a41 wr => ∃ (u : Nat) (L : List Int), u ≤ ne ∧ a41 = .int .i64 u ∧ Hid (Tab wr w0.heap.size gO gC (n + 1) (n' + 1) L) ∧ Hid (InTo xs ys ⟨o, i, h⟩ L (n + 1) (n' + 1) t s u) ∧ Hid (Own EI wr w0.heap.size 71 Ae ne ce (eds xs ys t s)) ∧ Hid (Below w0.heap.size w0 wr)) (fun a41 _ => ne - (intOf a41).toNat)
          case atStart => exact ⟨0, L, Nat.zero_le _, rfl, HT2, HF2, OE, HB2⟩
          case round =>
            clear HT2 HF2 OE HB2
            obtain ⟨u, L, hu, rfl, HT, HF, OE, HB⟩ := hrel
            by_cases hlu : u < ne
            · obtain ⟨ge, rfl, hge, hge2, hge3, hge4⟩ := OE.out.addr (by omega)
              have heo := eds_ok (l := xs) (m := ys) (r := t) (k := s) (t := u) (by rw [HNE.out]; exact hlu)
              have hce := ownE OE.out hlu
              have HBD := hide (bdF_bd (l := xs) (m := ys) (t := t) (s := s) (u := u) HC.out (by rw [HNE.out]; exact hlu) (by omega) (by omega))
              have HIB := hide (in_bd HF.out hlt hls heo)
              have HIH := hide (in_here HF.out hlt hls)
              have hbf := bf_le heo
              have HIX := hide (in_before HF.out hlt hls heo)
              have HDB := hide (dd_bd (l := xs) (m := ys) HC.out (bfR t ((eds xs ys t s).getD u 0)) (bfK s ((eds xs ys t s).getD u 0)))
              have HH1 := hide (HT.out.head (r := bfR t ((eds xs ys t s).getD u 0)) (by omega))
              have HH2 := hide (HT.out.cell (r := bfR t ((eds xs ys t s).getD u 0)) (k := bfK s ((eds xs ys t s).getD u 0)) (by omega) (by omega))
              have HEO := hide heo
              have HLE := hide (fun hn => in_less HF.out hn)
              have HTK := hide (fun L' hn hL => in_take (L' := L') HF.out hn hL)
              have hev : bdF xs ys ⟨o, i, h⟩ t s u = bd ⟨o, i, h⟩ (dd xs ys ⟨o, i, h⟩) t s ((eds xs ys t s).getD u 0) := rfl
              have HEV := hide hev
              generalize (eds xs ys t s).getD u 0 = e at *
              have k0 := (HBK.out.keep HB.out hz).at_ 0
              have k1 := (HBK.out.keep HB.out hz).at_ 1
              have k2 := (HBK.out.keep HB.out hz).at_ 2
              simp at k0 k1 k2
              have hun : (u : Int) < (ne : Int) := by omega
              have hge5 : ce ≤ 9223372036854775807 := hge4
              have hgC := HT.out.gC_lt
              have hgC2 := HT.out.gC_ge
              have hfz := HT.out.ce.frozen (t * (n' + 1) + s)
              have hsn2 : (s : Int) < (n' : Int) + 1 := by omega
              clear hev heo hge4
              by_cases hu0 : u = 0 ∨ bdF xs ys ⟨o, i, h⟩ t s u < pm (bdF xs ys ⟨o, i, h⟩ t s) u
              · have HU0 := hide hu0
                by_cases hu1 : u = 0
                · have hub : ((u : Int) == 0) = true := by simp [hu1]
                  clear hu0 hu1
                  go_wp2_with (go_at_call 85; refine (bound_any gO 0 (n + 1) (n + 1) gC (bfR t e * (n' + 1)) (n' + 1) (n' + 1) _ t s e o i h _ HEO.out (by omega) (by omega) (by rw [Nat.zero_add]; exact HH1.out) HH2.out (by omega) (by omega) (by rw [HIX.out]; have := HDB.out; omega) ho hi hh).mono ?_; rw [show L.getD (bfR t e * (n' + 1) + bfK s e) 0 + prc o i h e = bdF xs ys ⟨o, i, h⟩ t s u from by rw [HEV.out]; exact HIB.out]; rintro e6 w6 ⟨rfl, b6⟩; have T6 := hide (HT.out.below b6 (Nat.le_refl _)); have OE6 := hide (OE.out.below b6 (Nat.le_refl _)); have B6 := hide (le_call HB.out b6); have m1 := T6.out.head hlt; have m2 := T6.out.cell hlt hls; rw [HIH.out] at m2; have fz6 := T6.out.ce.frozen (t * (n' + 1) + s); clear b6)
                  go_roundw
                  case rel => exact ⟨u + 1, _, by omega, by go_num, hide (T6.out.set (idx_lt hlt hls) _), hide (HTK.out _ HU0.out (fun r k hr hk => set_at T6.out.len hlt hls hk _)), hide (own_set_other OE6.out T6.out.ce (by decide) _ _), hide (B6.out.setCell hgC2 _)⟩
                  case measure => simp [intOf]; omega
                · have hub : ((u : Int) == 0) = false := by simpa using hu1
                  have hvl : bdF xs ys ⟨o, i, h⟩ t s u < pm (bdF xs ys ⟨o, i, h⟩ t s) u := hu0.resolve_left hu1
                  clear hu0
                  go_wp2_with (go_at_call 85; refine (bound_any gO 0 (n + 1) (n + 1) gC (bfR t e * (n' + 1)) (n' + 1) (n' + 1) _ t s e o i h _ HEO.out (by omega) (by omega) (by rw [Nat.zero_add]; exact HH1.out) HH2.out (by omega) (by omega) (by rw [HIX.out]; have := HDB.out; omega) ho hi hh).mono ?_; rw [show L.getD (bfR t e * (n' + 1) + bfK s e) 0 + prc o i h e = bdF xs ys ⟨o, i, h⟩ t s u from by rw [HEV.out]; exact HIB.out]; rintro e6 w6 ⟨rfl, b6⟩; have T6 := hide (HT.out.below b6 (Nat.le_refl _)); have OE6 := hide (OE.out.below b6 (Nat.le_refl _)); have B6 := hide (le_call HB.out b6); have m1 := T6.out.head hlt; have m2 := T6.out.cell hlt hls; rw [HIH.out] at m2; have fz6 := T6.out.ce.frozen (t * (n' + 1) + s); clear b6)
                  go_roundw
                  case rel => exact ⟨u + 1, _, by omega, by go_num, hide (T6.out.set (idx_lt hlt hls) _), hide (HTK.out _ HU0.out (fun r k hr hk => set_at T6.out.len hlt hls hk _)), hide (own_set_other OE6.out T6.out.ce (by decide) _ _), hide (B6.out.setCell hgC2 _)⟩
                  case measure => simp [intOf]; omega
              · have HU0 := hide hu0
                have hub : ((u : Int) == 0) = false := by simp; omega
                have hvl : pm (bdF xs ys ⟨o, i, h⟩ t s) u ≤ bdF xs ys ⟨o, i, h⟩ t s u := by omega
                clear hu0
                go_wp2_with (go_at_call 85; refine (bound_any gO 0 (n + 1) (n + 1) gC (bfR t e * (n' + 1)) (n' + 1) (n' + 1) _ t s e o i h _ HEO.out (by omega) (by omega) (by rw [Nat.zero_add]; exact HH1.out) HH2.out (by omega) (by omega) (by rw [HIX.out]; have := HDB.out; omega) ho hi hh).mono ?_; rw [show L.getD (bfR t e * (n' + 1) + bfK s e) 0 + prc o i h e = bdF xs ys ⟨o, i, h⟩ t s u from by rw [HEV.out]; exact HIB.out]; rintro e6 w6 ⟨rfl, b6⟩; have T6 := hide (HT.out.below b6 (Nat.le_refl _)); have OE6 := hide (OE.out.below b6 (Nat.le_refl _)); have B6 := hide (le_call HB.out b6); have m1 := T6.out.head hlt; have m2 := T6.out.cell hlt hls; rw [HIH.out] at m2; have fz6 := T6.out.ce.frozen (t * (n' + 1) + s); clear b6)
                go_roundw
                case rel => exact ⟨u + 1, L, by omega, by go_num, T6, hide (HLE.out HU0.out), OE6, B6⟩
                case measure => simp [intOf]; omega
            · obtain rfl : u = ne := by omega
              go_wp2_with fail
              go_roundg (n' + 1 - (s + 1))
              case measure => omega
              case rel => exact ⟨s + 1, L, by omega, by go_num, by omega, HT, hide (in_end (by rw [HNE.out]; exact HF.out)), HB⟩
        · obtain rfl : s = n' + 1 := by omega
          go_wp2_with fail
          go_roundw
          case rel => exact ⟨t + 1, L, by omega, by go_num, HT, hide (fil_row HF.out), HB⟩
          case measure => simp [intOf]; omega
    · obtain rfl : t = n + 1 := by omega
      go_wp2_with fail
      go_ret
      refine ⟨gO, gC, L, rfl, HT.out.more (Nat.le_of_lt hz), fun r k hr hk => ?_, BX.out.trans (HB.out.mono (Nat.le_of_lt hz))⟩
      have := HF.out r k (by omega) (by omega)
      rwa [if_pos (by omega)] at this
end Go.Proofs.Ytndfdminjegldaa
