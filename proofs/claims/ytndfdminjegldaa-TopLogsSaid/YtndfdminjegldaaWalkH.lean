/- Walks: the last edits. -/
import Derived.Test.YtndfdminjegldaaWalkG
import Derived.Test.YtndfdminjegldaaMC
namespace Go.Proofs.Ytndfdminjegldaa
open Go.RowKit Go.Shelf
attribute [local go_sem] Oper.semAt_some

theorem ival_iface (e : Int) : ∃ T v, ival e = .iface T v := by
  unfold ival
  split
  · exact ⟨_, _, rfl⟩
  · split
    · exact ⟨_, _, rfl⟩
    · split <;> exact ⟨_, _, rfl⟩
def lesTo (l m : List Int) (c : Cst) (r k u : Nat) : List Int := ((eds l m r k).take u).filter (fun e => bd c (dd l m c) r k e == dd l m c r k)
theorem lesTo_all (l m : List Int) (c : Cst) (r k : Nat) : lesTo l m c r k (eds l m r k).length = les l m c r k := by unfold lesTo les; rw [List.take_length]
theorem lesTo_len (l m : List Int) (c : Cst) (r k u : Nat) : (lesTo l m c r k u).length ≤ 3 := by
  unfold lesTo
  have h1 := List.length_filter_le (fun e => bd c (dd l m c) r k e == dd l m c r k) ((eds l m r k).take u)
  have h2 := eds_len l m r k
  have h3 : ((eds l m r k).take u).length ≤ (eds l m r k).length := by rw [List.length_take]; omega
  omega
set_option maxRecDepth 100000 in
set_option maxHeartbeats 16000000 in
theorem lastEdits_any (gO gC BB : Nat) (L : List Int) (A : Option Addr) (n c : Nat) (xs : List Int) (A' : Option Addr) (n' c' : Nat) (ys : List Int) (o i h : Int) (t s : Nat) (w : World) (hT : Tab w BB gO gC (n + 1) (n' + 1) L) (hD : ∀ r k, r ≤ n → k ≤ n' → L.getD (r * (n' + 1) + k) 0 = dd xs ys ⟨o, i, h⟩ r k)
    (hx : R E1 w A n c xs) (hy : R E1 w A' n' c' ys) (hn : n ≤ 10) (hn' : n' ≤ 10) (ho : 1 ≤ o ∧ o ≤ 9) (hi : 1 ≤ i ∧ i ≤ 9) (hh : 1 ≤ h ∧ h ≤ 9) (ht : t ≤ n) (hs : s ≤ n') :
    Calls Try.prog 64 #[.slice (some ⟨gO, 0, none⟩) (n + 1) (n + 1), .slice A n c, .slice A' n' c', cV o i h, .int .i64 t, .int .i64 s] w (EdPost (les xs ys ⟨o, i, h⟩ t s) w) := by
  have BX := hide ((Below.refl w.heap.size w).alloc (Nat.le_refl _) (.cells #[.int .i64 o, .int .i64 i, .int .i64 h] 24))
  have HBK := hide (Bk.born w 24 #[.int .i64 o, .int .i64 i, .int .i64 h])
  have HX := hide (hx.below BX.out (Nat.le_refl _))
  have HY := hide (hy.below BX.out (Nat.le_refl _))
  have HT := hide (hT.below BX.out (Nat.le_refl _))
  have HD := hide hD
  have HC := hide (show Cst.ok ⟨o, i, h⟩ from ⟨ho, hi, hh⟩)
  have hz : w.heap.size < (w.alloc (.cells #[.int .i64 o, .int .i64 i, .int .i64 h] 24)).heap.size := by simp
  clear hx hy hT hD
  go_enter Try.func64, Try.ntmps64
  go_upto_region 2 with fail
  generalize w.alloc (.cells #[.int .i64 o, .int .i64 i, .int .i64 h] 24) = w0 at *
  have HB0 := hide (Below.refl w0.heap.size w0)
  have htc : (t : Int) ≤ (c : Int) := by obtain ⟨_, _, hr⟩ := HX.out; have := hr.cap; omega
  have hsc : (s : Int) ≤ (c' : Int) := by obtain ⟨_, _, hr⟩ := HY.out; have := hr.cap; omega
  go_cut [22, 23, 24] from 25 (fun a39 a40 a41 wx => a41 = .int .i64 0 ∧ ∃ (Ae : Option Addr) (ne ce : Nat), a39 = .slice Ae ne ce ∧ a40 = .int .i64 ne ∧ Hid (Own EI wx w0.heap.size 71 Ae ne ce (eds xs ys t s)) ∧ Hid (Below w0.heap.size w0 wx))
  case first =>
    have HXT := hide ((HX.out.below HB0.out.drew (Nat.le_refl _)).front (t := t) ht)
    have HYT := hide ((HY.out.below HB0.out.drew (Nat.le_refl _)).front (t := s) hs)
    cases A <;> cases A'
    all_goals
      go_region_with (go_at_call 84; refine (edits_any _ t c (xs.take t) _ s c' (ys.take s) _ HXT.out HYT.out (by omega) (by omega)).mono ?_; rw [eds_take]; rintro e5 w5 ⟨Ae, ne, ce, rfl, o5, b5⟩; have O5 := hide (o5.more HB0.out.size); have B5 := hide (HB0.out.drew.trans (b5.mono HB0.out.size)); clear o5 b5)
      all_goals
        go_wp2_with fail
        go_meet
        exact ⟨rfl, Ae, ne, ce, rfl, rfl, O5, B5⟩
  case rest =>
  obtain ⟨rfl, Ae, ne, ce, rfl, rfl, OE, HB⟩ := hcut
  generalize wc = wl at *
  have hne := OE.out.len
  have hne3 := eds_len xs ys t s
  rw [hne] at hne3
  have HNE := hide hne
  clear hne htc hsc HB0
  go_wp2_with fail
  go_loopg [13, 24] ne (fun gg a13 a24 wr => ∃ (u : Nat) (Ao : Option Addr) (no co : Nat), u ≤ ne ∧ a24 = .int .i64 u ∧ ne - u ≤ gg ∧ a13 = .slice Ao no co ∧ Hid (Own EI wr wl.heap.size 71 Ao no co (lesTo xs ys ⟨o, i, h⟩ t s u)) ∧ Hid (Below wl.heap.size wl wr))
  case atStart => exact ⟨0, none, 0, 0, Nat.zero_le _, rfl, by omega, rfl, hide (Own.nil _ _ _ _), hide (Below.refl _ _)⟩
  case round =>
    obtain ⟨u, Ao, no, co, hu, rfl, hgg, rfl, HO, HBl⟩ := hrel
    have HOE0 := OE
    have HB0 := HB
    have OE := hide (HOE0.out.below HBl.out (Nat.le_refl _))
    have HB := hide (HB0.out.trans (HBl.out.mono HB0.out.size))
    by_cases hlu : u < ne
    · obtain ⟨ge, rfl, hge, hge2, hge3, hge4⟩ := OE.out.addr (by omega)
      have heo := eds_ok (l := xs) (m := ys) (r := t) (k := s) (t := u) (by rw [HNE.out]; exact hlu)
      have hce := ownE OE.out hlu
      have HBD := hide (bdF_bd (l := xs) (m := ys) (t := t) (s := s) (u := u) HC.out (by rw [HNE.out]; exact hlu) (by omega) (by omega))
      have hbf := bf_le heo
      have HTW := hide (HT.out.below HB.out (Nat.le_refl _))
      have HIX := hide (HD.out (bfR t ((eds xs ys t s).getD u 0)) (bfK s ((eds xs ys t s).getD u 0)) (by omega) (by omega))
      have HDB := hide (dd_bd (l := xs) (m := ys) HC.out (bfR t ((eds xs ys t s).getD u 0)) (bfK s ((eds xs ys t s).getD u 0)))
      have HH1 := hide (HTW.out.head (r := bfR t ((eds xs ys t s).getD u 0)) (by omega))
      have HH2 := hide (HTW.out.cell (r := bfR t ((eds xs ys t s).getD u 0)) (k := bfK s ((eds xs ys t s).getD u 0)) (by omega) (by omega))
      have HBV := hide (bd_bf ⟨o, i, h⟩ (dd xs ys ⟨o, i, h⟩) t s heo)
      have HSN := hide (les_snoc xs ys ⟨o, i, h⟩ t s (u := u) (by rw [HNE.out]; exact hlu))
      have HEO := hide heo
      have hev : bdF xs ys ⟨o, i, h⟩ t s u = bd ⟨o, i, h⟩ (dd xs ys ⟨o, i, h⟩) t s ((eds xs ys t s).getD u 0) := rfl
      have HEV := hide hev
      generalize (eds xs ys t s).getD u 0 = e at *
      have k0 := (HBK.out.keep HB.out hz).at_ 0
      have k1 := (HBK.out.keep HB.out hz).at_ 1
      have k2 := (HBK.out.keep HB.out hz).at_ 2
      have m1 := HTW.out.head (r := t) (by omega)
      have m2 := HTW.out.cell (r := t) (k := s) (by omega) (by omega)
      rw [HD.out t s ht hs] at m2
      simp at k0 k1 k2
      have hun : (u : Int) < (ne : Int) := by omega
      have hge5 : ce ≤ 9223372036854775807 := hge4
      have htn : (t : Int) < (n : Int) + 1 := by omega
      have hsn : (s : Int) < (n' : Int) + 1 := by omega
      have hsz := HB.out.size
      have hszl := HBl.out.size
      have hlen := lesTo_len xs ys ⟨o, i, h⟩ t s u
      have HNO := hide HO.out.len
      clear hev heo hge4
      go_upto_region 5 with fail
      go_cut [24, 41] from 28 to 41 (fun a24 a41 wx => a24 = .int .i64 u ∧ a41 = .bool (bdF xs ys ⟨o, i, h⟩ t s u == dd xs ys ⟨o, i, h⟩ t s) ∧ Hid (Own EI wx wl.heap.size 71 Ao no co (lesTo xs ys ⟨o, i, h⟩ t s u)) ∧ Hid (Below wl.heap.size wl wx))
      case first =>
        go_region_with (go_at_call 85; refine (bound_any gO 0 (n + 1) (n + 1) gC (bfR t e * (n' + 1)) (n' + 1) (n' + 1) _ t s e o i h wr.drew HEO.out (by omega) (by omega) (by rw [Nat.zero_add]; exact HH1.out) HH2.out (by omega) (by omega) (by rw [HIX.out]; have := HDB.out; omega) ho hi hh).mono ?_; rw [show L.getD (bfR t e * (n' + 1) + bfK s e) 0 + prc o i h e = bdF xs ys ⟨o, i, h⟩ t s u from by rw [HEV.out, HBV.out, HIX.out]; rfl]; rintro e6 w6 ⟨rfl, b6⟩; have O6 := hide (HO.out.drew.below b6 (Nat.le_refl _)); have B6 := hide (HBl.out.drew.trans (b6.mono hszl)); have n1 := (HTW.out.drew.below b6 (Nat.le_refl _)).head (r := t) (by omega); have n2 := (HTW.out.drew.below b6 (Nat.le_refl _)).cell (r := t) (k := s) (by omega) (by omega); rw [HD.out t s ht hs] at n2; clear b6)
        all_goals
          go_wp2_with fail
          go_meet
          exact ⟨rfl, rfl, O6, B6⟩
      case rest =>
      obtain ⟨rfl, rfl, O6, B6⟩ := hcut
      obtain ⟨Te, ve, hiv⟩ := ival_iface e
      rw [HEV.out]
      by_cases hbe : bd ⟨o, i, h⟩ (dd xs ys ⟨o, i, h⟩) t s e = dd xs ys ⟨o, i, h⟩ t s
      · have hb : (bd ⟨o, i, h⟩ (dd xs ys ⟨o, i, h⟩) t s e == dd xs ys ⟨o, i, h⟩ t s) = true := by simpa using hbe
        have HS2 := hide (show lesTo xs ys ⟨o, i, h⟩ t s (u + 1) = lesTo xs ys ⟨o, i, h⟩ t s u ++ [e] from HSN.out.trans (if_pos hbe))
        clear hbe
        have HIV := hide hiv
        rw [hiv]
        clear hiv
        go_wp2_with (at_builtin; refine wpList_app1 (E := EI) wc .nilIface 16 rfl (.tmp 42) (.tmp 44) 72 71 rfl Try.underlying72 info_edit rfl (by decide) (by omega) wl.heap.size no co Ao (lesTo xs ys ⟨o, i, h⟩ t s u) e _ (by show _ = #[ival e]; rw [HIV.out]) rfl rfl O6.out (by have := HNO.out; omega) B6.out.size ?_; intro A7 q7 w7 o7 b7 g7; have O7 := hide o7; have B7 := hide (B6.out.trans b7); clear o7 b7 g7)
        go_roundg (ne - (u + 1))
        case measure => omega
        case rel => exact ⟨u + 1, A7, no + 1, q7, by omega, by go_num, by omega, rfl, hide (by rw [HS2.out]; exact O7.out), B7⟩
      · have hb : (bd ⟨o, i, h⟩ (dd xs ys ⟨o, i, h⟩) t s e == dd xs ys ⟨o, i, h⟩ t s) = false := by simpa using hbe
        have HS2 := hide (show lesTo xs ys ⟨o, i, h⟩ t s (u + 1) = lesTo xs ys ⟨o, i, h⟩ t s u from HSN.out.trans (if_neg hbe))
        clear hbe
        go_wp2_with fail
        go_roundg (ne - (u + 1))
        case measure => omega
        case rel => exact ⟨u + 1, Ao, no, co, by omega, by go_num, by omega, rfl, hide (by rw [HS2.out]; exact O6.out), B6⟩
    · obtain rfl : u = ne := by omega
      go_wp2_with fail
      go_ret
      exact ⟨Ao, no, co, rfl, by rw [← lesTo_all, HNE.out]; exact HO.out.more (Nat.le_trans (Nat.le_of_lt hz) HB0.out.size), BX.out.trans (HB.out.mono (Nat.le_of_lt hz))⟩
end Go.Proofs.Ytndfdminjegldaa
