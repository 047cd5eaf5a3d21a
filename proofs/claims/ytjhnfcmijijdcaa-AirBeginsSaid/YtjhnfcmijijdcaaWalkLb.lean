/- The walk of AirBegins. -/
import Derived.Test.YtjhnfcmijijdcaaMathG
namespace Go.Proofs.Ytjhnfcmijijdcaa
open Go.RowKit

set_option maxRecDepth 100000
set_option maxHeartbeats 4000000 in
theorem AirBegins_walk (K h : Int) (A : Option Addr) (n c : Nat) (cs : List Int) (A' : Option Addr) (n' c' : Nat) (ds : List Int) (by' : Int) (w : World)
    (hT : Tin w A n c cs A' n' c' ds) :
    Calls Try.prog 11 #[.agg #[.int .i64 K, .int .i64 h, .slice A n c, .slice A' n' c'], .int .i64 by'] w fun e w' => e = .returned (.bool true) ∧ Below w.heap.size w w' := by
  have HT := hide hT
  have B0 := hide ((Below.refl w.heap.size w).alloc (Nat.le_refl _) (.cells #[.int .i64 K, .int .i64 h, .slice A n c, .slice A' n' c'] 24))
  have K0 := hide (Bk.born w 24 #[.int .i64 K, .int .i64 h, .slice A n c, .slice A' n' c'])
  clear hT
  by_cases hL : 100 < n ∨ 100 < n'
  case pos =>
    go_enter Try.func11, Try.ntmps11
    go_wp2_with fail
    refine (Long_any K h _ n c cs _ n' c' ds _ (HT.out.below B0.out (Nat.le_refl _))).mono ?_
    rw [decide_eq_true hL]
    rintro e w1 ⟨rfl, b1⟩
    have B1 := hide (B0.out.trans (b1.mono B0.out.size))
    have K1 := hide (K0.out.keep b1 K0.out.in_)
    clear b1
    go_wp2_with fail
    refine (known_any _).mono ?_
    rintro e wz ⟨rfl, bz⟩
    go_wp2_with fail
    go_ret
    exact ⟨rfl, B1.out.trans (bz.mono B1.out.size)⟩
  go_enter Try.func11, Try.ntmps11
  go_wp2_with fail
  refine (Long_any K h _ n c cs _ n' c' ds _ (HT.out.below B0.out (Nat.le_refl _))).mono ?_
  rw [decide_eq_false hL]
  rintro e w1 ⟨rfl, b1⟩
  have B1 := hide (B0.out.trans (b1.mono B0.out.size))
  have K1 := hide (K0.out.keep b1 K0.out.in_)
  clear b1
  obtain ⟨k0, k1, k2, k3, _⟩ := K1.out.four
  go_wp2_with fail
  refine (rCopy_row K h _ n c cs _ n' c' ds _ (HT.out.below B1.out (Nat.le_refl _)) (by omega) (by omega)).mono ?_
  rintro e w2 ⟨Ao, no, co, Bo, mo, do_, rfl, ro, so, b2⟩
  have B2 := hide (B1.out.trans (b2.mono B1.out.size))
  have K2 := hide (K1.out.keep b2 K1.out.in_)
  clear b2
  clear k0 k1 k2 k3
  obtain rfl : n = no := by have := ro.length; have := HT.out.1.length; omega
  obtain rfl : n' = mo := by have := so.length; have := HT.out.2.length; omega
  have Ro := hide ro
  have So := hide so
  clear ro so
  have B3 := hide (B2.out.alloc B2.out.size (.cells #[.int .i64 K, .int .i64 h, .slice Ao n co, .slice Bo n' do_] 24))
  have K3 := hide (K2.out.more (.cells #[.int .i64 K, .int .i64 h, .slice Ao n co, .slice Bo n' do_] 24))
  replace Ro := hide (Ro.out.alloc (.cells #[.int .i64 K, .int .i64 h, .slice Ao n co, .slice Bo n' do_] 24))
  replace So := hide (So.out.alloc (.cells #[.int .i64 K, .int .i64 h, .slice Ao n co, .slice Bo n' do_] 24))
  have Xo := hide (Bk.born w2 24 #[.int .i64 K, .int .i64 h, .slice Ao n co, .slice Bo n' do_])
  obtain ⟨x0, x1, x2, x3, _⟩ := Xo.out.four
  go_wp2_with fail
  generalize w2.alloc (.cells #[.int .i64 K, .int .i64 h, .slice Ao n co, .slice Bo n' do_] 24) = wb at *
  clear x0 x1 x2 x3
  have CH := hide (Below.refl wb.heap.size wb)
  refine (Begin_any K h _ n co cs _ n' do_ ds by' _ ⟨Ro.out, So.out⟩).mono ?_
  rintro e w4 ⟨Aa, na, ca, Ba, ma, da, rfl, oa, pa, b4⟩
  have B4 := hide (B3.out.trans (b4.mono B3.out.size))
  have K4 := hide (K3.out.keep b4 K3.out.in_)
  replace CH := hide (CH.out.trans (b4.mono CH.out.size))
  clear b4
  have Ra := hide (oa.row)
  have Pa := hide pa
  have HG := hide (own_lt pa)
  have La := hide oa.len
  have Ma := hide pa.len
  clear oa pa
  have HFe := hide (fun e => begF_er (K := K) (h := h) (cs := cs) (ds := ds) (b := by') e)
  have HFn := hide (fun e => begF_none (K := K) (h := h) (cs := cs) (ds := ds) (b := by') e)
  generalize hF : begF K h cs ds by' = F at *
  have HFe0 := hide hF
  clear hF
  have B5 := hide (B4.out.alloc B4.out.size (.cells #[.int .i64 F.K, .int .i64 F.h, .slice Aa na ca, .slice Ba ma da] 24))
  have K5 := hide (K4.out.more (.cells #[.int .i64 F.K, .int .i64 F.h, .slice Aa na ca, .slice Ba ma da] 24))
  replace Ra := hide (Ra.out.alloc (.cells #[.int .i64 F.K, .int .i64 F.h, .slice Aa na ca, .slice Ba ma da] 24))
  replace Pa := hide (Pa.out.alloc (.cells #[.int .i64 F.K, .int .i64 F.h, .slice Aa na ca, .slice Ba ma da] 24))
  have Xa := hide (Bk.born w4 24 #[.int .i64 F.K, .int .i64 F.h, .slice Aa na ca, .slice Ba ma da])
  replace CH := hide (CH.out.alloc CH.out.size (.cells #[.int .i64 F.K, .int .i64 F.h, .slice Aa na ca, .slice Ba ma da] 24))
  obtain ⟨k0, k1, k2, k3, _⟩ := K5.out.four
  go_wp2_with fail
  have RD := rBegin_any K h _ n c cs _ n' c' ds by' _ (HT.out.below B5.out (Nat.le_refl _))
  rw [HFe0.out] at RD
  refine RD.mono ?_
  rintro e w6 ⟨Ab, nb, cb, Bb, mb, db, rfl, ob, pb, b6⟩
  have B6 := hide (B5.out.trans (b6.mono B5.out.size))
  have K6 := hide (K5.out.keep b6 K5.out.in_)
  replace Ra := hide (Ra.out.below b6 (Nat.le_refl _))
  replace Pa := hide (Pa.out.below b6 (Nat.le_refl _))
  replace Xa := hide (Xa.out.keep b6 Xa.out.in_)
  replace CH := hide (CH.out.trans (b6.mono CH.out.size))
  clear b6
  clear k0 k1 k2 k3 RD
  obtain rfl : nb = na := by have := ob.len; have := La.out; omega
  obtain rfl : mb = ma := by have := pb.len; have := Ma.out; omega
  have Rb := hide (ob.row)
  have Sb := hide (pb.row)
  clear ob pb
  have B7 := hide (B6.out.alloc B6.out.size (.cells #[.int .i64 F.K, .int .i64 F.h, .slice Ab nb cb, .slice Bb mb db] 24))
  have K7 := hide (K6.out.more (.cells #[.int .i64 F.K, .int .i64 F.h, .slice Ab nb cb, .slice Bb mb db] 24))
  replace Ra := hide (Ra.out.alloc (.cells #[.int .i64 F.K, .int .i64 F.h, .slice Ab nb cb, .slice Bb mb db] 24))
  replace Pa := hide (Pa.out.alloc (.cells #[.int .i64 F.K, .int .i64 F.h, .slice Ab nb cb, .slice Bb mb db] 24))
  replace Rb := hide (Rb.out.alloc (.cells #[.int .i64 F.K, .int .i64 F.h, .slice Ab nb cb, .slice Bb mb db] 24))
  replace Sb := hide (Sb.out.alloc (.cells #[.int .i64 F.K, .int .i64 F.h, .slice Ab nb cb, .slice Bb mb db] 24))
  replace Xa := hide (Xa.out.more (.cells #[.int .i64 F.K, .int .i64 F.h, .slice Ab nb cb, .slice Bb mb db] 24))
  have Xb := hide (Bk.born w6 24 #[.int .i64 F.K, .int .i64 F.h, .slice Ab nb cb, .slice Bb mb db])
  replace CH := hide (CH.out.alloc CH.out.size (.cells #[.int .i64 F.K, .int .i64 F.h, .slice Ab nb cb, .slice Bb mb db] 24))
  obtain ⟨x0, x1, x2, x3, _⟩ := Xa.out.four
  obtain ⟨y0, y1, y2, y3, _⟩ := Xb.out.four
  go_wp2_with fail
  refine (Same_yes F.K F.h _ nb _ F.cs _ mb _ F.ds _ _ _ _ _ ⟨Ra.out, Pa.out.row⟩ ⟨Rb.out, Sb.out⟩).mono ?_
  rintro e w8 ⟨rfl, b8⟩
  have B8 := hide (B7.out.trans (b8.mono B7.out.size))
  have K8 := hide (K7.out.keep b8 K7.out.in_)
  replace Ra := hide (Ra.out.below b8 (Nat.le_refl _))
  replace Pa := hide (Pa.out.below b8 (Nat.le_refl _))
  replace Rb := hide (Rb.out.below b8 (Nat.le_refl _))
  replace Sb := hide (Sb.out.below b8 (Nat.le_refl _))
  replace Xa := hide (Xa.out.keep b8 Xa.out.in_)
  replace Xb := hide (Xb.out.keep b8 Xb.out.in_)
  replace CH := hide (CH.out.trans (b8.mono CH.out.size))
  clear b8
  clear x0 x1 x2 x3 y0 y1 y2 y3
  obtain ⟨x0, x1, x2, x3, _⟩ := Xa.out.four
  go_wp2_with fail
  refine (Least_any F.K F.h _ nb _ F.cs _ mb _ F.ds _ ⟨Ra.out, Pa.out.row⟩).mono ?_
  rintro e w9 ⟨rfl, b9⟩
  have B9 := hide (B8.out.trans (b9.mono B8.out.size))
  have K9 := hide (K8.out.keep b9 K8.out.in_)
  replace Ra := hide (Ra.out.below b9 (Nat.le_refl _))
  replace Pa := hide (Pa.out.below b9 (Nat.le_refl _))
  replace Rb := hide (Rb.out.below b9 (Nat.le_refl _))
  replace Sb := hide (Sb.out.below b9 (Nat.le_refl _))
  replace Xa := hide (Xa.out.keep b9 Xa.out.in_)
  replace Xb := hide (Xb.out.keep b9 Xb.out.in_)
  replace CH := hide (CH.out.trans (b9.mono CH.out.size))
  clear b9
  clear x0 x1 x2 x3
  obtain ⟨k0, k1, k2, k3, _⟩ := K9.out.four
  go_wp2_with fail
  refine (Firsts_any K h _ n c cs _ n' c' ds _ (HT.out.below B9.out (Nat.le_refl _))).mono ?_
  rintro e w10 ⟨Al, nl, cl, rfl, ol, b10⟩
  have B10 := hide (B9.out.trans (b10.mono B9.out.size))
  have K10 := hide (K9.out.keep b10 K9.out.in_)
  replace Ra := hide (Ra.out.below b10 (Nat.le_refl _))
  replace Pa := hide (Pa.out.below b10 (Nat.le_refl _))
  replace Rb := hide (Rb.out.below b10 (Nat.le_refl _))
  replace Sb := hide (Sb.out.below b10 (Nat.le_refl _))
  replace Xa := hide (Xa.out.keep b10 Xa.out.in_)
  replace Xb := hide (Xb.out.keep b10 Xb.out.in_)
  replace CH := hide (CH.out.trans (b10.mono CH.out.size))
  clear b10
  clear k0 k1 k2 k3
  have Ll := hide ol.len
  have Rl := hide ol.row
  clear ol Rb Sb Xb
  have hX := Xa.out.in_
  by_cases he : F.er = 0
  case neg =>
    have e3 := HFn.out he
    clear HFe HFn HFe0 he
    subst e3
    simp only at *
    obtain rfl : mb = 0 := by simpa using Ma.out.symm
    obtain ⟨x0, x1, x2, x3, _⟩ := Xa.out.four
    go_wp2_with fail
    go_loopw [15] (fun i wr => ∃ k : Nat, k ≤ 0 ∧ i = .int .i64 k ∧ Bk wr w4.heap.size 24 #[.int .i64 0, .int .i64 0, .slice Aa nb ca, .slice Ba 0 da] ∧ Below wb.heap.size wb wr) (fun i _ => 0 - (intOf i).toNat)
    case atStart => exact ⟨0, by omega, rfl, Xa.out, CH.out⟩
    case round =>
      obtain ⟨k, hk, rfl, xb, cb'⟩ := hrel
      have XB := hide xb
      have CB := hide cb'
      clear xb cb'
      obtain ⟨x0, x1, x2, x3, _⟩ := XB.out.four
      obtain rfl : k = 0 := by omega
      clear x0 x1 x2 x3
      obtain ⟨x0, x1, x2, x3, _⟩ := XB.out.four
      have KZ := hide (K3.out.keep CB.out (K3.out.in_))
      have BZ := hide (B3.out.trans (CB.out.mono B3.out.size))
      have XZ := hide (Xo.out.keep CB.out Xo.out.in_)
      obtain ⟨k0, k1, k2, k3, _⟩ := KZ.out.four
      obtain ⟨y0, y1, y2, y3, _⟩ := XZ.out.four
      go_wp2_with fail
      refine (Same_yes K h _ n _ cs _ n' _ ds _ _ _ _ _ ⟨Ro.out.below CB.out (Nat.le_refl _), So.out.below CB.out (Nat.le_refl _)⟩ (HT.out.below BZ.out (Nat.le_refl _))).mono ?_
      rintro e wy ⟨rfl, by_⟩
      have BY := hide (BZ.out.trans (by_.mono BZ.out.size))
      clear by_ k0 k1 k2 k3 y0 y1 y2 y3 x0 x1 x2 x3
      go_wp2_with fail
      refine (known_any _).mono ?_
      rintro e wz ⟨rfl, bz⟩
      go_wp2_with fail
      go_ret
      exact ⟨rfl, BY.out.trans (bz.mono BY.out.size)⟩
  obtain ⟨i, hi, i1, i2, o1, o2, hl, e3⟩ := HFe.out he
  clear HFe HFn HFe0 he
  subst e3
  subst hi
  simp only at *
  have n2 := o1.n2
  obtain rfl : mb = i := by have := Ma.out; omega
  obtain ⟨g, rfl, hg⟩ : ∃ g, Ba = some ⟨g, 0, none⟩ ∧ wb.heap.size ≤ g := by
    rcases Pa.out.form with ⟨_, h0, _⟩ | ⟨g, e, hg, _⟩
    · omega
    · exact ⟨g, e, hg⟩
  have hgl := HG.out g rfl
  clear HG
  have v1 := errT_ok o1
  have v2 := errT_ok o2
  rw [v1] at Ll Rl
  rw [okl_zero rfl] at Ll Rl
  have Ln := hide Ll.out
  rw [Tk.fL_len] at Ln
  obtain ⟨bl, ofl, rl⟩ := Rl.out
  have hnl : nl = ds.length + 1 := Ln.out.symm
  obtain rfl := rl.at_ (by omega)
  have cl := rl.cell mb (by omega)
  rw [Tk.fL_get _ i2] at cl
  have HL := hide HT.out.2.length
  have hmn : mb < nl := by omega
  rw [v1, v2, okv_zero rfl, hl, f_take]
  generalize (tk K h cs ds).f mb = fv at *
  clear v1 v2 rl Rl Ll
  have l9 : (mb : Int) < nl := by omega
  obtain ⟨x0, x1, x2, x3, _⟩ := Xa.out.four
  go_wp2_with fail
  go_loopw [15] (fun i wr => ∃ k : Nat, k ≤ mb ∧ i = .int .i64 k ∧ Bk wr w4.heap.size 24 #[.int .i64 K, .int .i64 h, .slice Aa nb ca, .slice (some ⟨g, 0, none⟩) mb da] ∧ (∃ ys, Own wr wb.heap.size (some ⟨g, 0, none⟩) mb da ys) ∧ Below wb.heap.size wb wr) (fun i _ => mb - (intOf i).toNat)
  case atStart => exact ⟨0, by omega, rfl, Xa.out, ⟨_, Pa.out⟩, CH.out⟩
  case round =>
    obtain ⟨k, hk, rfl, xb, ⟨ys, yb⟩, cb'⟩ := hrel
    have XB := hide xb
    have CB := hide cb'
    have YB := hide yb
    clear xb cb' yb
    obtain ⟨x0, x1, x2, x3, _⟩ := XB.out.four
    by_cases hlt : k < mb
    · have cx := YB.out.cell hlt
      have fz := YB.out.frozen k
      have l5 : (k : Int) < mb := by omega
      go_wp2_with fail
      go_roundw
      case rel => exact ⟨k + 1, by omega, by go_num, XB.out.apart (p := ⟨g, k, none⟩) (by simp; omega) _, ⟨_, YB.out.stored k _⟩, CB.out.setCell (p := ⟨g, k, none⟩) (by simp; omega) _⟩
      case measure => simp [intOf]; omega
    · obtain rfl : k = mb := by omega
      clear x0 x1 x2 x3
      obtain ⟨x0, x1, x2, x3, _⟩ := XB.out.four
      have KZ := hide (K3.out.keep CB.out (K3.out.in_))
      have BZ := hide (B3.out.trans (CB.out.mono B3.out.size))
      have XZ := hide (Xo.out.keep CB.out Xo.out.in_)
      obtain ⟨k0, k1, k2, k3, _⟩ := KZ.out.four
      obtain ⟨y0, y1, y2, y3, _⟩ := XZ.out.four
      go_wp2_with fail
      refine (Same_yes K h _ n _ cs _ n' _ ds _ _ _ _ _ ⟨Ro.out.below CB.out (Nat.le_refl _), So.out.below CB.out (Nat.le_refl _)⟩ (HT.out.below BZ.out (Nat.le_refl _))).mono ?_
      rintro e wy ⟨rfl, by_⟩
      have BY := hide (BZ.out.trans (by_.mono BZ.out.size))
      clear by_ k0 k1 k2 k3 y0 y1 y2 y3 x0 x1 x2 x3
      go_wp2_with fail
      refine (known_any _).mono ?_
      rintro e wz ⟨rfl, bz⟩
      go_wp2_with fail
      go_ret
      exact ⟨rfl, BY.out.trans (bz.mono BY.out.size)⟩

end Go.Proofs.Ytjhnfcmijijdcaa
