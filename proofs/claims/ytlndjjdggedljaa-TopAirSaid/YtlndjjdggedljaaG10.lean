/- Group 10: texts MathG, WalkLb, MathH, MathI, WalkAt. -/
import Derived.Test.YtlndjjdggedljaaG9
import Derived.BigQuiet
/- MathG -/
namespace Go.Proofs.Ytlndjjdggedljaa

theorem own_lt {w : World} {B n c : Nat} {A : Option Addr} {xs : List Int} (o : Own w B A n c xs) : ∀ g, A = some ⟨g, 0, none⟩ → g < w.heap.size := by
  intro g h
  rcases o.form with ⟨e, _⟩ | ⟨g', e, _, l, _⟩
  · rw [e] at h
    cases h
  · rw [e] at h
    injection h with h
    injection h with h
    omega
theorem getD_take {l : List Int} {i j : Nat} (h : j < i) : (l.take i).getD j 0 = l.getD j 0 := by
  simp [List.getD_eq_getElem?_getD, List.getElem?_take, h]
theorem f_take (K h : Int) (cs ds : List Int) (i : Nat) : (tk K h (cs.take i) (ds.take i)).f i = (tk K h cs ds).f i := by
  refine f_same (n := i) (fun l m hl hm => ?_) (Nat.le_refl _)
  have u : (tk K h (cs.take i) (ds.take i)).units l m = (tk K h cs ds).units l m := sm_congr fun j _ hj => getD_take (by omega)
  have s : (tk K h (cs.take i) (ds.take i)).save l m = (tk K h cs ds).save l m := sm_congr fun j h1 hj => by
    show (ds.take i).getD j 0 * ((cs.take i).getD l 0 + h * _) = ds.getD j 0 * (cs.getD l 0 + h * _)
    rw [getD_take (by omega), getD_take (by omega)]
  unfold Tk.tog
  rw [u, s]
  rfl
theorem AllOk.take {l : List Int} {n : Nat} {hi : Int} (a : AllOk l n hi) {i : Nat} (h : i ≤ n) : AllOk (l.take i) i hi := by
  have h1 := a.1
  refine ⟨by rw [List.length_take]; omega, fun j hj => ?_⟩
  rw [List.length_take] at hj
  rw [getD_take (by omega)]
  exact a.2 j (by omega)
theorem OkT.take {K h : Int} {cs ds : List Int} (o : OkT K h cs ds) {i : Nat} (h1 : 1 ≤ i) (h2 : i ≤ ds.length) : OkT K h (cs.take i) (ds.take i) := by
  have hl : (ds.take i).length = i := by rw [List.length_take]; omega
  have n2 := o.n2
  exact ⟨o.K0, o.K1, o.h0, o.h1, by omega, by omega, by rw [hl]; exact o.c.take h2, by rw [hl]; exact o.d.take h2⟩
theorem begF_er {K h : Int} {cs ds : List Int} {b : Int} (e : (begF K h cs ds b).er = 0) :
    ∃ i : Nat, b = (i : Int) ∧ 1 ≤ i ∧ i ≤ ds.length ∧ OkT K h cs ds ∧ OkT K h (cs.take i) (ds.take i) ∧ (ds.take i).length = i ∧ begF K h cs ds b = ⟨K, h, cs.take i, ds.take i, 0⟩ := by
  by_cases o : OkT K h cs ds
  · by_cases e1 : 1 ≤ b ∧ b ≤ ds.length
    · refine ⟨b.toNat, by omega, by omega, by omega, o, o.take (by omega) (by omega), by rw [List.length_take]; omega, begF_ok o e1⟩
    · rw [begF_no o e1] at e
      cases e
  · rw [begF_task o] at e
    cases e
theorem begF_none {K h : Int} {cs ds : List Int} {b : Int} (e : ¬ (begF K h cs ds b).er = 0) : begF K h cs ds b = ⟨0, 0, [], [], 1⟩ := by
  by_cases o : OkT K h cs ds
  · by_cases e1 : 1 ≤ b ∧ b ≤ ds.length
    · rw [begF_ok o e1] at e
      exact absurd rfl e
    · exact begF_no o e1
  · exact begF_task o

end Go.Proofs.Ytlndjjdggedljaa

/- WalkLb -/
namespace Go.Proofs.Ytlndjjdggedljaa
open Go.RowKit

set_option maxRecDepth 100000
set_option maxHeartbeats 4000000 in
theorem AirBegins_walk (K h : Int) (A : Option Addr) (n c : Nat) (cs : List Int) (A' : Option Addr) (n' c' : Nat) (ds : List Int) (by' : Int) (w : World)
    (hT : Tin w A n c cs A' n' c' ds) :
    Calls Try.prog 11 #[.agg #[.int .i64 K, .int .i64 h, .slice A n c, .slice A' n' c'], .int .i64 by'] w fun e w' => e = .returned (.bool true) ∧ Below w.heap.size w w' := by
  have HT := hide hT
  have B0 := hide ((Below.refl w.heap.size w).alloc (Nat.le_refl _) (.cells #[.int .i64 K, .int .i64 h, .slice A n c, .slice A' n' c'] 24))
  have K0 := hide (Bk.born w 24 #[.int .i64 K, .int .i64 h, .slice A n c, .slice A' n' c'])
  clear hT
  by_cases hL : 100 < n ∨ 100 < n'
  case pos =>
    go_enter Try.func11, Try.ntmps11
    go_wp2_with fail
    refine (Long_any K h _ n c cs _ n' c' ds _ (HT.out.below B0.out (Nat.le_refl _))).mono ?_
    rw [decide_eq_true hL]
    rintro e w1 ⟨rfl, b1⟩
    have B1 := hide (B0.out.trans (b1.mono B0.out.size))
    have K1 := hide (K0.out.keep b1 K0.out.in_)
    clear b1
    go_wp2_with fail
    refine (known_any _).mono ?_
    rintro e wz ⟨rfl, bz⟩
    go_wp2_with fail
    go_ret
    exact ⟨rfl, B1.out.trans (bz.mono B1.out.size)⟩
  go_enter Try.func11, Try.ntmps11
  go_wp2_with fail
  refine (Long_any K h _ n c cs _ n' c' ds _ (HT.out.below B0.out (Nat.le_refl _))).mono ?_
  rw [decide_eq_false hL]
  rintro e w1 ⟨rfl, b1⟩
  have B1 := hide (B0.out.trans (b1.mono B0.out.size))
  have K1 := hide (K0.out.keep b1 K0.out.in_)
  clear b1
  obtain ⟨k0, k1, k2, k3, _⟩ := K1.out.four
  go_wp2_with fail
  refine (rCopy_row K h _ n c cs _ n' c' ds _ (HT.out.below B1.out (Nat.le_refl _)) (by omega) (by omega)).mono ?_
  rintro e w2 ⟨Ao, no, co, Bo, mo, do_, rfl, ro, so, b2⟩
  have B2 := hide (B1.out.trans (b2.mono B1.out.size))
  have K2 := hide (K1.out.keep b2 K1.out.in_)
  clear b2
  clear k0 k1 k2 k3
  obtain rfl : n = no := by have := ro.length; have := HT.out.1.length; omega
  obtain rfl : n' = mo := by have := so.length; have := HT.out.2.length; omega
  have Ro := hide ro
  have So := hide so
  clear ro so
  have B3 := hide (B2.out.alloc B2.out.size (.cells #[.int .i64 K, .int .i64 h, .slice Ao n co, .slice Bo n' do_] 24))
  have K3 := hide (K2.out.more (.cells #[.int .i64 K, .int .i64 h, .slice Ao n co, .slice Bo n' do_] 24))
  replace Ro := hide (Ro.out.alloc (.cells #[.int .i64 K, .int .i64 h, .slice Ao n co, .slice Bo n' do_] 24))
  replace So := hide (So.out.alloc (.cells #[.int .i64 K, .int .i64 h, .slice Ao n co, .slice Bo n' do_] 24))
  have Xo := hide (Bk.born w2 24 #[.int .i64 K, .int .i64 h, .slice Ao n co, .slice Bo n' do_])
  obtain ⟨x0, x1, x2, x3, _⟩ := Xo.out.four
  go_wp2_with fail
  generalize w2.alloc (.cells #[.int .i64 K, .int .i64 h, .slice Ao n co, .slice Bo n' do_] 24) = wb at *
  clear x0 x1 x2 x3
  have CH := hide (Below.refl wb.heap.size wb)
  refine (Begin_any K h _ n co cs _ n' do_ ds by' _ ⟨Ro.out, So.out⟩).mono ?_
  rintro e w4 ⟨Aa, na, ca, Ba, ma, da, rfl, oa, pa, b4⟩
  have B4 := hide (B3.out.trans (b4.mono B3.out.size))
  have K4 := hide (K3.out.keep b4 K3.out.in_)
  replace CH := hide (CH.out.trans (b4.mono CH.out.size))
  clear b4
  have Ra := hide (oa.row)
  have Pa := hide pa
  have HG := hide (own_lt pa)
  have La := hide oa.len
  have Ma := hide pa.len
  clear oa pa
  have HFe := hide (fun e => begF_er (K := K) (h := h) (cs := cs) (ds := ds) (b := by') e)
  have HFn := hide (fun e => begF_none (K := K) (h := h) (cs := cs) (ds := ds) (b := by') e)
  generalize hF : begF K h cs ds by' = F at *
  have HFe0 := hide hF
  clear hF
  have B5 := hide (B4.out.alloc B4.out.size (.cells #[.int .i64 F.K, .int .i64 F.h, .slice Aa na ca, .slice Ba ma da] 24))
  have K5 := hide (K4.out.more (.cells #[.int .i64 F.K, .int .i64 F.h, .slice Aa na ca, .slice Ba ma da] 24))
  replace Ra := hide (Ra.out.alloc (.cells #[.int .i64 F.K, .int .i64 F.h, .slice Aa na ca, .slice Ba ma da] 24))
  replace Pa := hide (Pa.out.alloc (.cells #[.int .i64 F.K, .int .i64 F.h, .slice Aa na ca, .slice Ba ma da] 24))
  have Xa := hide (Bk.born w4 24 #[.int .i64 F.K, .int .i64 F.h, .slice Aa na ca, .slice Ba ma da])
  replace CH := hide (CH.out.alloc CH.out.size (.cells #[.int .i64 F.K, .int .i64 F.h, .slice Aa na ca, .slice Ba ma da] 24))
  obtain ⟨k0, k1, k2, k3, _⟩ := K5.out.four
  go_wp2_with fail
  have RD := rBegin_any K h _ n c cs _ n' c' ds by' _ (HT.out.below B5.out (Nat.le_refl _))
  rw [HFe0.out] at RD
  refine RD.mono ?_
  rintro e w6 ⟨Ab, nb, cb, Bb, mb, db, rfl, ob, pb, b6⟩
  have B6 := hide (B5.out.trans (b6.mono B5.out.size))
  have K6 := hide (K5.out.keep b6 K5.out.in_)
  replace Ra := hide (Ra.out.below b6 (Nat.le_refl _))
  replace Pa := hide (Pa.out.below b6 (Nat.le_refl _))
  replace Xa := hide (Xa.out.keep b6 Xa.out.in_)
  replace CH := hide (CH.out.trans (b6.mono CH.out.size))
  clear b6
  clear k0 k1 k2 k3 RD
  obtain rfl : nb = na := by have := ob.len; have := La.out; omega
  obtain rfl : mb = ma := by have := pb.len; have := Ma.out; omega
  have Rb := hide (ob.row)
  have Sb := hide (pb.row)
  clear ob pb
  have B7 := hide (B6.out.alloc B6.out.size (.cells #[.int .i64 F.K, .int .i64 F.h, .slice Ab nb cb, .slice Bb mb db] 24))
  have K7 := hide (K6.out.more (.cells #[.int .i64 F.K, .int .i64 F.h, .slice Ab nb cb, .slice Bb mb db] 24))
  replace Ra := hide (Ra.out.alloc (.cells #[.int .i64 F.K, .int .i64 F.h, .slice Ab nb cb, .slice Bb mb db] 24))
  replace Pa := hide (Pa.out.alloc (.cells #[.int .i64 F.K, .int .i64 F.h, .slice Ab nb cb, .slice Bb mb db] 24))
  replace Rb := hide (Rb.out.alloc (.cells #[.int .i64 F.K, .int .i64 F.h, .slice Ab nb cb, .slice Bb mb db] 24))
  replace Sb := hide (Sb.out.alloc (.cells #[.int .i64 F.K, .int .i64 F.h, .slice Ab nb cb, .slice Bb mb db] 24))
  replace Xa := hide (Xa.out.more (.cells #[.int .i64 F.K, .int .i64 F.h, .slice Ab nb cb, .slice Bb mb db] 24))
  have Xb := hide (Bk.born w6 24 #[.int .i64 F.K, .int .i64 F.h, .slice Ab nb cb, .slice Bb mb db])
  replace CH := hide (CH.out.alloc CH.out.size (.cells #[.int .i64 F.K, .int .i64 F.h, .slice Ab nb cb, .slice Bb mb db] 24))
  obtain ⟨x0, x1, x2, x3, _⟩ := Xa.out.four
  obtain ⟨y0, y1, y2, y3, _⟩ := Xb.out.four
  go_wp2_with fail
  refine (Same_yes F.K F.h _ nb _ F.cs _ mb _ F.ds _ _ _ _ _ ⟨Ra.out, Pa.out.row⟩ ⟨Rb.out, Sb.out⟩).mono ?_
  rintro e w8 ⟨rfl, b8⟩
  have B8 := hide (B7.out.trans (b8.mono B7.out.size))
  have K8 := hide (K7.out.keep b8 K7.out.in_)
  replace Ra := hide (Ra.out.below b8 (Nat.le_refl _))
  replace Pa := hide (Pa.out.below b8 (Nat.le_refl _))
  replace Rb := hide (Rb.out.below b8 (Nat.le_refl _))
  replace Sb := hide (Sb.out.below b8 (Nat.le_refl _))
  replace Xa := hide (Xa.out.keep b8 Xa.out.in_)
  replace Xb := hide (Xb.out.keep b8 Xb.out.in_)
  replace CH := hide (CH.out.trans (b8.mono CH.out.size))
  clear b8
  clear x0 x1 x2 x3 y0 y1 y2 y3
  obtain ⟨x0, x1, x2, x3, _⟩ := Xa.out.four
  go_wp2_with fail
  refine (Least_any F.K F.h _ nb _ F.cs _ mb _ F.ds _ ⟨Ra.out, Pa.out.row⟩).mono ?_
  rintro e w9 ⟨rfl, b9⟩
  have B9 := hide (B8.out.trans (b9.mono B8.out.size))
  have K9 := hide (K8.out.keep b9 K8.out.in_)
  replace Ra := hide (Ra.out.below b9 (Nat.le_refl _))
  replace Pa := hide (Pa.out.below b9 (Nat.le_refl _))
  replace Rb := hide (Rb.out.below b9 (Nat.le_refl _))
  replace Sb := hide (Sb.out.below b9 (Nat.le_refl _))
  replace Xa := hide (Xa.out.keep b9 Xa.out.in_)
  replace Xb := hide (Xb.out.keep b9 Xb.out.in_)
  replace CH := hide (CH.out.trans (b9.mono CH.out.size))
  clear b9
  clear x0 x1 x2 x3
  obtain ⟨k0, k1, k2, k3, _⟩ := K9.out.four
  go_wp2_with fail
  refine (Firsts_any K h _ n c cs _ n' c' ds _ (HT.out.below B9.out (Nat.le_refl _))).mono ?_
  rintro e w10 ⟨Al, nl, cl, rfl, ol, b10⟩
  have B10 := hide (B9.out.trans (b10.mono B9.out.size))
  have K10 := hide (K9.out.keep b10 K9.out.in_)
  replace Ra := hide (Ra.out.below b10 (Nat.le_refl _))
  replace Pa := hide (Pa.out.below b10 (Nat.le_refl _))
  replace Rb := hide (Rb.out.below b10 (Nat.le_refl _))
  replace Sb := hide (Sb.out.below b10 (Nat.le_refl _))
  replace Xa := hide (Xa.out.keep b10 Xa.out.in_)
  replace Xb := hide (Xb.out.keep b10 Xb.out.in_)
  replace CH := hide (CH.out.trans (b10.mono CH.out.size))
  clear b10
  clear k0 k1 k2 k3
  have Ll := hide ol.len
  have Rl := hide ol.row
  clear ol Rb Sb Xb
  have hX := Xa.out.in_
  by_cases he : F.er = 0
  case neg =>
    have e3 := HFn.out he
    clear HFe HFn HFe0 he
    subst e3
    simp only at *
    obtain rfl : mb = 0 := by simpa using Ma.out.symm
    obtain ⟨x0, x1, x2, x3, _⟩ := Xa.out.four
    go_wp2_with fail
    go_loopw [15] (fun i wr => ∃ k : Nat, k ≤ 0 ∧ i = .int .i64 k ∧ Bk wr w4.heap.size 24 #[.int .i64 0, .int .i64 0, .slice Aa nb ca, .slice Ba 0 da] ∧ Below wb.heap.size wb wr) (fun i _ => 0 - (intOf i).toNat)
    case atStart => exact ⟨0, by omega, rfl, Xa.out, CH.out⟩
    case round =>
      obtain ⟨k, hk, rfl, xb, cb'⟩ := hrel
      have XB := hide xb
      have CB := hide cb'
      clear xb cb'
      obtain ⟨x0, x1, x2, x3, _⟩ := XB.out.four
      obtain rfl : k = 0 := by omega
      clear x0 x1 x2 x3
      obtain ⟨x0, x1, x2, x3, _⟩ := XB.out.four
      have KZ := hide (K3.out.keep CB.out (K3.out.in_))
      have BZ := hide (B3.out.trans (CB.out.mono B3.out.size))
      have XZ := hide (Xo.out.keep CB.out Xo.out.in_)
      obtain ⟨k0, k1, k2, k3, _⟩ := KZ.out.four
      obtain ⟨y0, y1, y2, y3, _⟩ := XZ.out.four
      go_wp2_with fail
      refine (Same_yes K h _ n _ cs _ n' _ ds _ _ _ _ _ ⟨Ro.out.below CB.out (Nat.le_refl _), So.out.below CB.out (Nat.le_refl _)⟩ (HT.out.below BZ.out (Nat.le_refl _))).mono ?_
      rintro e wy ⟨rfl, by_⟩
      have BY := hide (BZ.out.trans (by_.mono BZ.out.size))
      clear by_ k0 k1 k2 k3 y0 y1 y2 y3 x0 x1 x2 x3
      go_wp2_with fail
      refine (known_any _).mono ?_
      rintro e wz ⟨rfl, bz⟩
      go_wp2_with fail
      go_ret
      exact ⟨rfl, BY.out.trans (bz.mono BY.out.size)⟩
  obtain ⟨i, hi, i1, i2, o1, o2, hl, e3⟩ := HFe.out he
  clear HFe HFn HFe0 he
  subst e3
  subst hi
  simp only at *
  have n2 := o1.n2
  obtain rfl : mb = i := by have := Ma.out; omega
  obtain ⟨g, rfl, hg⟩ : ∃ g, Ba = some ⟨g, 0, none⟩ ∧ wb.heap.size ≤ g := by
    rcases Pa.out.form with ⟨_, h0, _⟩ | ⟨g, e, hg, _⟩
    · omega
    · exact ⟨g, e, hg⟩
  have hgl := HG.out g rfl
  clear HG
  have v1 := errT_ok o1
  have v2 := errT_ok o2
  rw [v1] at Ll Rl
  rw [okl_zero rfl] at Ll Rl
  have Ln := hide Ll.out
  rw [Tk.fL_len] at Ln
  obtain ⟨bl, ofl, rl⟩ := Rl.out
  have hnl : nl = ds.length + 1 := Ln.out.symm
  obtain rfl := rl.at_ (by omega)
  have cl := rl.cell mb (by omega)
  rw [Tk.fL_get _ i2] at cl
  have HL := hide HT.out.2.length
  have hmn : mb < nl := by omega
  rw [v1, v2, okv_zero rfl, hl, f_take]
  generalize (tk K h cs ds).f mb = fv at *
  clear v1 v2 rl Rl Ll
  have l9 : (mb : Int) < nl := by omega
  obtain ⟨x0, x1, x2, x3, _⟩ := Xa.out.four
  go_wp2_with fail
  go_loopw [15] (fun i wr => ∃ k : Nat, k ≤ mb ∧ i = .int .i64 k ∧ Bk wr w4.heap.size 24 #[.int .i64 K, .int .i64 h, .slice Aa nb ca, .slice (some ⟨g, 0, none⟩) mb da] ∧ (∃ ys, Own wr wb.heap.size (some ⟨g, 0, none⟩) mb da ys) ∧ Below wb.heap.size wb wr) (fun i _ => mb - (intOf i).toNat)
  case atStart => exact ⟨0, by omega, rfl, Xa.out, ⟨_, Pa.out⟩, CH.out⟩
  case round =>
    obtain ⟨k, hk, rfl, xb, ⟨ys, yb⟩, cb'⟩ := hrel
    have XB := hide xb
    have CB := hide cb'
    have YB := hide yb
    clear xb cb' yb
    obtain ⟨x0, x1, x2, x3, _⟩ := XB.out.four
    by_cases hlt : k < mb
    · have cx := YB.out.cell hlt
      have fz := YB.out.frozen k
      have l5 : (k : Int) < mb := by omega
      go_wp2_with fail
      go_roundw
      case rel => exact ⟨k + 1, by omega, by go_num, XB.out.apart (p := ⟨g, k, none⟩) (by simp; omega) _, ⟨_, YB.out.stored k _⟩, CB.out.setCell (p := ⟨g, k, none⟩) (by simp; omega) _⟩
      case measure => simp [intOf]; omega
    · obtain rfl : k = mb := by omega
      clear x0 x1 x2 x3
      obtain ⟨x0, x1, x2, x3, _⟩ := XB.out.four
      have KZ := hide (K3.out.keep CB.out (K3.out.in_))
      have BZ := hide (B3.out.trans (CB.out.mono B3.out.size))
      have XZ := hide (Xo.out.keep CB.out Xo.out.in_)
      obtain ⟨k0, k1, k2, k3, _⟩ := KZ.out.four
      obtain ⟨y0, y1, y2, y3, _⟩ := XZ.out.four
      go_wp2_with fail
      refine (Same_yes K h _ n _ cs _ n' _ ds _ _ _ _ _ ⟨Ro.out.below CB.out (Nat.le_refl _), So.out.below CB.out (Nat.le_refl _)⟩ (HT.out.below BZ.out (Nat.le_refl _))).mono ?_
      rintro e wy ⟨rfl, by_⟩
      have BY := hide (BZ.out.trans (by_.mono BZ.out.size))
      clear by_ k0 k1 k2 k3 y0 y1 y2 y3 x0 x1 x2 x3
      go_wp2_with fail
      refine (known_any _).mono ?_
      rintro e wz ⟨rfl, bz⟩
      go_wp2_with fail
      go_ret
      exact ⟨rfl, BY.out.trans (bz.mono BY.out.size)⟩

end Go.Proofs.Ytlndjjdggedljaa

/- MathH -/
namespace Go.Proofs.Ytlndjjdggedljaa

/-- Of the starts before k in the set, the first with the smallest way to u. -/
def Tk.near (t : Tk) (S : Nat → Bool) (u : Nat) : Nat → Option Nat
  | 0 => none
  | k + 1 => if S k = true then (match t.near S u k with
      | none => some k
      | some b => if t.way k u < t.way b u then some k else some b) else t.near S u k
theorem Tk.near_out (t : Tk) {S : Nat → Bool} (u : Nat) {k : Nat} (h : ¬ S k = true) : t.near S u (k + 1) = t.near S u k := by
  show (if _ then _ else _) = _
  rw [if_neg h]
theorem Tk.near_new (t : Tk) {S : Nat → Bool} {u k : Nat} (h : S k = true) (e : t.near S u k = none) : t.near S u (k + 1) = some k := by
  show (if _ then _ else _) = _
  rw [if_pos h, e]
theorem Tk.near_less (t : Tk) {S : Nat → Bool} {u k b : Nat} (h : S k = true) (e : t.near S u k = some b) (g : t.way k u < t.way b u) : t.near S u (k + 1) = some k := by
  show (if _ then _ else _) = _
  rw [if_pos h, e]
  show (if _ then _ else _) = _
  rw [if_pos g]
theorem Tk.near_more (t : Tk) {S : Nat → Bool} {u k b : Nat} (h : S k = true) (e : t.near S u k = some b) (g : ¬ t.way k u < t.way b u) : t.near S u (k + 1) = some b := by
  show (if _ then _ else _) = _
  rw [if_pos h, e]
  show (if _ then _ else _) = _
  rw [if_neg g]
theorem Tk.near_spec (t : Tk) (S : Nat → Bool) (u : Nat) : ∀ k : Nat, (t.near S u k = none → ∀ s, s < k → ¬ S s = true) ∧
    (∀ b, t.near S u k = some b → b < k ∧ S b = true ∧ ∀ s, s < k → S s = true → t.way b u ≤ t.way s u) := by
  intro k
  induction k with
  | zero => exact ⟨fun _ s hs => by omega, fun b h => by cases h⟩
  | succ k ih =>
    by_cases h : S k = true
    · cases e : t.near S u k with
      | none =>
        rw [t.near_new h e]
        refine ⟨fun g => (by cases g), fun b g => ?_⟩
        injection g with g
        subst g
        refine ⟨by omega, h, fun s hs hS => ?_⟩
        by_cases es : s = k
        · subst es; exact Int.le_refl _
        · exact absurd hS (ih.1 e s (by omega))
      | some b0 =>
        obtain ⟨h1, h2, h3⟩ := ih.2 b0 e
        by_cases g : t.way k u < t.way b0 u
        · rw [t.near_less h e g]
          refine ⟨fun g => (by cases g), fun b g' => ?_⟩
          injection g' with g'
          subst g'
          refine ⟨by omega, h, fun s hs hS => ?_⟩
          by_cases es : s = k
          · subst es; exact Int.le_refl _
          · have := h3 s (by omega) hS
            omega
        · rw [t.near_more h e g]
          refine ⟨fun g => (by cases g), fun b g' => ?_⟩
          injection g' with g'
          subst g'
          refine ⟨by omega, h2, fun s hs hS => ?_⟩
          by_cases es : s = k
          · subst es; omega
          · exact h3 s (by omega) hS
    · rw [t.near_out u h]
      refine ⟨fun e s hs => ?_, fun b e => ?_⟩
      · by_cases es : s = k
        · subst es; exact h
        · exact ih.1 e s (by omega)
      · obtain ⟨h1, h2, h3⟩ := ih.2 b e
        refine ⟨by omega, h2, fun s hs hS => ?_⟩
        by_cases es : s = k
        · subst es; exact absurd hS h
        · exact h3 s (by omega) hS
/-- The start that the hour u is served from. -/
def Tk.ast (t : Tk) (S : Nat → Bool) (u : Nat) : Nat := (t.near S u (u + 1)).getD 0
theorem Tk.ast_le (t : Tk) (S : Nat → Bool) (u : Nat) : t.ast S u ≤ u := by
  unfold Tk.ast
  cases e : t.near S u (u + 1) with
  | none => exact Nat.zero_le _
  | some b =>
    have := ((t.near_spec S u (u + 1)).2 b e).1
    show b ≤ u
    omega
/-- Of an hour with a need, some start is not after it. -/
def Tk.Can (t : Tk) (S : Nat → Bool) (n : Nat) : Prop := ∀ u, u < n → t.d u ≠ 0 → t.near S u (u + 1) ≠ none

/-- The plan in which each hour u of the first m is served from a u. -/
def Tk.asg (t : Tk) (a : Nat → Nat) (m i : Nat) : Int := sm (fun u => if a u = i then t.d u else 0) 0 m
theorem Tk.asg_succ (t : Tk) (a : Nat → Nat) (m i : Nat) : t.asg a (m + 1) i = t.asg a m i + (if a m = i then t.d m else 0) := sm_succ (Nat.zero_le _)
theorem sm_one (x : Int) (k : Nat) : ∀ n : Nat, sm (fun i => if k = i then x else 0) 0 n = if k < n then x else 0 := by
  intro n
  induction n with
  | zero => rw [if_neg (by omega)]; rfl
  | succ n ih =>
    rw [sm_succ (Nat.zero_le _), ih]
    by_cases e : k = n
    · subst e
      rw [if_neg (Nat.lt_irrefl k), if_pos rfl, if_pos (by omega)]
      omega
    · by_cases g : k < n
      · rw [if_pos g, if_neg e, if_pos (by omega)]; omega
      · rw [if_neg g, if_neg e, if_neg (by omega)]; omega

section
variable {t : Tk} {n : Nat} {a : Nat → Nat} {p : Nat → Int}
theorem Tk.asg_cum (t : Tk) (a : Nat → Nat) (n k : Nat) : sm (t.asg a n) 0 k = sm (fun u => if a u < k then t.d u else 0) 0 n := by
  have e : sm (t.asg a n) 0 k = sm (fun i => sm (fun u => if a u = i then t.d u else 0) 0 n) 0 k := rfl
  rw [e, sm_swap (fun u i => if a u = i then t.d u else 0) n k]
  exact sm_congr fun u _ _ => sm_one _ _ _
theorem Tk.asg_right (ok : t.Ok n) (hn : n ≤ 12) (ha : ∀ u, u < n → a u ≤ u) : t.Right (t.asg a n) n := by
  refine ⟨fun i hi => ⟨sm_nonneg fun u _ hu => by split <;> first | exact ok.d0 u hu | omega, ?_⟩, fun i hi => ?_, ?_⟩
  · have := ok.units1 0 (Nat.le_refl n) hn
    have g : t.asg a n i ≤ t.units 0 n := sm_mono fun u _ hu => by
      have := ok.d0 u hu
      split <;> omega
    omega
  · rw [Tk.stk_eq, Tk.asg_cum]
    have g := sm_le (f := fun u => if a u < i + 1 then t.d u else 0) (s := 0) (m := i + 1) (n := n) (fun u _ hu => by
      have := ok.d0 u hu
      show 0 ≤ if a u < i + 1 then t.d u else 0
      split <;> omega) (by omega)
    have e : sm (fun u => if a u < i + 1 then t.d u else 0) 0 (i + 1) = sm t.d 0 (i + 1) := sm_congr fun u _ hu => by
      have := ha u (by omega)
      rw [if_pos (by omega)]
    omega
  · rw [Tk.stk_eq, Tk.asg_cum]
    have e : sm (fun u => if a u < n then t.d u else 0) 0 n = sm t.d 0 n := sm_congr fun u _ hu => by
      have := ha u (by omega)
      rw [if_pos (by omega)]
    omega
theorem Tk.asg_sum (t : Tk) (g : Nat → Int) (ha : ∀ u, u < n → a u < n) : sm (fun i => g i * t.asg a n i) 0 n = sm (fun u => g (a u) * t.d u) 0 n := by
  have e : sm (fun i => g i * t.asg a n i) 0 n = sm (fun i => sm (fun u => if a u = i then g (a u) * t.d u else 0) 0 n) 0 n := sm_congr fun i _ _ => by
    unfold Tk.asg
    rw [← sm_mul]
    refine sm_congr fun u _ _ => ?_
    by_cases h : a u = i
    · rw [if_pos h, if_pos h, h]
    · rw [if_neg h, if_neg h, Int.mul_zero]
  rw [e, sm_swap (fun u i => if a u = i then g (a u) * t.d u else 0) n n]
  refine sm_congr fun u _ hu => ?_
  show sm (fun i => if a u = i then g (a u) * t.d u else 0) 0 n = _
  rw [sm_one, if_pos (ha u hu)]
theorem Tk.asg_runs (ok : t.Ok n) (hn : n ≤ 12) (ha : ∀ u, u < n → a u ≤ u) : t.runs (t.asg a n) n = sm (fun u => t.d u * t.way (a u) u) 0 n := by
  have r := Tk.asg_right ok hn ha
  have e4 : t.runs (t.asg a n) n = sm (fun s => t.c s * t.asg a n s) 0 n + t.h * sm (fun i => t.stk (t.asg a n) (i + 1)) 0 n := by
    unfold Tk.runs
    rw [sm_add, sm_mul]
  have b := t.abel (t.asg a n) n
  rw [r.last, Int.mul_zero] at b
  have ha' : ∀ u, u < n → a u < n := fun u hu => by have := ha u hu; omega
  rw [t.asg_sum (fun i => (i : Int)) ha'] at b
  rw [t.asg_sum t.c ha'] at e4
  have e5 : sm (fun i => t.stk (t.asg a n) (i + 1)) 0 n = sm (fun u => (u : Int) * t.d u) 0 n - sm (fun u => (a u : Int) * t.d u) 0 n := by omega
  rw [e4, e5, ← sm_sub, ← sm_mul, ← sm_add]
  refine sm_congr fun u _ _ => ?_
  unfold Tk.way
  rw [← Int.sub_mul, ← Int.mul_assoc, ← Int.add_mul, Int.mul_comm]
/-- Where the plan p is right, no hour's start is worse than p's own, and only p's starts are used, the plan costs no more. -/
theorem Tk.asg_le (ok : t.Ok n) (hn : n ≤ 12) (r : t.Right p n) (ha : ∀ u, u < n → a u ≤ u) (h1 : ∀ u, u < n → t.d u ≠ 0 → 0 < p (a u))
    (h2 : ∀ u, u < n → t.d u ≠ 0 → ∀ s, s ≤ u → 0 < p s → t.way (a u) u ≤ t.way s u) : t.cost (t.asg a n) n ≤ t.cost p n := by
  have g1 : t.begs (t.asg a n) n ≤ t.begs p n := sm_mono fun i _ hi => by
    have k0 := ok.K0
    by_cases g : 0 < p i
    · rw [if_pos g]
      split <;> omega
    · have e : t.asg a n i = 0 := sm_none fun u _ hu => by
        by_cases e : a u = i
        · rw [if_pos e]
          by_cases d : t.d u = 0
          · exact d
          · have := h1 u hu d
            rw [e] at this
            exact absurd this g
        · rw [if_neg e]
      rw [e, if_neg (by omega), if_neg g]
      omega
  have g2 : t.runs (t.asg a n) n ≤ t.runs p n := by
    rw [Tk.asg_runs ok hn ha, ← Tk.ways_sum ok r, ← sm_swap (fun s u => t.fl p s u * t.way s u) n n]
    refine sm_mono fun u _ hu => ?_
    rw [← Tk.fl_need ok r hu, Int.mul_comm, ← sm_mul]
    refine sm_mono fun s _ hs => ?_
    have f0 := Tk.fl_nonneg ok r hs hu
    have f1 := Tk.fl_le ok r hs hu
    by_cases z : t.fl p s u = 0
    · rw [z, Int.mul_zero, Int.zero_mul]
      omega
    · have hsu : s ≤ u := by
        by_cases q : s ≤ u
        · exact q
        · exact absurd (Tk.fl_late ok r hs (by omega)) z
      have w := h2 u hu (by omega) s hsu (by omega)
      rw [Int.mul_comm]
      exact Int.mul_le_mul_of_nonneg_left w f0
  unfold Tk.cost
  omega
/-- A right plan has a start not after an hour with a need. -/
theorem Tk.Right.start (ok : t.Ok n) (r : t.Right p n) {u : Nat} (hu : u < n) (hd : t.d u ≠ 0) : ∃ s, s ≤ u ∧ 0 < p s := by
  by_cases h : ∃ s, s ≤ u ∧ 0 < p s
  · exact h
  · exfalso
    have a := r.stk u hu
    rw [Tk.stk_eq, sm_none (f := p) (fun i _ hi => by
      have := r.p0 i (by omega)
      by_cases g : 0 < p i
      · exact absurd ⟨i, by omega, g⟩ h
      · omega)] at a
    have b := sm_pos (f := t.d) (s := 0) (n := u + 1) (i := u) (fun j _ hj => ok.d0 j (by omega)) (Nat.zero_le _) (by omega)
    have c := ok.d0 u hu
    omega
/-- The starts of a right plan make a plan, and it costs no more. -/
theorem Tk.set_le (ok : t.Ok n) (hn : n ≤ 12) (r : t.Right p n) {S : Nat → Bool} (hS : ∀ s, s < n → (S s = true ↔ 0 < p s)) :
    t.Can S n ∧ t.cost (t.asg (t.ast S) n) n ≤ t.cost p n := by
  have can : t.Can S n := fun u hu hd e => by
    obtain ⟨s, h1, h2⟩ := Tk.Right.start ok r hu hd
    exact (t.near_spec S u (u + 1)).1 e s (by omega) ((hS s (by omega)).2 h2)
  refine ⟨can, Tk.asg_le ok hn r (fun u _ => t.ast_le S u) (fun u hu hd => ?_) (fun u hu hd s hs hp => ?_)⟩
  · cases e : t.near S u (u + 1) with
    | none => exact absurd e (can u hu hd)
    | some b =>
      obtain ⟨h1, h2, _⟩ := (t.near_spec S u (u + 1)).2 b e
      have : t.ast S u = b := by unfold Tk.ast; rw [e]; rfl
      rw [this]
      exact (hS b (by omega)).1 h2
  · cases e : t.near S u (u + 1) with
    | none => exact absurd e (can u hu hd)
    | some b =>
      obtain ⟨_, _, h3⟩ := (t.near_spec S u (u + 1)).2 b e
      have : t.ast S u = b := by unfold Tk.ast; rw [e]; rfl
      rw [this]
      exact h3 s (by omega) ((hS s (by omega)).2 hp)
end

end Go.Proofs.Ytlndjjdggedljaa

/- MathI -/
namespace Go.Proofs.Ytlndjjdggedljaa
open Go.RowKit

/-- Whether the hour s is in the set that the number x stands for, as the program asks it. -/
def bitS (x : Nat) (s : Nat) : Bool := bits BinOp.and IntKind.i64 ((x : Int) / 2 ^ min (IntKind.u64.wrap (s : Int)).toNat 64) 1 == 1
def nearI (o : Option Nat) : Int := match o with
  | none => -1
  | some b => (b : Int)
def Tk.aL (t : Tk) (a : Nat → Nat) (n k : Nat) : List Int := (List.range n).map (t.asg a k)
theorem Tk.aL_len (t : Tk) (a : Nat → Nat) (n k : Nat) : (t.aL a n k).length = n := by simp [Tk.aL]
theorem Tk.aL_get (t : Tk) (a : Nat → Nat) {n k i : Nat} (h : i < n) : (t.aL a n k).getD i 0 = t.asg a k i := by simp [Tk.aL, List.getD_eq_getElem?_getD, h]
theorem Tk.aL_zero (t : Tk) (a : Nat → Nat) (n : Nat) : t.aL a n 0 = List.replicate n 0 := by
  apply list_ext_getD (by simp [Tk.aL])
  intro j hj
  rw [Tk.aL_len] at hj
  rw [Tk.aL_get _ _ hj, List.getD_eq_getElem?_getD, List.getElem?_replicate, if_pos hj]
  rfl
theorem Tk.aL_none (t : Tk) (a : Nat → Nat) {n k : Nat} (h : t.d k = 0) : t.aL a n (k + 1) = t.aL a n k := by
  apply list_ext_getD (by simp [Tk.aL])
  intro j hj
  rw [Tk.aL_len] at hj
  rw [Tk.aL_get _ _ hj, Tk.aL_get _ _ hj, Tk.asg_succ, h]
  split <;> omega
theorem Tk.aL_next (t : Tk) (a : Nat → Nat) {n k : Nat} {x : Int} (h : a k < n) (hx : (t.aL a n k).getD (a k) 0 + t.d k = x) : (t.aL a n k).set (a k) x = t.aL a n (k + 1) := by
  apply list_ext_getD (by simp [Tk.aL])
  intro j hj
  have hj' : j < n := by simpa [Tk.aL] using hj
  rw [Tk.aL_get _ _ hj', Tk.asg_succ]
  by_cases e : a k = j
  · subst e
    rw [getD_set_eq (by simp [Tk.aL]; exact h), if_pos rfl, ← Tk.aL_get t a h]
    exact hx.symm
  · rw [getD_set_ne e, Tk.aL_get _ _ hj', if_neg e]
    omega
theorem Tk.asg_bound {t : Tk} {n : Nat} (ok : t.Ok n) (hn : n ≤ 12) {a : Nat → Nat} {m : Nat} (hm : m ≤ n) (i : Nat) : 0 ≤ t.asg a m i ∧ t.asg a m i ≤ 600 := by
  refine ⟨sm_nonneg fun u _ hu => by have := ok.d0 u (by omega); split <;> omega, ?_⟩
  have g : t.asg a m i ≤ t.units 0 m := sm_mono fun u _ hu => by
    have := ok.d0 u (by omega)
    split <;> omega
  have := ok.units1 0 hm hn
  omega
def AtPost (t : Tk) (S : Nat → Bool) (n : Nat) (w : World) (e : Ending) (w' : World) : Prop :=
  Below w.heap.size w w' ∧ ((¬ t.Can S n ∧ e = .returned (.tuple #[.slice none 0 0, .bool false])) ∨
    (t.Can S n ∧ ∃ A c, e = .returned (.tuple #[.slice A n c, .bool true]) ∧ Own w' w.heap.size A n c (t.aL (t.ast S) n n)))

end Go.Proofs.Ytlndjjdggedljaa

/- WalkAt -/
namespace Go.Proofs.Ytlndjjdggedljaa
open Go.RowKit

set_option maxRecDepth 100000 in
set_option maxHeartbeats 4000000 in
theorem rat_any (K h : Int) (A : Option Addr) (n c : Nat) (cs : List Int) (A' : Option Addr) (c' : Nat) (ds : List Int) (x : Nat) (w : World) (hT : Tin w A n c cs A' n c' ds)
    (ok : (tk K h cs ds).Ok n) (hn1 : 1 ≤ n) (hn : n ≤ 12) :
    Calls Try.prog 73 #[.agg #[.int .i64 K, .int .i64 h, .slice A n c, .slice A' n c'], .int .i64 x] w (AtPost (tk K h cs ds) (bitS x) n w) := by
  have HT := hide hT
  have OK := hide ok
  obtain ⟨b, off, r⟩ := hT.2
  obtain rfl := r.at_ (by omega)
  have hcap := r.cap
  have hmax := r.max
  have B0 := hide ((Below.refl w.heap.size w).alloc (Nat.le_refl _) (.cells #[.int .i64 K, .int .i64 h, .slice A n c, .slice (some ⟨b, off, none⟩) n c'] 24))
  have K0 := hide (Bk.born w 24 #[.int .i64 K, .int .i64 h, .slice A n c, .slice (some ⟨b, off, none⟩) n c'])
  have R := hide r
  clear hT ok r
  obtain ⟨k0, k1, k2, k3, _⟩ := K0.out.four
  go_enter Try.func73, Try.ntmps73
  go_wp2_with (at_make; refine wpList_mk _ rfl _ _ rfl w.heap.size n rfl rfl (by omega) (by simp) ?_; intro w1 o1 b1 s1)
  have B1 := hide (B0.out.trans (b1.mono (by simp)))
  have K1 := hide (K0.out.keep b1 (by simp))
  have O1 := hide o1
  simp only [World.size_alloc] at *
  clear b1 o1 k0 k1 k2 k3
  have BT := hide (show ∀ q : Nat, bitS x q = (bits BinOp.and IntKind.i64 ((x : Int) / 2 ^ min (IntKind.u64.wrap (q : Int)).toNat 64) 1 == 1) from fun q => rfl)
  generalize hS : bitS x = S at *
  go_loopw [7] (fun i wr => ∃ k : Nat, k ≤ n ∧ i = .int .i64 k ∧ (∀ u, u < k → (tk K h cs ds).d u ≠ 0 → (tk K h cs ds).near S u (u + 1) ≠ none) ∧
      Own wr w.heap.size (some ⟨w.heap.size + 1, 0, none⟩) n n ((tk K h cs ds).aL ((tk K h cs ds).ast S) n k) ∧
      Bk wr w.heap.size 24 #[.int .i64 K, .int .i64 h, .slice A n c, .slice (some ⟨b, off, none⟩) n c'] ∧ Below w.heap.size w wr) (fun i _ => n - (intOf i).toNat)
  case atStart => exact ⟨0, by omega, rfl, fun u hu => by omega, by rw [Tk.aL_zero]; exact O1.out, K1.out, B1.out⟩
  case round =>
    obtain ⟨k, hk, rfl, hcan, ho, hb, hbel⟩ := hrel
    have HC := hide hcan
    have HO := hide ho
    have HB := hide hb
    have HBL := hide hbel
    clear hcan ho hb hbel
    obtain ⟨k0, k1, k2, k3, _⟩ := HB.out.four
    by_cases hlt : k < n
    · have d0 := OK.out.d0 k hlt
      have d1 := OK.out.d1 k hlt
      have cd := (R.out.below HBL.out (Nat.le_refl _)).cell k hlt
      rw [← tk_d K h cs ds k] at cd
      have HN := hide (fun (e : (tk K h cs ds).d k = 0) => (tk K h cs ds).aL_none ((tk K h cs ds).ast S) (n := n) e)
      generalize hy : (tk K h cs ds).d k = y at *
      have HY := hide hy
      clear hy
      have l2 : (k : Int) < n := by omega
      by_cases h0 : y = 0
      · subst h0
        go_wp2_with fail
        go_roundw
        case rel => exact ⟨k + 1, by omega, by go_num, fun u hu hd => by
          by_cases e : u = k
          · subst e; exact absurd HY.out hd
          · exact HC.out u (by omega) hd, by rw [HN.out rfl]; exact HO.out, HB.out, HBL.out⟩
        case measure => simp [intOf]; omega
      · have h0' : (y == 0) = false := by simpa using h0
        go_wp2_with fail
        clear k0 k1 k2 k3 cd
        have HTr := hide (HT.out.below HBL.out (Nat.le_refl _))
        go_loopw [8, 9] (fun v i wi => ∃ q : Nat, q ≤ k + 1 ∧ i = .int .i64 q ∧ v = .int .i64 (nearI ((tk K h cs ds).near S k q)) ∧
            Bk wi w.heap.size 24 #[.int .i64 K, .int .i64 h, .slice A n c, .slice (some ⟨b, off, none⟩) n c'] ∧ Below wr.heap.size wr wi) (fun _ i _ => k + 1 - (intOf i).toNat)
        case atStart => exact ⟨0, by omega, rfl, rfl, HB.out, Below.refl _ _⟩
        case round =>
          obtain ⟨q, hq, rfl, rfl, hb, hbel⟩ := hrel
          have HBi := hide hb
          have HLi := hide hbel
          obtain ⟨k0, k1, k2, k3, _⟩ := hb.four
          clear hb hbel
          have HTi := hide (HTr.out.below HLi.out (Nat.le_refl _))
          by_cases hqk : q ≤ k
          · have l3 : (q : Int) ≤ k := by omega
            have HW1 := hide (fun W hw => rway_any K h A n c cs (some ⟨b, off, none⟩) n c' ds q k W hw OK.out hqk hlt hn)
            have bt := BT.out q
            by_cases hSq : S q = true
            · rw [hSq] at bt
              have bt' := bt.symm
              clear bt
              have wq : IntKind.u64.wrap (q : Int) = q := IntWalk.u64_in _ (by omega)
              have wm : min q 64 = q := by omega
              rw [wq, Int.toNat_natCast, wm] at bt'
              generalize hbb : bits BinOp.and IntKind.i64 ((x : Int) / 2 ^ q) 1 = bb at *
              have bt2 : decide (bb = 1) = true := by simpa using bt'
              cases hnr : (tk K h cs ds).near S k q with
              | none =>
                have HV := hide (show nearI ((tk K h cs ds).near S k (q + 1)) = (q : Int) by rw [(tk K h cs ds).near_new hSq hnr]; rfl)
                rw [show nearI none = -1 from rfl]
                go_wp2_with fail
                go_quiet (fail)
                all_goals
                  go_wp2_with fail
                  go_roundw
                  case rel => exact ⟨q + 1, by omega, by go_num, by rw [HV.out], HBi.out.draws _, below_drewN HLi.out _⟩
                  case measure => simp [intOf]; omega
              | some bn =>
                obtain rfl : bb = 1 := by simpa using bt2
                clear bt2 bt'
                have lb : ¬ ((bn : Int) < 0) := by omega
                rw [show nearI (some bn) = (bn : Int) from rfl]
                obtain ⟨m1, m2, m3⟩ := ((tk K h cs ds).near_spec S k q).2 bn hnr
                have HW2 := hide (fun W hw => rway_any K h A n c cs (some ⟨b, off, none⟩) n c' ds bn k W hw OK.out (by omega) hlt hn)
                have HL := hide (fun (e : (tk K h cs ds).way q k < (tk K h cs ds).way bn k) => (tk K h cs ds).near_less hSq hnr e)
                have HM := hide (fun (e : ¬ (tk K h cs ds).way q k < (tk K h cs ds).way bn k) => (tk K h cs ds).near_more hSq hnr e)
                have sz := HLi.out.size
                have bl : b < wr.heap.size := by have := R.out.lt (by omega); have := HBL.out.size; omega
                clear m1 m2 m3
                generalize (tk K h cs ds).way q k = z1 at *
                generalize (tk K h cs ds).way bn k = z2 at *
                go_wp2_with fail
                refine wp_region_held_drew (S := (fun w' => w'.cell? ⟨w.heap.size, 0, none⟩ = some (.int .i64 K) ∧ w'.cell? ⟨w.heap.size, 1, none⟩ = some (.int .i64 h) ∧ w'.cell? ⟨w.heap.size, 2, none⟩ = some (.slice A n c) ∧ w'.cell? ⟨w.heap.size, 3, none⟩ = some (.slice (some ⟨b, off, none⟩) n c'))) (by kernel_rfl) ?_ (fun hHeld => ?_)
                · (try dsimp only)
                  go_keep
                refine wpAnyH_take (i := 0) (oi := { dst := some 32, op := Op.move (Operand.tmp 1), type := 3, pos := "ref.go:130", after := #[], guard := none }) (v := ?_) rfl (by kernel_rfl) (by kernel_rfl) (by kernel_rfl) (fun _ _ _ h => h) (Or.inl ⟨by rfl, ?_⟩) (by assumption) ?_
                rotate_left
                · intro w hSw
                  (try dsimp only at hSw)
                  first | (go_simp; done) | (go_simp; with_reducible rfl)
                try simp only [Act.put, List.setIfInBounds_toArray, List.set_cons_zero, List.set_cons_succ]
                refine wpAnyH_take (i := 1) (oi := { dst := some 33, op := Op.move (Operand.tmp 9), type := 3, pos := "ref.go:130", after := #[], guard := none }) (v := ?_) rfl (by kernel_rfl) (by kernel_rfl) (by kernel_rfl) (fun _ _ _ h => h) (Or.inl ⟨by rfl, ?_⟩) (by assumption) ?_
                rotate_left
                · intro w hSw
                  (try dsimp only at hSw)
                  first | (go_simp; done) | (go_simp; with_reducible rfl)
                try simp only [Act.put, List.setIfInBounds_toArray, List.set_cons_zero, List.set_cons_succ]
                refine wpAnyH_take (i := 2) (oi := { dst := some 34, op := Op.convert 3 75 (Operand.tmp 33), type := 75, pos := "ref.go:130", after := #[{ on := 1, ground := Ground.data }], guard := none }) (v := ?_) rfl (by kernel_rfl) (by kernel_rfl) (by kernel_rfl) (fun _ _ _ h => h) (Or.inl ⟨by rfl, ?_⟩) (by assumption) ?_
                rotate_left
                · intro w hSw
                  (try dsimp only at hSw)
                  first | (go_simp; done) | (go_simp; with_reducible rfl)
                try simp only [Act.put, List.setIfInBounds_toArray, List.set_cons_zero, List.set_cons_succ]
                refine wpAnyH_take (i := 3) (oi := { dst := some 35, op := Op.binOp BinOp.shr 3 (Operand.tmp 32) (Operand.tmp 34) 75, type := 3, pos := "ref.go:130", after := #[{ on := 0, ground := Ground.data }, { on := 2, ground := Ground.data }], guard := none }) (v := ?_) rfl (by kernel_rfl) (by kernel_rfl) (by kernel_rfl) (fun _ _ _ h => h) (Or.inl ⟨by rfl, ?_⟩) (by assumption) ?_
                rotate_left
                · intro w hSw
                  (try dsimp only at hSw)
                  first | (go_simp; done) | (go_simp; with_reducible rfl)
                try simp only [Act.put, List.setIfInBounds_toArray, List.set_cons_zero, List.set_cons_succ]
                refine wpAnyH_take (i := 4) (oi := { dst := some 36, op := Op.binOp BinOp.and 3 (Operand.tmp 35) (Operand.const (Value.int IntKind.i64 1)) 3, type := 3, pos := "ref.go:130", after := #[{ on := 3, ground := Ground.data }], guard := none }) (v := ?_) rfl (by kernel_rfl) (by kernel_rfl) (by kernel_rfl) (fun _ _ _ h => h) (Or.inl ⟨by rfl, ?_⟩) (by assumption) ?_
                rotate_left
                · intro w hSw
                  (try dsimp only at hSw)
                  first | (go_simp; done) | (go_simp; with_reducible rfl)
                try simp only [Act.put, List.setIfInBounds_toArray, List.set_cons_zero, List.set_cons_succ]
                refine wpAnyH_take (i := 5) (oi := { dst := some 37, op := Op.binOp BinOp.eql 3 (Operand.tmp 36) (Operand.const (Value.int IntKind.i64 1)) 3, type := 4, pos := "ref.go:130", after := #[{ on := 4, ground := Ground.data }], guard := none }) (v := .bool true) rfl (by kernel_rfl) (by kernel_rfl) (by kernel_rfl) (fun _ _ _ h => h) (Or.inl ⟨by rfl, ?_⟩) (by assumption) ?_
                · intro w hSw
                  (try dsimp only at hSw)
                  first | (go_simp; done) | (go_simp; with_reducible rfl)
                try simp only [Act.put, List.setIfInBounds_toArray, List.set_cons_zero, List.set_cons_succ]
                refine wpAnyH_take (i := 6) (oi := { dst := some 38, op := Op.move (Operand.tmp 37), type := 4, pos := "ref.go:130", after := #[{ on := 5, ground := Ground.data }], guard := none }) (v := .bool true) rfl (by kernel_rfl) (by kernel_rfl) (by kernel_rfl) (fun _ _ _ h => h) (Or.inl ⟨by rfl, ?_⟩) (by assumption) ?_
                · intro w hSw
                  (try dsimp only at hSw)
                  first | (go_simp; done) | (go_simp; with_reducible rfl)
                try simp only [Act.put, List.setIfInBounds_toArray, List.set_cons_zero, List.set_cons_succ]
                refine wpAnyH_take (i := 7) (oi := { dst := some 39, op := Op.move (Operand.tmp 8), type := 3, pos := "ref.go:130", after := #[{ on := 6, ground := Ground.guard }], guard := some (6, true) }) (v := ?_) rfl (by kernel_rfl) (by kernel_rfl) (by kernel_rfl) (fun _ _ _ h => h) (Or.inl ⟨by rfl, ?_⟩) (by assumption) ?_
                rotate_left
                · intro w hSw
                  (try dsimp only at hSw)
                  first | (go_simp; done) | (go_simp; with_reducible rfl)
                try simp only [Act.put, List.setIfInBounds_toArray, List.set_cons_zero, List.set_cons_succ]
                refine wpAnyH_take (i := 8) (oi := { dst := some 40, op := Op.binOp BinOp.lss 3 (Operand.tmp 39) (Operand.const (Value.int IntKind.i64 0)) 3, type := 4, pos := "ref.go:130", after := #[{ on := 7, ground := Ground.data }, { on := 6, ground := Ground.guard }], guard := some (6, true) }) (v := .bool false) rfl (by kernel_rfl) (by kernel_rfl) (by kernel_rfl) (fun _ _ _ h => h) (Or.inl ⟨by rfl, ?_⟩) (by assumption) ?_
                · intro w hSw
                  (try dsimp only at hSw)
                  first | (go_simp; done) | (go_simp; with_reducible rfl)
                try simp only [Act.put, List.setIfInBounds_toArray, List.set_cons_zero, List.set_cons_succ]
                refine wpAnyH_take (i := 9) (oi := { dst := some 41, op := Op.move (Operand.tmp 40), type := 4, pos := "ref.go:130", after := #[{ on := 8, ground := Ground.data }, { on := 6, ground := Ground.chain }, { on := 6, ground := Ground.guard }], guard := some (6, true) }) (v := .bool false) rfl (by kernel_rfl) (by kernel_rfl) (by kernel_rfl) (fun _ _ _ h => h) (Or.inl ⟨by rfl, ?_⟩) (by assumption) ?_
                · intro w hSw
                  (try dsimp only at hSw)
                  first | (go_simp; done) | (go_simp; with_reducible rfl)
                try simp only [Act.put, List.setIfInBounds_toArray, List.set_cons_zero, List.set_cons_succ]
                refine wpAnyH_take (i := 10) (oi := { dst := some 42, op := Op.load 24 (Operand.tmp 2), type := 24, pos := "ref.go:130", after := #[{ on := 9, ground := Ground.guard }], guard := some (9, false) }) (v := ?_) rfl (by kernel_rfl) (by kernel_rfl) (by kernel_rfl) (fun _ _ _ h => h) (Or.inl ⟨by rfl, ?_⟩) (by assumption) ?_
                rotate_left
                · intro w hSw
                  (try dsimp only at hSw)
                  first | (go_simp; done) | (go_simp; with_reducible rfl)
                try simp only [Act.put, List.setIfInBounds_toArray, List.set_cons_zero, List.set_cons_succ]
                refine wpAnyH_take (i := 11) (oi := { dst := some 43, op := Op.move (Operand.tmp 9), type := 3, pos := "ref.go:130", after := #[{ on := 9, ground := Ground.guard }], guard := some (9, false) }) (v := ?_) rfl (by kernel_rfl) (by kernel_rfl) (by kernel_rfl) (fun _ _ _ h => h) (Or.inl ⟨by rfl, ?_⟩) (by assumption) ?_
                rotate_left
                · intro w hSw
                  (try dsimp only at hSw)
                  first | (go_simp; done) | (go_simp; with_reducible rfl)
                try simp only [Act.put, List.setIfInBounds_toArray, List.set_cons_zero, List.set_cons_succ]
                refine wpAnyH_take (i := 12) (oi := { dst := some 44, op := Op.move (Operand.tmp 7), type := 3, pos := "ref.go:130", after := #[{ on := 9, ground := Ground.guard }], guard := some (9, false) }) (v := ?_) rfl (by kernel_rfl) (by kernel_rfl) (by kernel_rfl) (fun _ _ _ h => h) (Or.inl ⟨by rfl, ?_⟩) (by assumption) ?_
                rotate_left
                · intro w hSw
                  (try dsimp only at hSw)
                  first | (go_simp; done) | (go_simp; with_reducible rfl)
                try simp only [Act.put, List.setIfInBounds_toArray, List.set_cons_zero, List.set_cons_succ]
                refine wpAnyH_take (i := 14) (oi := { dst := some 46, op := Op.load 24 (Operand.tmp 2), type := 24, pos := "ref.go:130", after := #[{ on := 9, ground := Ground.guard }], guard := some (9, false) }) (v := ?_) rfl (by kernel_rfl) (by kernel_rfl) (by kernel_rfl) (fun _ _ _ h => h) (Or.inl ⟨by rfl, ?_⟩) (by assumption) ?_
                rotate_left
                · intro w hSw
                  (try dsimp only at hSw)
                  first | (go_simp; done) | (go_simp; with_reducible rfl)
                try simp only [Act.put, List.setIfInBounds_toArray, List.set_cons_zero, List.set_cons_succ]
                refine wpAnyH_take (i := 15) (oi := { dst := some 47, op := Op.move (Operand.tmp 8), type := 3, pos := "ref.go:130", after := #[{ on := 9, ground := Ground.guard }], guard := some (9, false) }) (v := ?_) rfl (by kernel_rfl) (by kernel_rfl) (by kernel_rfl) (fun _ _ _ h => h) (Or.inl ⟨by rfl, ?_⟩) (by assumption) ?_
                rotate_left
                · intro w hSw
                  (try dsimp only at hSw)
                  first | (go_simp; done) | (go_simp; with_reducible rfl)
                try simp only [Act.put, List.setIfInBounds_toArray, List.set_cons_zero, List.set_cons_succ]
                refine wpAnyH_take (i := 16) (oi := { dst := some 48, op := Op.move (Operand.tmp 7), type := 3, pos := "ref.go:130", after := #[{ on := 9, ground := Ground.guard }], guard := some (9, false) }) (v := ?_) rfl (by kernel_rfl) (by kernel_rfl) (by kernel_rfl) (fun _ _ _ h => h) (Or.inl ⟨by rfl, ?_⟩) (by assumption) ?_
                rotate_left
                · intro w hSw
                  (try dsimp only at hSw)
                  first | (go_simp; done) | (go_simp; with_reducible rfl)
                try simp only [Act.put, List.setIfInBounds_toArray, List.set_cons_zero, List.set_cons_succ]
                have T1 := hide (HTi.out.below (below_drewN (Below.refl wr.heap.size wr) 1) (Nat.le_refl _))
                refine wpAnyH_ready (rs := [13]) (by kernel_rfl) (by simp) ?_
                refine AllReadyH.cons (o := { dst := some 45, op := Op.call { callee := Callee.value (Operand.func 74), args := #[Operand.tmp 42, Operand.tmp 43, Operand.tmp 44], argTypes := #[24, 3, 3] }, type := 3, pos := "ref.go:130", after := #[{ on := 10, ground := Ground.data }, { on := 11, ground := Ground.data }, { on := 12, ground := Ground.data }, { on := 9, ground := Ground.chain }, { on := 9, ground := Ground.guard }], guard := some (9, false) }) rfl (fun K hK => ?_) AllReadyH.nil
                rw [if_pos (by rfl)]
                go_simp
                go_at_call 74
                refine (HW1.out _ T1.out).mono ?_
                rintro e8 w8 ⟨rfl, b8⟩
                have KY := hide ((HBi.out.draws 1).keep b8 HBi.out.in_)
                obtain ⟨p0, p1, p2, p3, _⟩ := KY.out.four
                first | refine hK.out _ _ ⟨p0, p1, p2, p3⟩ (fun hHeld => ?_) | (go_wp2_with fail; refine hK.out _ _ ⟨p0, p1, p2, p3⟩ (fun hHeld => ?_))
                clear hK K
                try simp only [Act.put, List.setIfInBounds_toArray, List.set_cons_zero, List.set_cons_succ]
                refine wpAnyH_ready (rs := [17]) (by kernel_rfl) (by simp) ?_
                refine AllReadyH.cons (o := { dst := some 49, op := Op.call { callee := Callee.value (Operand.func 74), args := #[Operand.tmp 46, Operand.tmp 47, Operand.tmp 48], argTypes := #[24, 3, 3] }, type := 3, pos := "ref.go:130", after := #[{ on := 14, ground := Ground.data }, { on := 15, ground := Ground.data }, { on := 16, ground := Ground.data }, { on := 13, ground := Ground.chain }, { on := 9, ground := Ground.guard }], guard := some (9, false) }) rfl (fun K hK => ?_) AllReadyH.nil
                rw [if_pos (by rfl)]
                go_simp
                go_at_call 74
                refine (HW2.out _ (T1.out.below b8 (Nat.le_refl _))).mono ?_
                rintro e9 w9 ⟨rfl, b9⟩
                have KZ := hide (KY.out.keep b9 KY.out.in_)
                obtain ⟨q0, q1, q2, q3, _⟩ := KZ.out.four
                first | refine hK.out _ _ ⟨q0, q1, q2, q3⟩ (fun hHeld => ?_) | (go_wp2_with fail; refine hK.out _ _ ⟨q0, q1, q2, q3⟩ (fun hHeld => ?_))
                clear hK K
                try simp only [Act.put, List.setIfInBounds_toArray, List.set_cons_zero, List.set_cons_succ]
                refine wpAnyH_take (i := 18) (oi := { dst := some 50, op := Op.binOp BinOp.lss 3 (Operand.tmp 45) (Operand.tmp 49) 3, type := 4, pos := "ref.go:130", after := #[{ on := 13, ground := Ground.data }, { on := 17, ground := Ground.data }, { on := 9, ground := Ground.guard }], guard := some (9, false) }) (v := ?_) rfl (by kernel_rfl) (by kernel_rfl) (by kernel_rfl) (fun _ _ _ h => h) (Or.inl ⟨by rfl, ?_⟩) (by assumption) ?_
                rotate_left
                · intro w hSw
                  (try dsimp only at hSw)
                  first | (go_simp; done) | (go_simp; with_reducible rfl)
                try simp only [Act.put, List.setIfInBounds_toArray, List.set_cons_zero, List.set_cons_succ]
                refine wpAnyH_take (i := 19) (oi := { dst := some 51, op := Op.pick (Operand.tmp 41) (Operand.const (Value.bool true)) (Operand.tmp 50), type := 4, pos := "ref.go:130", after := #[{ on := 9, ground := Ground.data }, { on := 18, ground := Ground.data }, { on := 6, ground := Ground.guard }], guard := some (6, true) }) (v := ?_) rfl (by kernel_rfl) (by kernel_rfl) (by kernel_rfl) (fun _ _ _ h => h) (Or.inl ⟨by rfl, ?_⟩) (by assumption) ?_
                rotate_left
                · intro w hSw
                  (try dsimp only at hSw)
                  first | (go_simp; done) | (go_simp; with_reducible rfl)
                try simp only [Act.put, List.setIfInBounds_toArray, List.set_cons_zero, List.set_cons_succ]
                refine wpAnyH_take (i := 20) (oi := { dst := some 52, op := Op.pick (Operand.tmp 38) (Operand.tmp 51) (Operand.const (Value.bool false)), type := 4, pos := "ref.go:130", after := #[{ on := 6, ground := Ground.data }, { on := 19, ground := Ground.data }], guard := none }) (v := ?_) rfl (by kernel_rfl) (by kernel_rfl) (by kernel_rfl) (fun _ _ _ h => h) (Or.inl ⟨by rfl, ?_⟩) (by assumption) ?_
                rotate_left
                · intro w hSw
                  (try dsimp only at hSw)
                  first | (go_simp; done) | (go_simp; with_reducible rfl)
                try simp only [Act.put, List.setIfInBounds_toArray, List.set_cons_zero, List.set_cons_succ]
                refine wpAnyH_done (by kernel_rfl) ?_ _
                have LZ := hide (((below_drewN HLi.out 1).trans (b8.mono (by simp; omega))).trans (b9.mono (by have := b8.size; simp at this; omega)))
                by_cases hz : z1 < z2
                · go_wp2_with fail
                  go_roundw
                  case rel => exact ⟨q + 1, by omega, by go_num, by rw [HL.out (by omega)]; rfl, KZ.out, LZ.out⟩
                  case measure => simp [intOf]; omega
                · go_wp2_with fail
                  go_roundw
                  case rel => exact ⟨q + 1, by omega, by go_num, by rw [HM.out (by omega)]; rfl, KZ.out, LZ.out⟩
                  case measure => simp [intOf]; omega
            · have hSq' : S q = false := by simpa using hSq
              rw [hSq'] at bt
              have bt' := bt.symm
              clear bt
              have wq : IntKind.u64.wrap (q : Int) = q := IntWalk.u64_in _ (by omega)
              have wm : min q 64 = q := by omega
              rw [wq, Int.toNat_natCast, wm] at bt'
              generalize hbb : bits BinOp.and IntKind.i64 ((x : Int) / 2 ^ q) 1 = bb at *
              have bt2 : decide (bb = 1) = false := by simpa using bt'
              have HV := hide ((tk K h cs ds).near_out k hSq)
              go_wp2_with fail
              go_quiet (fail)
              all_goals
                go_wp2_with fail
                go_roundw
                case rel => exact ⟨q + 1, by omega, by go_num, by rw [HV.out], HBi.out.draws _, below_drewN HLi.out _⟩
                case measure => simp [intOf]; omega
          · obtain rfl : q = k + 1 := by omega
            cases hnr : (tk K h cs ds).near S k (k + 1) with
            | none =>
              have HF := hide (show ¬ (tk K h cs ds).Can S n from fun f => f k hlt (by rw [HY.out]; exact h0) hnr)
              rw [show nearI none = -1 from rfl]
              go_wp2_with fail
              go_ret2
              exact ⟨HBL.out.trans (HLi.out.mono HBL.out.size), Or.inl ⟨HF.out, rfl⟩⟩
            | some bn =>
              rw [show nearI (some bn) = (bn : Int) from rfl]
              have m1 := (((tk K h cs ds).near_spec S k (k + 1)).2 bn hnr).1
              have ea : (tk K h cs ds).ast S k = bn := by unfold Tk.ast; rw [hnr]; rfl
              have HOi := hide (HO.out.below HLi.out (Nat.le_refl _))
              have hbn : bn < n := by omega
              have cx := HOi.out.cell hbn
              have fz := HOi.out.frozen bn
              have HNX := hide (fun x e => (tk K h cs ds).aL_next ((tk K h cs ds).ast S) (n := n) (k := k) (x := x) (by rw [ea]; exact hbn) e)
              rw [ea, HY.out] at HNX
              have as0 := (Tk.asg_bound OK.out hn (a := (tk K h cs ds).ast S) (m := k) (by omega) bn)
              rw [← Tk.aL_get _ _ hbn] at as0
              have cd := (R.out.below (HBL.out.trans (HLi.out.mono HBL.out.size)) (Nat.le_refl _)).cell k hlt
              rw [← tk_d K h cs ds k, HY.out] at cd
              generalize hva : ((tk K h cs ds).aL ((tk K h cs ds).ast S) n k).getD bn 0 = va at *
              have HVA := hide hva
              clear hva
              have wv : IntKind.i64.wrap (va + y) = va + y := IntWalk.i64_in _ (by omega)
              have l5 : (bn : Int) < n := by omega
              have l6 : ¬ (k : Int) + 1 ≤ k := by omega
              go_wp2_with fail
              go_region
              all_goals
                clear wv
                go_wp2_with fail
                go_roundw
                case rel => exact ⟨k + 1, by omega, by go_num, fun u hu hd => by
                  by_cases e : u = k
                  · subst e; rw [hnr]; exact fun f => by cases f
                  · exact HC.out u (by omega) hd, by rw [← HNX.out (va + y) (by first | rfl | (rw [HVA.out]))]; exact (HOi.out.stored bn _).drew, Bk.draw (HBi.out.apart (p := ⟨w.heap.size + 1, bn, none⟩) (by simp) _), ((HBL.out.trans (HLi.out.mono HBL.out.size)).setCell (p := ⟨w.heap.size + 1, bn, none⟩) (by simp) _).drew⟩
                case measure => simp [intOf]; omega
    · obtain rfl : k = n := by omega
      go_wp2_with fail
      go_ret2
      exact ⟨HBL.out, Or.inr ⟨HC.out, _, _, rfl, HO.out⟩⟩

end Go.Proofs.Ytlndjjdggedljaa
