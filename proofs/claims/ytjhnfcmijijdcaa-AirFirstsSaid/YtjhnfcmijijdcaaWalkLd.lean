/- The walk of AirDearer. -/
import Derived.Test.YtjhnfcmijijdcaaWalkRd
namespace Go.Proofs.Ytjhnfcmijijdcaa
open Go.RowKit

theorem f_mono {t t' : Tk} {n : Nat} (h : ∀ l m, l ≤ m → m ≤ n → t.tog l m ≤ t'.tog l m) : ∀ {m : Nat}, m ≤ n → t.f m ≤ t'.f m := by
  intro m
  induction m using Nat.strongRecOn with
  | ind m ih =>
    intro hm
    by_cases h0 : m = 0
    · subst h0; rw [Tk.f_zero, Tk.f_zero]; exact Int.le_refl _
    · obtain ⟨e1, e2, _⟩ := t'.f_eq (n := m) (by omega)
      have a := (t.f_eq (n := m) (by omega)).2.2 (t'.q m) e2
      have b := ih (t'.q m) e2 (by omega)
      have c := h (t'.q m) m (by omega) hm
      omega
theorem f_same {t t' : Tk} {n : Nat} (h : ∀ l m, l ≤ m → m ≤ n → t.tog l m = t'.tog l m) {m : Nat} (hm : m ≤ n) : t.f m = t'.f m := by
  have a := f_mono (t := t) (t' := t') (fun l m h1 h2 => by rw [h l m h1 h2]; exact Int.le_refl _) hm
  have b := f_mono (t := t') (t' := t) (fun l m h1 h2 => by rw [h l m h1 h2]; exact Int.le_refl _) hm
  omega
theorem f_dear {K K' h : Int} {cs ds : List Int} (hK : K ≤ K') (n : Nat) : (tk K h cs ds).f n ≤ (tk K' h cs ds).f n := by
  refine f_mono (n := n) (fun l m _ _ => ?_) (Nat.le_refl _)
  have u : (tk K h cs ds).units l m = (tk K' h cs ds).units l m := rfl
  have s : (tk K h cs ds).save l m = (tk K' h cs ds).save l m := rfl
  unfold Tk.tog
  rw [u, s]
  split
  · exact Int.le_refl _
  · show K + _ ≤ K' + _
    omega
theorem dearF_er {K h : Int} {cs ds : List Int} {s : Int} (e : (dearF K h cs ds s).er = 0) : OkT K h cs ds ∧ OkT s h cs ds ∧ dearF K h cs ds s = ⟨s, h, cs, ds, 0⟩ := by
  by_cases o : OkT K h cs ds
  · by_cases o2 : OkT s h cs ds
    · exact ⟨o, o2, (dearF_ok o).trans (toldF_ok o2)⟩
    · rw [dearF_ok o, toldF_no o2] at e
      cases e
  · rw [dearF_task o] at e
    cases e

set_option maxHeartbeats 4000000 in
theorem AirDearer_walk (K h : Int) (A : Option Addr) (n c : Nat) (cs : List Int) (A' : Option Addr) (n' c' : Nat) (ds : List Int) (by' : Int) (w : World)
    (hT : Tin w A n c cs A' n' c' ds) :
    Calls Try.prog 13 #[.agg #[.int .i64 K, .int .i64 h, .slice A n c, .slice A' n' c'], .int .i64 by'] w fun e w' => e = .returned (.bool true) ∧ Below w.heap.size w w' := by
  have HT := hide hT
  have B0 := hide ((Below.refl w.heap.size w).alloc (Nat.le_refl _) (.cells #[.int .i64 K, .int .i64 h, .slice A n c, .slice A' n' c'] 24))
  have K0 := hide (Bk.born w 24 #[.int .i64 K, .int .i64 h, .slice A n c, .slice A' n' c'])
  clear hT
  by_cases hL : 100 < n ∨ 100 < n'
  case pos =>
    go_enter Try.func13, Try.ntmps13
    go_wp2_with fail
    refine (Long_any K h _ n c cs _ n' c' ds _ (HT.out.below B0.out (Nat.le_refl _))).mono ?_
    rw [decide_eq_true hL]
    rintro e w1 ⟨rfl, b1⟩
    have B1 := hide (B0.out.trans (b1.mono B0.out.size))
    have K1 := hide (K0.out.keep b1 K0.out.in_)
    clear b1
    go_wp2_with fail
    refine (known_any _).mono ?_
    rintro e wz ⟨rfl, bz⟩
    go_wp2_with fail
    go_ret
    exact ⟨rfl, B1.out.trans (bz.mono B1.out.size)⟩
  go_enter Try.func13, Try.ntmps13
  go_wp2_with fail
  refine (Long_any K h _ n c cs _ n' c' ds _ (HT.out.below B0.out (Nat.le_refl _))).mono ?_
  rw [decide_eq_false hL]
  rintro e w1 ⟨rfl, b1⟩
  have B1 := hide (B0.out.trans (b1.mono B0.out.size))
  have K1 := hide (K0.out.keep b1 K0.out.in_)
  clear b1
  obtain ⟨k0, k1, k2, k3, _⟩ := K1.out.four
  go_wp2_with fail
  refine (Dearer_any K h _ n c cs _ n' c' ds by' _ (HT.out.below B1.out (Nat.le_refl _))).mono ?_
  rintro e w2 ⟨Aa, na, ca, Ba, ma, da, rfl, oa, pa, b2⟩
  have B2 := hide (B1.out.trans (b2.mono B1.out.size))
  have K2 := hide (K1.out.keep b2 K1.out.in_)
  clear b2
  clear k0 k1 k2 k3
  have Ra := hide (oa.row)
  have Sa := hide (pa.row)
  have La := hide oa.len
  have Ma := hide pa.len
  clear oa pa
  have HFe := hide (fun e => dearF_er (K := K) (h := h) (cs := cs) (ds := ds) (s := by') e)
  generalize hF : dearF K h cs ds by' = F at *
  have HFe0 := hide hF
  clear hF
  have B3 := hide (B2.out.alloc B2.out.size (.cells #[.int .i64 F.K, .int .i64 F.h, .slice Aa na ca, .slice Ba ma da] 24))
  have K3 := hide (K2.out.more (.cells #[.int .i64 F.K, .int .i64 F.h, .slice Aa na ca, .slice Ba ma da] 24))
  replace Ra := hide (Ra.out.alloc (.cells #[.int .i64 F.K, .int .i64 F.h, .slice Aa na ca, .slice Ba ma da] 24))
  replace Sa := hide (Sa.out.alloc (.cells #[.int .i64 F.K, .int .i64 F.h, .slice Aa na ca, .slice Ba ma da] 24))
  have Xa := hide (Bk.born w2 24 #[.int .i64 F.K, .int .i64 F.h, .slice Aa na ca, .slice Ba ma da])
  obtain ⟨k0, k1, k2, k3, _⟩ := K3.out.four
  go_wp2_with fail
  have RD := rDearer_any K h _ n c cs _ n' c' ds by' _ (HT.out.below B3.out (Nat.le_refl _))
  rw [HFe0.out] at RD
  refine RD.mono ?_
  rintro e w4 ⟨Ab, nb, cb, Bb, mb, db, rfl, ob, pb, b4⟩
  have B4 := hide (B3.out.trans (b4.mono B3.out.size))
  have K4 := hide (K3.out.keep b4 K3.out.in_)
  replace Ra := hide (Ra.out.below b4 (Nat.le_refl _))
  replace Sa := hide (Sa.out.below b4 (Nat.le_refl _))
  replace Xa := hide (Xa.out.keep b4 Xa.out.in_)
  clear b4
  clear k0 k1 k2 k3 RD
  obtain rfl : nb = na := by have := ob.len; have := La.out; omega
  obtain rfl : mb = ma := by have := pb.len; have := Ma.out; omega
  have Rb := hide (ob.row)
  have Sb := hide (pb.row)
  clear ob pb
  have B5 := hide (B4.out.alloc B4.out.size (.cells #[.int .i64 F.K, .int .i64 F.h, .slice Ab nb cb, .slice Bb mb db] 24))
  have K5 := hide (K4.out.more (.cells #[.int .i64 F.K, .int .i64 F.h, .slice Ab nb cb, .slice Bb mb db] 24))
  replace Ra := hide (Ra.out.alloc (.cells #[.int .i64 F.K, .int .i64 F.h, .slice Ab nb cb, .slice Bb mb db] 24))
  replace Sa := hide (Sa.out.alloc (.cells #[.int .i64 F.K, .int .i64 F.h, .slice Ab nb cb, .slice Bb mb db] 24))
  replace Rb := hide (Rb.out.alloc (.cells #[.int .i64 F.K, .int .i64 F.h, .slice Ab nb cb, .slice Bb mb db] 24))
  replace Sb := hide (Sb.out.alloc (.cells #[.int .i64 F.K, .int .i64 F.h, .slice Ab nb cb, .slice Bb mb db] 24))
  replace Xa := hide (Xa.out.more (.cells #[.int .i64 F.K, .int .i64 F.h, .slice Ab nb cb, .slice Bb mb db] 24))
  have Xb := hide (Bk.born w4 24 #[.int .i64 F.K, .int .i64 F.h, .slice Ab nb cb, .slice Bb mb db])
  obtain ⟨x0, x1, x2, x3, _⟩ := Xa.out.four
  obtain ⟨y0, y1, y2, y3, _⟩ := Xb.out.four
  go_wp2_with fail
  refine (Same_yes F.K F.h _ nb _ F.cs _ mb _ F.ds _ _ _ _ _ ⟨Ra.out, Sa.out⟩ ⟨Rb.out, Sb.out⟩).mono ?_
  rintro e w6 ⟨rfl, b6⟩
  have B6 := hide (B5.out.trans (b6.mono B5.out.size))
  have K6 := hide (K5.out.keep b6 K5.out.in_)
  replace Ra := hide (Ra.out.below b6 (Nat.le_refl _))
  replace Sa := hide (Sa.out.below b6 (Nat.le_refl _))
  replace Rb := hide (Rb.out.below b6 (Nat.le_refl _))
  replace Sb := hide (Sb.out.below b6 (Nat.le_refl _))
  replace Xa := hide (Xa.out.keep b6 Xa.out.in_)
  replace Xb := hide (Xb.out.keep b6 Xb.out.in_)
  clear b6
  clear x0 x1 x2 x3 y0 y1 y2 y3
  obtain ⟨k0, k1, k2, k3, _⟩ := K6.out.four
  go_wp2_with fail
  refine (Least_any K h _ n c cs _ n' c' ds _ (HT.out.below B6.out (Nat.le_refl _))).mono ?_
  rintro e w7 ⟨rfl, b7⟩
  have B7 := hide (B6.out.trans (b7.mono B6.out.size))
  have K7 := hide (K6.out.keep b7 K6.out.in_)
  replace Ra := hide (Ra.out.below b7 (Nat.le_refl _))
  replace Sa := hide (Sa.out.below b7 (Nat.le_refl _))
  replace Rb := hide (Rb.out.below b7 (Nat.le_refl _))
  replace Sb := hide (Sb.out.below b7 (Nat.le_refl _))
  replace Xa := hide (Xa.out.keep b7 Xa.out.in_)
  replace Xb := hide (Xb.out.keep b7 Xb.out.in_)
  clear b7
  clear k0 k1 k2 k3
  obtain ⟨x0, x1, x2, x3, _⟩ := Xa.out.four
  go_wp2_with fail
  refine (Least_any F.K F.h _ nb _ F.cs _ mb _ F.ds _ ⟨Ra.out, Sa.out⟩).mono ?_
  rintro e w8 ⟨rfl, b8⟩
  have B8 := hide (B7.out.trans (b8.mono B7.out.size))
  have K8 := hide (K7.out.keep b8 K7.out.in_)
  replace Ra := hide (Ra.out.below b8 (Nat.le_refl _))
  replace Sa := hide (Sa.out.below b8 (Nat.le_refl _))
  replace Rb := hide (Rb.out.below b8 (Nat.le_refl _))
  replace Sb := hide (Sb.out.below b8 (Nat.le_refl _))
  replace Xa := hide (Xa.out.keep b8 Xa.out.in_)
  replace Xb := hide (Xb.out.keep b8 Xb.out.in_)
  clear b8
  clear x0 x1 x2 x3
  obtain ⟨k0, k1, k2, k3, _⟩ := K8.out.four
  by_cases he : F.er = 0
  case neg =>
    have he' : (F.er != 0) = true := by simpa using he
    go_wp2_with fail
    refine (known_any _).mono ?_
    rintro e wz ⟨rfl, bz⟩
    go_wp2_with fail
    go_ret
    exact ⟨rfl, B8.out.trans (bz.mono B8.out.size)⟩
  have HG := HFe.out he
  obtain ⟨o1, o2, e3⟩ := HG
  clear HFe HFe0
  subst e3
  simp only at *
  rw [errT_ok o1, errT_ok o2, okv_zero rfl, okv_zero rfl]
  have H1 := hide (fun (q : by' ≤ K) => f_dear (h := h) (cs := cs) (ds := ds) q ds.length)
  have H2 := hide (fun (q : K ≤ by') => f_dear (h := h) (cs := cs) (ds := ds) q ds.length)
  clear o1 o2 he
  generalize (tk K h cs ds).f ds.length = f1 at *
  generalize (tk by' h cs ds).f ds.length = f2 at *
  by_cases c1 : by' < K
  · have g1 := H1.out (by omega)
    go_wp2_with fail
    refine (known_any _).mono ?_
    rintro e wz ⟨rfl, bz⟩
    go_wp2_with fail
    go_ret
    exact ⟨rfl, B8.out.trans (bz.mono B8.out.size)⟩
  · have g2 := H2.out (by omega)
    by_cases c2 : K < by'
    · skip
      go_wp2_with fail
      refine (known_any _).mono ?_
      rintro e wz ⟨rfl, bz⟩
      go_wp2_with fail
      go_ret
      exact ⟨rfl, B8.out.trans (bz.mono B8.out.size)⟩
    · have g1 := H1.out (by omega)
      go_wp2_with fail
      refine (known_any _).mono ?_
      rintro e wz ⟨rfl, bz⟩
      go_wp2_with fail
      go_ret
      exact ⟨rfl, B8.out.trans (bz.mono B8.out.size)⟩

end Go.Proofs.Ytjhnfcmijijdcaa
