/- Walks of Prices and Firsts (program). -/
import Derived.Test.YtjhnfcmijijdcaaWalkBo
namespace Go.Proofs.Ytjhnfcmijijdcaa
open Go.RowKit

/-- The prices, as a list. -/
def Tk.pL (t : Tk) (n : Nat) : List Int := (List.range n).map t.p
theorem Tk.pL_len (t : Tk) (n : Nat) : (t.pL n).length = n := by simp [Tk.pL]
theorem Tk.pL_get (t : Tk) {n i : Nat} (h : i < n) : (t.pL n).getD i 0 = t.p i := by simp [Tk.pL, List.getD_eq_getElem?_getD, h]
/-- The least costs of the first hours, as a list. -/
def Tk.fL (t : Tk) (n : Nat) : List Int := (List.range (n + 1)).map t.f
theorem Tk.fL_len (t : Tk) (n : Nat) : (t.fL n).length = n + 1 := by simp [Tk.fL]
theorem Tk.fL_get (t : Tk) {n i : Nat} (h : i ≤ n) : (t.fL n).getD i 0 = t.f i := by simp [Tk.fL, List.getD_eq_getElem?_getD, show i < n + 1 by omega]
theorem kn_fL {t : Tk} {n : Nat} {cl ll : List Int} (h : Kn t n cl ll) (hl : cl.length = n + 1) : cl = t.fL n := by
  apply list_ext_getD (by rw [hl, Tk.fL_len])
  intro j hj
  rw [(h j (by omega)).1, Tk.fL_get _ (by omega)]

section
variable (K h : Int) (A : Option Addr) (n c : Nat) (cs : List Int) (A' : Option Addr) (n' c' : Nat) (ds : List Int) (w : World) (hT : Tin w A n c cs A' n' c' ds)
include hT
set_option maxHeartbeats 4000000 in
theorem Firsts_any : Calls Try.prog 34 #[.agg #[.int .i64 K, .int .i64 h, .slice A n c, .slice A' n' c']] w
      (ListPost (okl (errT K h cs ds) ((tk K h cs ds).fL ds.length)) (errT K h cs ds) w) := by
  have HT := hide hT
  have L1 := hT.1.length
  have L2 := hT.2.length
  have B0 := hide ((Below.refl w.heap.size w).alloc (Nat.le_refl _) (.cells #[.int .i64 K, .int .i64 h, .slice A n c, .slice A' n' c'] 24))
  have K0 := hide (Bk.born w 24 #[.int .i64 K, .int .i64 h, .slice A n c, .slice A' n' c'])
  clear hT
  by_cases he : errT K h cs ds = 0
  case neg =>
    have HE := hide he
    have he' : (errT K h cs ds != 0) = true := by simpa using he
    clear he
    go_enter Try.func34, Try.ntmps34
    go_wp2_with fail
    refine (Validate_any K h _ n c cs _ n' c' ds _ (HT.out.alloc _)).mono ?_
    rintro e w1 ⟨rfl, b1⟩
    go_wp2_with fail
    go_ret2
    exact ⟨none, 0, 0, rfl, by rw [okl_ne HE.out]; exact Own.nil _ _, B0.out.trans (b1.mono (by simp))⟩
  have o := errT_zero he
  have hn1 : 1 ≤ n' := by have := o.n1; omega
  have hn2 : n' ≤ 12 := by have := o.n2; omega
  obtain rfl : n = n' := by have := o.c.1; omega
  have OK := hide (by have := o.tk; rw [L2] at this; exact this)
  have HE := hide he
  have HN := hide L2
  have rt := run_table0
  clear o he L1 L2
  go_enter Try.func34, Try.ntmps34
  go_wp2_with fail
  refine (Validate_any K h _ n c cs _ n c' ds _ (HT.out.alloc _)).mono ?_
  rw [HE.out]
  rintro e w1 ⟨rfl, b1⟩
  have B1 := hide (B0.out.trans (b1.mono (by simp)))
  have K1 := hide (K0.out.keep b1 (by simp))
  obtain ⟨k0, k1, k2, k3, _⟩ := K1.out.four
  clear b1
  go_wp2_with fail
  refine (cheapest_any K h _ n c cs _ c' ds _ (HT.out.below B1.out (Nat.le_refl _)) OK.out hn1 hn2).mono ?_
  rintro e w2 ⟨gc, gl, cl, ll, rfl, oc, ol, kn, b2⟩
  obtain rfl := kn_fL kn oc.len
  have OC := hide oc
  clear oc ol kn
  go_wp2_with fail
  go_ret2
  exact ⟨_, _, _, by rw [HE.out]; rfl, by rw [okl_zero HE.out, HN.out]; exact OC.out.more B1.out.size, B1.out.trans (b2.mono B1.out.size)⟩

set_option maxHeartbeats 4000000 in
theorem Prices_any : Calls Try.prog 40 #[.agg #[.int .i64 K, .int .i64 h, .slice A n c, .slice A' n' c']] w
      (ListPost (okl (errT K h cs ds) ((tk K h cs ds).pL ds.length)) (errT K h cs ds) w) := by
  have HT := hide hT
  have L1 := hT.1.length
  have L2 := hT.2.length
  have B0 := hide ((Below.refl w.heap.size w).alloc (Nat.le_refl _) (.cells #[.int .i64 K, .int .i64 h, .slice A n c, .slice A' n' c'] 24))
  have K0 := hide (Bk.born w 24 #[.int .i64 K, .int .i64 h, .slice A n c, .slice A' n' c'])
  clear hT
  by_cases he : errT K h cs ds = 0
  case neg =>
    have HE := hide he
    have he' : (errT K h cs ds != 0) = true := by simpa using he
    clear he
    go_enter Try.func40, Try.ntmps40
    go_wp2_with fail
    refine (Validate_any K h _ n c cs _ n' c' ds _ (HT.out.alloc _)).mono ?_
    rintro e w1 ⟨rfl, b1⟩
    go_wp2_with fail
    go_ret2
    exact ⟨none, 0, 0, rfl, by rw [okl_ne HE.out]; exact Own.nil _ _, B0.out.trans (b1.mono (by simp))⟩
  have o := errT_zero he
  have hn1 : 1 ≤ n' := by have := o.n1; omega
  have hn2 : n' ≤ 12 := by have := o.n2; omega
  obtain rfl : n = n' := by have := o.c.1; omega
  have OK := hide (by have := o.tk; rw [L2] at this; exact this)
  have HE := hide he
  have HN := hide L2
  have rt := run_table0
  clear o he L1 L2
  go_enter Try.func40, Try.ntmps40
  go_wp2_with fail
  refine (Validate_any K h _ n c cs _ n c' ds _ (HT.out.alloc _)).mono ?_
  rw [HE.out]
  rintro e w1 ⟨rfl, b1⟩
  have B1 := hide (B0.out.trans (b1.mono (by simp)))
  have K1 := hide (K0.out.keep b1 (by simp))
  obtain ⟨k0, k1, k2, k3, _⟩ := K1.out.four
  clear b1
  go_wp2_with fail
  refine (cheapest_any K h _ n c cs _ c' ds _ (HT.out.below B1.out (Nat.le_refl _)) OK.out hn1 hn2).mono ?_
  rintro e w2 ⟨gc, gl, cl, ll, rfl, oc, ol, kn, b2⟩
  have B2 := hide (B1.out.trans (b2.mono B1.out.size))
  have K2 := hide (K1.out.keep b2 K1.out.in_)
  have OC := hide oc
  have KN := hide kn
  clear oc ol kn b2 k0 k1 k2 k3
  obtain ⟨k0, k1, k2, k3, _⟩ := K2.out.four
  go_wp2_with (at_make; refine wpList_mk _ rfl _ _ rfl w2.heap.size n rfl rfl (by omega) (Nat.le_refl _) ?_; intro w3 o3 b3 s3)
  have O3 := hide o3
  have S3 := hide s3
  have B3 := hide b3
  clear k0 k1 k2 k3 o3 s3 b3
  go_loopw [22] (fun i wr => ∃ k : Nat, k ≤ n ∧ i = .int .i64 k ∧ Own wr w2.heap.size (some ⟨w2.heap.size, 0, none⟩) n n (fillL (tk K h cs ds).p n k) ∧ Below w2.heap.size w2 wr) (fun i _ => n - (intOf i).toNat)
  case atStart => exact ⟨0, by omega, rfl, by rw [fillL_zero]; exact O3.out, B3.out⟩
  case round =>
    obtain ⟨k, hk, rfl, ho, hbel⟩ := hrel
    by_cases hlt : k < n
    · have oc' := OC.out.below hbel (Nat.le_refl _)
      have c0 := oc'.cell (k := k) (by omega)
      have c1 := oc'.cell (k := k + 1) (by omega)
      rw [(KN.out k (by omega)).1] at c0
      rw [(KN.out (k + 1) (by omega)).1] at c1
      have fz := ho.frozen k
      have cx := ho.cell hlt
      have a0 := OK.out.f0 (m := k) (by omega)
      have a1 := OK.out.f1 hn2 (m := k) (by omega)
      have a2 := OK.out.f0 (m := k + 1) (by omega)
      have a3 := OK.out.f1 hn2 (m := k + 1) (by omega)
      have HS := hide (fun x hx => fillL_set (f := (tk K h cs ds).p) (n := n) (k := k) (x := x) hlt hx)
      have HP := hide (show (tk K h cs ds).p k = (tk K h cs ds).f (k + 1) - (tk K h cs ds).f k from rfl)
      have HO := hide ho
      have HB := hide hbel
      clear oc' ho hbel
      generalize (tk K h cs ds).f k = x at *
      generalize (tk K h cs ds).f (k + 1) = y at *
      have w5 : IntKind.i64.wrap (y - x) = y - x := IntWalk.i64_in _ (by omega)
      have w6 : IntKind.i64.wrap ((k : Int) + 1) = (k : Int) + 1 := IntWalk.i64_in _ (by omega)
      have l0 : (0 : Int) ≤ (k : Int) + 1 := by omega
      have l1 : (k : Int) + 1 < n + 1 := by omega
      have l3 : ((k : Int) + 1).toNat = k + 1 := by omega
      have l4 : (k : Int) < n + 1 := by omega
      go_wp2_with fail
      go_region
      all_goals
        clear w5 w6
        go_wp2_with fail
        go_roundw
        case rel => exact ⟨k + 1, by omega, by go_num, by rw [← HS.out _ HP.out]; exact (HO.out.stored k _).drew, (HB.out.setCell (Nat.le_refl _) _).drew⟩
        case measure => simp [intOf]; omega
    · obtain rfl : k = n := by omega
      rw [fillL_all] at ho
      go_wp2_with fail
      go_ret2
      exact ⟨_, _, _, by rw [HE.out]; rfl, by rw [okl_zero HE.out]; (try rw [HN.out]); exact ho.more B2.out.size, B2.out.trans (hbel.mono B2.out.size)⟩
end

end Go.Proofs.Ytjhnfcmijijdcaa
