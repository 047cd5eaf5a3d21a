/- Walk of Best (program). -/
import Derived.Test.YtjhnfcmijijdcaaWalkPr
import Derived.Test.YtjhnfcmijijdcaaMathE
namespace Go.Proofs.Ytjhnfcmijijdcaa
open Go.RowKit

/-- The plan, as a list. -/
def Tk.bL (t : Tk) (n : Nat) : List Int := (List.range n).map (t.bp n)
theorem Tk.bL_len (t : Tk) (n : Nat) : (t.bL n).length = n := by simp [Tk.bL]
theorem Tk.bL_get (t : Tk) {n i : Nat} (h : i < n) : (t.bL n).getD i 0 = t.bp n i := by simp [Tk.bL, List.getD_eq_getElem?_getD, h]

section
variable (K h : Int) (A : Option Addr) (n c : Nat) (cs : List Int) (A' : Option Addr) (n' c' : Nat) (ds : List Int) (w : World) (hT : Tin w A n c cs A' n' c' ds)
include hT
set_option maxHeartbeats 4000000 in
theorem Best_any : Calls Try.prog 33 #[.agg #[.int .i64 K, .int .i64 h, .slice A n c, .slice A' n' c']] w
      (ListPost (okl (errT K h cs ds) ((tk K h cs ds).bL ds.length)) (errT K h cs ds) w) := by
  have HT := hide hT
  have L1 := hT.1.length
  have L2 := hT.2.length
  have B0 := hide ((Below.refl w.heap.size w).alloc (Nat.le_refl _) (.cells #[.int .i64 K, .int .i64 h, .slice A n c, .slice A' n' c'] 24))
  have K0 := hide (Bk.born w 24 #[.int .i64 K, .int .i64 h, .slice A n c, .slice A' n' c'])
  clear hT
  by_cases he : errT K h cs ds = 0
  case neg =>
    have HE := hide he
    have he' : (errT K h cs ds != 0) = true := by simpa using he
    clear he
    go_enter Try.func33, Try.ntmps33
    go_wp2_with fail
    refine (Validate_any K h _ n c cs _ n' c' ds _ (HT.out.alloc _)).mono ?_
    rintro e w1 ⟨rfl, b1⟩
    go_wp2_with fail
    go_ret2
    exact ⟨none, 0, 0, rfl, by rw [okl_ne HE.out]; exact Own.nil _ _, B0.out.trans (b1.mono (by simp))⟩
  have o := errT_zero he
  have hn1 : 1 ≤ n' := by have := o.n1; omega
  have hn2 : n' ≤ 12 := by have := o.n2; omega
  obtain rfl : n = n' := by have := o.c.1; omega
  have OK := hide (by have := o.tk; rw [L2] at this; exact this)
  have HE := hide he
  have HN := hide L2
  have rt := run_table1
  clear o he L1 L2
  go_enter Try.func33, Try.ntmps33
  go_wp2_with fail
  refine (Validate_any K h _ n c cs _ n c' ds _ (HT.out.alloc _)).mono ?_
  rw [HE.out]
  rintro e w1 ⟨rfl, b1⟩
  have B1 := hide (B0.out.trans (b1.mono (by simp)))
  have K1 := hide (K0.out.keep b1 (by simp))
  obtain ⟨k0, k1, k2, k3, _⟩ := K1.out.four
  clear b1
  go_wp2_with fail
  refine (cheapest_any K h _ n c cs _ c' ds _ (HT.out.below B1.out (Nat.le_refl _)) OK.out hn1 hn2).mono ?_
  rintro e w2 ⟨gc, gl, cl, ll, rfl, oc, ol, kn, b2⟩
  have B2 := hide (B1.out.trans (b2.mono B1.out.size))
  have K2 := hide (K1.out.keep b2 K1.out.in_)
  have OL := hide ol
  have KN := hide kn
  clear oc ol kn b2 k0 k1 k2 k3
  obtain ⟨k0, k1, k2, k3, _⟩ := K2.out.four
  go_wp2_with (at_make; refine wpList_mk _ rfl _ _ rfl w2.heap.size n rfl rfl (by omega) (Nat.le_refl _) ?_; intro w3 o3 b3 s3)
  have O3 := hide o3
  have S3 := hide s3
  have B3 := hide b3
  clear k0 k1 k2 k3 o3 s3 b3
  have Rt := hide HT.out.2
  obtain ⟨b, off, r⟩ := Rt.out
  obtain rfl := r.at_ (by omega)
  have hcap := r.cap
  have hmax := r.max
  have R2 := hide (r.below B2.out (Nat.le_refl _))
  clear r
  go_wp2_with fail
  go_loopw [7] (fun i wr => ∃ e : Nat, e ≤ n ∧ i = .int .i64 e ∧ Own wr w2.heap.size (some ⟨w2.heap.size, 0, none⟩) n n ((tk K h cs ds).bpTo n e 0 0) ∧ Below w2.heap.size w2 wr) (fun i _ => (intOf i).toNat)
  case atStart => exact ⟨n, by omega, rfl, by rw [Tk.bpTo_start]; exact O3.out, B3.out⟩
  case round =>
    obtain ⟨e, he, rfl, ho, hbel⟩ := hrel
    by_cases h0 : 0 < e
    · have ol' := OL.out.below hbel (Nat.le_refl _)
      have c0 := ol'.cell (k := e) (by omega)
      rw [(KN.out e (by omega)).2] at c0
      have hs := ((tk K h cs ds).f_eq (n := e) h0).2.1
      have HN := hide (fun s' => (tk K h cs ds).bpTo_next (n := n) h0 s')
      have HO := hide (by rw [(tk K h cs ds).bpTo_any n e 0 ((tk K h cs ds).q e)] at ho; exact ho)
      have HB := hide hbel
      clear ol' ho hbel
      generalize hq : (tk K h cs ds).q e = s at *
      have HQ := hide hq
      clear hq
      have l4 : (e : Int) < n + 1 := by omega
      go_wp2_with fail
      go_loopw [9] (fun i wr => ∃ k : Nat, s ≤ k ∧ k ≤ e ∧ i = .int .i64 k ∧ Own wr w2.heap.size (some ⟨w2.heap.size, 0, none⟩) n n ((tk K h cs ds).bpTo n e s ((tk K h cs ds).units s k)) ∧ Below w2.heap.size w2 wr) (fun i _ => e - (intOf i).toNat)
      case atStart => exact ⟨s, by omega, by omega, rfl, by rw [show (tk K h cs ds).units s s = 0 from sm_self _ _]; exact HO.out, HB.out⟩
      case round =>
        obtain ⟨k, hk0, hk, rfl, ho, hbel⟩ := hrel
        by_cases hlt : k < e
        · have cd := (R2.out.below hbel (Nat.le_refl _)).cell k (by omega)
          rw [← tk_d K h cs ds k] at cd
          have d0 := OK.out.d0 k (by omega)
          have d1 := OK.out.d1 k (by omega)
          have u0 := OK.out.units0 s (m := k) (by omega)
          have u1 := OK.out.units1 s (m := k) (by omega) hn2
          have p0 := OK.out.bp_in hn2 (Nat.le_refl n) s
          have p1 := OK.out.bp_in hn2 he s
          have HG := (tk K h cs ds).bpTo_get (n := n) (e := e) (s := s) (u := (tk K h cs ds).units s k) (i := s) (by omega)
          rw [if_pos rfl] at HG
          have cx := ho.cell (k := s) (by omega)
          have fz := ho.frozen s
          have HS := hide (fun x hx => (tk K h cs ds).bpTo_more (n := n) (e := e) (s := s) (u := (tk K h cs ds).units s k) (d := (tk K h cs ds).d k) (x := x) (by omega) hx)
          have US := hide (Tk.units_succ (t := tk K h cs ds) hk0)
          rw [← US.out] at HS
          generalize hx : ((tk K h cs ds).bpTo n e s ((tk K h cs ds).units s k)).getD s 0 = x at *
          have HO2 := hide ho
          have HB2 := hide hbel
          have HX := hide hx
          have kt := (K2.out.keep hbel K2.out.in_)
          obtain ⟨k0, k1, k2, k3, _⟩ := kt.four
          clear ho hbel hx kt
          have xb : -700 ≤ x ∧ x ≤ 1300 := by omega
          clear HG p0 p1 u0 u1
          generalize (tk K h cs ds).d k = y at *
          have w5 : IntKind.i64.wrap (x + y) = x + y := IntWalk.i64_in _ (by omega)
          have l5 : (k : Int) < n := by omega
          have l6 : (s : Int) < n := by omega
          go_wp2_with fail
          go_region
          all_goals
            clear w5
            go_wp2_with fail
            go_roundw
            case rel => exact ⟨k + 1, by omega, by omega, by go_num, by rw [← HS.out _ rfl]; exact (HO2.out.stored s _).drew, (HB2.out.setCell (Nat.le_refl _) _).drew⟩
            case measure => simp [intOf]; omega
        · obtain rfl : k = e := by omega
          rw [HN.out 0] at ho
          have HO2 := hide ho
          have HB2 := hide hbel
          clear ho hbel
          go_wp2_with fail
          go_roundw
          case rel => exact ⟨s, by omega, rfl, HO2.out, HB2.out⟩
          case measure => simp [intOf]; omega
    · obtain rfl : e = 0 := by omega
      rw [Tk.bpTo_end] at ho
      go_wp2_with fail
      go_ret2
      exact ⟨_, _, _, by rw [HE.out]; rfl, by rw [okl_zero HE.out]; (try rw [HN.out]); exact ho.more B2.out.size, B2.out.trans (hbel.mono B2.out.size)⟩
end

end Go.Proofs.Ytjhnfcmijijdcaa
