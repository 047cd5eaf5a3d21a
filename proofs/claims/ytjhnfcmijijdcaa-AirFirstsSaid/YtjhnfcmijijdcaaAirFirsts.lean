/- AirFirsts returns true for every input; each argument reads afterwards as before. No condition. -/
import Derived.Test.YtjhnfcmijijdcaaWalkLl
import Derived.Test.YtjhnfcmijijdcaaLift
/- The document's own Firsts. -/
namespace Go.Proofs.Ytjhnfcmijijdcaa
open Go.RowKit

theorem Tk.fL_zero (t : Tk) : t.fL 0 = [0] := by
  have : t.f 0 = 0 := by have := (t.p_sum (Nat.zero_le 0)); simp [sm] at this; simp [Tk.f, Tk.F_eq]; rfl
  simp [Tk.fL, this]
theorem Tk.fL_succ (t : Tk) (k : Nat) : t.fL (k + 1) = t.fL k ++ [t.f (k + 1)] := by simp [Tk.fL, List.range_succ]

set_option maxHeartbeats 2000000 in
theorem rFirsts_any (K h : Int) (A : Option Addr) (n c : Nat) (cs : List Int) (A' : Option Addr) (n' c' : Nat) (ds : List Int) (w : World) (hT : Tin w A n c cs A' n' c' ds) :
    Calls Try.prog 35 #[.agg #[.int .i64 K, .int .i64 h, .slice A n c, .slice A' n' c']] w (ListPost (okl (errT K h cs ds) ((tk K h cs ds).fL ds.length)) (errT K h cs ds) w) := by
  have HT := hide hT
  have L2 := hT.2.length
  have B0 := hide ((Below.refl w.heap.size w).alloc (Nat.le_refl _) (.cells #[.int .i64 K, .int .i64 h, .slice A n c, .slice A' n' c'] 24))
  have K0 := hide (Bk.born w 24 #[.int .i64 K, .int .i64 h, .slice A n c, .slice A' n' c'])
  clear hT
  by_cases he : errT K h cs ds = 0
  case neg =>
    have HV := hide (okl_ne he ((tk K h cs ds).fL ds.length))
    have he' : (errT K h cs ds != 0) = true := by simpa using he
    go_enter Try.func35, Try.ntmps35
    go_wp2_with fail
    refine (rValidate_any K h _ n c cs _ n' c' ds _ (HT.out.below B0.out (Nat.le_refl _))).mono ?_
    rintro e w1 ⟨rfl, b1⟩
    go_wp2_with fail
    go_ret2
    exact ⟨_, _, _, rfl, by rw [HV.out]; exact Own.nil _ _, B0.out.trans (b1.mono B0.out.size)⟩
  have OT := hide (errT_zero he)
  have hn1 : 1 ≤ n' := by have := OT.out.n1; omega
  have hn2 : n' ≤ 12 := by have := OT.out.n2; omega
  obtain rfl : n = n' := by have := OT.out.c.1; have := HT.out.1.length; omega
  have hcap : n ≤ c' := HT.out.2.cap
  have hmax : c' ≤ 9223372036854775807 := by obtain ⟨b, off, r⟩ := HT.out.2; exact r.max
  rw [he, okl_zero rfl, L2]
  have HE := hide he
  have HL := hide L2
  clear he
  go_enter Try.func35, Try.ntmps35
  go_wp2_with fail
  refine (rValidate_any K h _ n c cs _ n c' ds _ (HT.out.below B0.out (Nat.le_refl _))).mono ?_
  rw [HE.out]
  rintro e w1 ⟨rfl, b1⟩
  have B1 := hide (B0.out.trans (b1.mono B0.out.size))
  have K1 := hide (K0.out.keep b1 K0.out.in_)
  clear b1
  have B2 := hide (B1.out.alloc B1.out.size (.cells #[.int .i64 0] 3))
  have K2 := hide (K1.out.more (.cells #[.int .i64 0] 3))
  have O2 := hide (Own.lit w1 [0] (B := w.heap.size + 1) K1.out.in_ (by simp [maxLen]))
  replace O2 : Hid (Own (w1.alloc (.cells #[.int .i64 0] 3)) (w.heap.size + 1) (some ⟨w1.heap.size, 0, none⟩) 1 1 [0]) := O2
  go_wp2_with fail
  go_loopw [5, 6] (fun v i wr => ∃ (k : Nat) (A1 : Option Addr) (c1 : Nat), 1 ≤ k ∧ k ≤ n + 1 ∧ i = .int .i64 k ∧ v = .slice A1 k c1 ∧ Own wr (w.heap.size + 1) A1 k c1 ((tk K h cs ds).fL (k - 1)) ∧
      Bk wr w.heap.size 24 #[.int .i64 K, .int .i64 h, .slice A n c, .slice A' n c'] ∧ Below w.heap.size w wr) (fun _ i _ => n + 1 - (intOf i).toNat)
  case atStart => exact ⟨1, _, 1, by omega, by omega, rfl, rfl, by rw [Nat.sub_self, Tk.fL_zero]; exact O2.out, K2.out, B2.out⟩
  case round =>
    obtain ⟨k, A1, c1, hk1, hk, rfl, rfl, ho, hb, hbel⟩ := hrel
    have HO := hide ho
    have HB := hide hb
    have HBL := hide hbel
    clear ho hb hbel
    obtain ⟨k0, k1, k2, k3, _⟩ := HB.out.four
    by_cases hlt : k ≤ n
    · have l2 : (k : Int) ≤ n := by omega
      have HTr := hide (HT.out.below HBL.out (Nat.le_refl _))
      have OK := hide (OT.out.take (i := k) hk1 (by rw [HL.out]; exact hlt)).tk
      have hl : (ds.take k).length = k := by rw [List.length_take, HL.out]; omega
      rw [hl] at OK
      go_wp2_with fail
      refine (rfirst_any K h _ n c cs _ n c' ds k _ HTr.out hk1 hlt hlt).mono ?_
      rintro e w2 ⟨rfl, b2⟩
      have B3 := hide (HBL.out.trans (b2.mono HBL.out.size))
      have K3 := hide (HB.out.keep b2 HB.out.in_)
      have O3 := hide (HO.out.below b2 (Nat.le_refl _))
      have T3 := hide ((HTr.out.take k hlt hlt).below b2 (Nat.le_refl _))
      clear b2 k0 k1 k2 k3
      go_wp2_with fail
      refine (rleast_any K h _ k c (cs.take k) _ c' (ds.take k) _ T3.out OK.out hk1 (by omega)).mono ?_
      rw [lb_all OK.out (by omega), f_take]
      rintro e w3 ⟨rfl, b3⟩
      have B4 := hide (B3.out.trans (b3.mono B3.out.size))
      have K4 := hide (K3.out.keep b3 K3.out.in_)
      have O4 := hide (O3.out.below b3 (Nat.le_refl _))
      have hsz : w.heap.size + 1 ≤ w3.heap.size := K4.out.in_
      clear b3
      have HS := hide (show (tk K h cs ds).fL (k + 1 - 1) = (tk K h cs ds).fL (k - 1) ++ [(tk K h cs ds).f k] by
        obtain ⟨j, rfl⟩ : ∃ j, k = j + 1 := ⟨k - 1, by omega⟩
        exact Tk.fL_succ _ _)
      generalize (tk K h cs ds).f k = z at *
      go_wp2_with (at_builtin; refine wpList_app1 _ rfl (.tmp 20) (.tmp 25) rfl (w.heap.size + 1) k c1 A1 _ _ rfl rfl O4.out (by omega) hsz ?_; intro A2 c2 w4 hown1 hb1 hg1)
      go_roundw
      case rel => exact ⟨k + 1, A2, c2, by omega, by omega, by go_num, by go_num, by rw [HS.out]; exact hown1, K4.out.keep hb1 (by omega), B4.out.trans (hb1.mono (by omega))⟩
      case measure => simp [intOf]; omega
    · obtain rfl : k = n + 1 := by omega
      go_wp2_with fail
      go_ret2
      exact ⟨_, _, _, rfl, HO.out.more (by omega), HBL.out⟩

end Go.Proofs.Ytjhnfcmijijdcaa

/- The walk of AirFirsts. -/
namespace Go.Proofs.Ytjhnfcmijijdcaa
open Go.RowKit

theorem fL_up {K h : Int} {cs ds : List Int} : ∀ j, j + 1 < (okl (errT K h cs ds) ((tk K h cs ds).fL ds.length)).length → (okl (errT K h cs ds) ((tk K h cs ds).fL ds.length)).getD j 0 ≤ (okl (errT K h cs ds) ((tk K h cs ds).fL ds.length)).getD (j + 1) 0 := by
  intro j hj
  by_cases he : errT K h cs ds = 0
  · rw [okl_zero he] at hj ⊢
    rw [Tk.fL_len] at hj
    rw [Tk.fL_get _ (by omega), Tk.fL_get _ (by omega)]
    have := (errT_zero he).tk.p0 (u := j) (by omega)
    unfold Tk.p at this
    omega
  · rw [okl_ne he] at hj
    simp at hj
theorem Row.max' {w : World} {A : Option Addr} {n c : Nat} {xs : List Int} (h : Row w A n c xs) : n ≤ 9223372036854775807 := by
  obtain ⟨b, off, r⟩ := h
  have := r.cap
  have := r.max
  omega

set_option maxHeartbeats 4000000 in
theorem AirFirsts_walk (K h : Int) (A : Option Addr) (n c : Nat) (cs : List Int) (A' : Option Addr) (n' c' : Nat) (ds : List Int) (w : World)
    (hT : Tin w A n c cs A' n' c' ds) :
    Calls Try.prog 6 #[.agg #[.int .i64 K, .int .i64 h, .slice A n c, .slice A' n' c']] w fun e w' => e = .returned (.bool true) ∧ Below w.heap.size w w' := by
  have HT := hide hT
  have B0 := hide ((Below.refl w.heap.size w).alloc (Nat.le_refl _) (.cells #[.int .i64 K, .int .i64 h, .slice A n c, .slice A' n' c'] 24))
  have K0 := hide (Bk.born w 24 #[.int .i64 K, .int .i64 h, .slice A n c, .slice A' n' c'])
  clear hT
  by_cases hL : 100 < n ∨ 100 < n'
  case pos =>
    go_enter Try.func6, Try.ntmps6
    go_wp2_with fail
    refine (Long_any K h _ n c cs _ n' c' ds _ (HT.out.below B0.out (Nat.le_refl _))).mono ?_
    rw [decide_eq_true hL]
    rintro e w1 ⟨rfl, b1⟩
    have B1 := hide (B0.out.trans (b1.mono B0.out.size))
    have K1 := hide (K0.out.keep b1 K0.out.in_)
    clear b1
    go_wp2_with fail
    refine (known_any _).mono ?_
    rintro e wz ⟨rfl, bz⟩
    go_wp2_with fail
    go_ret
    exact ⟨rfl, B1.out.trans (bz.mono B1.out.size)⟩
  go_enter Try.func6, Try.ntmps6
  go_wp2_with fail
  refine (Long_any K h _ n c cs _ n' c' ds _ (HT.out.below B0.out (Nat.le_refl _))).mono ?_
  rw [decide_eq_false hL]
  rintro e w1 ⟨rfl, b1⟩
  have B1 := hide (B0.out.trans (b1.mono B0.out.size))
  have K1 := hide (K0.out.keep b1 K0.out.in_)
  clear b1
  have HM := hide (fL_up (K := K) (h := h) (cs := cs) (ds := ds))
  obtain ⟨k0, k1, k2, k3, _⟩ := K1.out.four
  go_wp2_with fail
  refine (Firsts_any K h _ n c cs _ n' c' ds _ (HT.out.below B1.out (Nat.le_refl _))).mono ?_
  rintro e w2 ⟨Aa, na, ca, rfl, oa, b2⟩
  have B2 := hide (B1.out.trans (b2.mono B1.out.size))
  have K2 := hide (K1.out.keep b2 K1.out.in_)
  clear b2
  clear k0 k1 k2 k3
  have La := hide oa.len
  have Pa := hide oa
  clear oa
  obtain ⟨k0, k1, k2, k3, _⟩ := K2.out.four
  go_wp2_with fail
  refine (rFirsts_any K h _ n c cs _ n' c' ds _ (HT.out.below B2.out (Nat.le_refl _))).mono ?_
  rintro e w3 ⟨Ab, nb, cb, rfl, ob, b3⟩
  have B3 := hide (B2.out.trans (b3.mono B2.out.size))
  have K3 := hide (K2.out.keep b3 K2.out.in_)
  replace Pa := hide (Pa.out.below b3 (Nat.le_refl _))
  clear b3
  clear k0 k1 k2 k3
  have Rb := hide (ob.row)
  clear ob
  generalize okl (errT K h cs ds) ((tk K h cs ds).fL ds.length) = la at *
  generalize errT K h cs ds = er at *
  go_wp2_with fail
  refine (SameInts_any _ _ _ _ _ _ _ _ _ Pa.out.row Rb.out).mono ?_
  rw [eqL_self]
  rintro e w4 ⟨rfl, b4⟩
  have B4 := hide (B3.out.trans (b4.mono B3.out.size))
  have K4 := hide (K3.out.keep b4 K3.out.in_)
  replace Pa := hide (Pa.out.below b4 (Nat.le_refl _))
  replace Rb := hide (Rb.out.below b4 (Nat.le_refl _))
  clear b4
  go_wp2_with fail
  go_loopw [7] (fun i wr => ∃ k m : Nat, 1 ≤ k ∧ i = .int .i64 k ∧ wr = w4.drewN m) (fun i _ => na - (intOf i).toNat)
  case atStart => exact ⟨1, 0, by omega, rfl, rfl⟩
  case round =>
    obtain ⟨k, m, hk, rfl, rfl⟩ := hrel
    obtain ⟨j, hkj⟩ : ∃ j, k = j + 1 := ⟨k - 1, by omega⟩
    by_cases hlt : k < na
    · obtain ⟨g, rfl⟩ : ∃ g, Aa = some ⟨g, 0, none⟩ := by
        rcases Pa.out.form with ⟨_, h0, _⟩ | ⟨g, e, _⟩
        · omega
        · exact ⟨g, e⟩
      have c1 := Pa.out.cell (k := k) hlt
      have c2 := Pa.out.cell (k := j) (by omega)
      have up := HM.out j (by have := La.out; omega)
      rw [← hkj] at up
      have ncap : na ≤ 9223372036854775807 := by
        have := Pa.out.row.max'
        omega
      generalize la.getD k 0 = z1 at *
      generalize la.getD j 0 = z2 at *
      have up' : ¬ z1 < z2 := by omega
      have wj : IntKind.i64.wrap ((k : Int) - 1) = j := by rw [show (k : Int) - 1 = j by omega]; exact IntWalk.i64_in _ (by omega)
      have l1 : (j : Int) < na := by omega
      have l2 : (k : Int) < na := by omega
      clear hkj
      go_wp2_with fail
      go_quiet (fail)
      clear wj
      go_wp2_with fail
      go_roundw
      case rel => exact ⟨k + 1, m + nq, by omega, by go_num, rfl⟩
      case measure => simp [intOf]; omega
    · have l2 : ¬ ((k : Int) < na) := by omega
      go_wp2_with fail
      refine (known_any _).mono ?_
      rintro e wz ⟨rfl, bz⟩
      go_wp2_with fail
      go_ret
      exact ⟨rfl, (below_drewN B4.out m).trans (bz.mono (by simp; have := B4.out.size; omega))⟩

end Go.Proofs.Ytjhnfcmijijdcaa

namespace Go.Proofs.Ytjhnfcmijijdcaa.airFirstsDone
open Go.ChangeShapes Go.WideShapes Go.ChangeAt Go.RowKit
set_option linter.unusedVariables false

set_option maxRecDepth 100000 in
theorem lifted (os : Os) (started : os.Started) (H : Type) (enc : TypeId × Value → H) :
    ReturnsInHanded {} Try.checked os 6 .any (Rows.airFirstsSpec.pre6 enc Try.prog Try.f6 Rows.airFirstsRow.domain false) (Rows.airFirstsSpec.post enc Try.prog Try.f6 false true false false) := by
  refine returnsInHanded_of_change (C := Try.checked) own started (by kernel_rfl) Try.func6
    (ChangeSpec.witness6 (enc := enc) (C := Try.checked) false ⟨#[], #[.agg #[.int .i64 0, .int .i64 0, .slice none 0 0, .slice none 0 0]], []⟩ 8 (by kernel_rfl) (by kernel_rfl) (by kernel_rfl) (by kernel_rfl)) ?_
  intro W base args ds gs before hval0 hW hcnd _
  have hval : ∀ (j : Nat) t v, Try.f6.params[j]? = some t → args[j]? = some v → Value.okWide Try.prog W .any base t v := hval0
  have hW' := hW
  obtain ⟨p, q, hA0, hV, rfl, hfz, hnd⟩ := hW
  have hA : DataW.TrodAll enc Try.prog W 0 (fun _ => true) true Try.f6.params.toList args.toList ds p := hA0
  rw [Try.params6] at hA hval
  obtain ⟨v0, vs0, d0, ds0, p0, q0, hargs, rfl, rfl, h0, r0⟩ := trodAll_cons hA
  obtain ⟨rfl, rfl, rfl⟩ := trodAll_nil r0
  obtain rfl : args = #[v0] := by cases args; simp_all
  obtain ⟨rfl, rfl⟩ := trodVars_none hV
  have k0 := h0
  have lt0 : ∀ x ∈ p0, x.block < W.heap.size := by obtain ⟨m, hm⟩ := k0; exact DataW.trod_lt m _ _ _ hm
  obtain ⟨K0, g0, A0, n0, c0, z0, B0, m0, e0, y0, rfl, w0⟩ := task_open (hval 0 24 v0 rfl rfl) h0
  clear hA0 hval0
  refine (Go.Proofs.Ytjhnfcmijijdcaa.AirFirsts_walk K0 g0 A0 n0 c0 z0 B0 m0 e0 y0 W w0).mono fun e W' ⟨he, bel⟩ => ?_
  subst he
  exact ⟨_, rfl, _, _, _, [], _, [], hW', trodAll_mk1 (shut_bool Try.underlying4 _), (trodAll_cons_mk (Below.trod laidOut (by kernel_rfl) (of_decide_eq_true (by kernel_rfl)) k0 bel lt0) trodAll_mk0), rfl, bel.frame _, fun h => by cases h⟩

theorem over : Rows.airFirstsRow.holds Try.pinned (OpenSpec.ofChange Rows.airFirstsSpec) :=
  OpenClaim.holds_of_wide 6 Try.f6 rfl rfl rfl rfl rfl rfl rfl ⟨rfl, rfl, rfl, rfl, rfl⟩ rfl rfl rfl rfl rfl (by kernel_rfl) Try.func6 (by kernel_rfl)
    (of_decide_eq_true (by kernel_rfl)) (by unfold Func.isWrapper; first | (rw [if_pos (by decide +kernel)]; kernel_rfl) | (rw [if_neg (by decide +kernel)]; exact ⟨rfl, rfl⟩))
    (fun os started H enc _ => lifted os started H enc)

theorem proved : Rows.AirFirstsSaid := over
#print axioms proved
end Go.Proofs.Ytjhnfcmijijdcaa.airFirstsDone
