/- TopLogs: the walk. -/
import Derived.Test.YtndfdminjegldaaKnT
import Derived.Test.YtndfdminjegldaaWalkWr
import Derived.Test.YtndfdminjegldaaWalkQ
import Derived.Test.YtndfdminjegldaaWalkTr
import Derived.Test.YtndfdminjegldaaWalkY
import Derived.Test.YtndfdminjegldaaWalkPc
import Derived.Test.YtndfdminjegldaaWalkT
import Derived.Test.YtndfdminjegldaaWalkV
import Derived.Test.YtndfdminjegldaaWalkO
import Derived.Deep.RegionHeldLaw
namespace Go.Proofs.Ytndfdminjegldaa
open Go.RowKit Go.Shelf
attribute [local go_sem] Oper.semAt_some

theorem errL_sub {l m : List Int} (h : errL m = 0) (hs : l.Sublist m) : errL l = 0 := by
  rw [errL_ok] at h ⊢
  exact ⟨Nat.le_trans hs.length_le h.1, fun x hx => h.2 x (hs.mem hx)⟩
theorem kn_com : comV [1, 2, 3] [3, 1, 3] = 2 := by
  have h1 : errB [1, 2, 3] [3, 1, 3] = 0 := by decide
  rw [comV_ok h1]
  have h2 : dist [1, 2, 3] [3, 1, 3] C112 = 2 := by
    simp [dist, dd, chg, C112]
    decide
  unfold cmn
  rw [h2]
  decide
theorem kn_comE : errB [1, 2, 3] [3, 1, 3] = 0 := by decide
/-- What is in no common part is left out and put in. -/
theorem dist_cmn {l m : List Int} {c : Cst} (hc : c.ok) : dist l m c ≤ c.o * ((l.length : Int) - (cmn l m : Nat)) + c.i * ((m.length : Int) - (cmn l m : Nat)) := by
  obtain ⟨⟨p, h1, h2, h3⟩, _⟩ := cmn_spec l m
  have := al_part hc h1 h2
  rwa [h3] at this
theorem n_of {n k : Nat} {l : List Int} (h : l.length = n) (h' : l.length = k) : n = k := h.symm.trans h'
set_option maxRecDepth 100000 in
set_option maxHeartbeats 16000000 in
theorem TopLogs_walk (A : Option Addr) (n c : Nat) (xs : List Int) (A' : Option Addr) (n' c' : Nat) (ys : List Int) (o i h : Int) (Az : Option Addr) (nz cz : Nat) (zs : List Int) (w : World) (hx : R E1 w A n c xs) (hy : R E1 w A' n' c' ys) (hz : R E1 w Az nz cz zs) :
    Calls Try.prog 17 #[tV A n c A' n' c' o i h, .slice Az nz cz] w fun e w' => e = .returned (.bool true) ∧ Below w.heap.size w w' := by
  have KN1 := hide kn_com
  have KN2 := hide kn_comE
  have DB := hide ((Below.refl w.heap.size w).alloc (Nat.le_refl _) (.cells #[.slice A n c, .slice A' n' c', .int .i64 o, .int .i64 i, .int .i64 h] 26))
  have hzs : (w.alloc (.cells #[.slice A n c, .slice A' n' c', .int .i64 o, .int .i64 i, .int .i64 h] 26)).heap.size = w.heap.size + 1 := by simp
  obtain ⟨r1, r2⟩ := lit_two (w.alloc (.cells #[.slice A n c, .slice A' n' c', .int .i64 o, .int .i64 i, .int .i64 h] 26)) [1, 2, 3] [3, 1, 3] (by decide) (by decide)
  rw [hzs] at r1 r2
  have H1 := hide r1
  have H2 := hide r2
  have D0 := hide ((DB.out.alloc (by omega) (.cells (E1.cells [1, 2, 3]).toArray 3)).alloc (by simp <;> omega) (.cells (E1.cells [3, 1, 3]).toArray 3))
  have HBK := hide ((Bk.born w 26 #[.slice A n c, .slice A' n' c', .int .i64 o, .int .i64 i, .int .i64 h]).more (.cells (E1.cells [1, 2, 3]).toArray 3) |>.more (.cells (E1.cells [3, 1, 3]).toArray 3))
  have hbz : w.heap.size < (((w.alloc (.cells #[.slice A n c, .slice A' n' c', .int .i64 o, .int .i64 i, .int .i64 h] 26)).alloc (.cells (E1.cells [1, 2, 3]).toArray 3)).alloc (.cells (E1.cells [3, 1, 3]).toArray 3)).heap.size := by simp <;> omega
  have HX := hide (hx.below D0.out (Nat.le_refl _))
  have HY := hide (hy.below D0.out (Nat.le_refl _))
  have HZ := hide (hz.below D0.out (Nat.le_refl _))
  have hle := hx.le
  have hle' := hy.le
  have hlez := hz.le
  have HLX := hide hx.length
  have HLY := hide hy.length
  clear hx hy hz r1 r2 hzs DB
  cases hlg : (decide (100 < n) || decide (100 < n')) with
  | true =>
    have HLG := hide hlg
    clear hlg
    as_aux_lemma =>
      go_enter Try.func17, Try.ntmps17
      go_wp2_with (first
        | (have hgd := D1; clear hgd; go_at_call 18; refine (Long_any A n c A' n' c' o i h _ hle hle').mono ?_; rintro e2 w2 ⟨rfl, b2⟩; rw [HLG.out]; have D2 := hide b2; clear b2; obtain ⟨f20, f21, f22, f23, f24⟩ := two_cells HBK.out (show Below _ _ w2 from (le_call D1.out D2.out)) hbz)
        | (go_at_call 37; refine (Common_any _ 3 3 [1, 2, 3] _ 3 3 [3, 1, 3] _ H1.out H2.out).mono ?_; rw [show comV [1, 2, 3] [3, 1, 3] = 2 from KN1.out, show errB [1, 2, 3] [3, 1, 3] = 0 from KN2.out]; rintro e1 w1 ⟨rfl, b1⟩; have D1 := hide b1; clear b1; obtain ⟨f10, f11, f12, f13, f14⟩ := two_cells HBK.out (show Below _ _ w1 from D1.out) hbz))
      go_ret
      exact ⟨ret_bool (by simp), (le_call (le_call D0.out D1.out) D2.out)⟩
  | false =>
    have HLG := hide hlg
    clear hlg
    by_cases hnz : 100 < nz
    · have hnz2 : decide ((100 : Int) < (nz : Int)) = true := decide_eq_true (by omega)
      as_aux_lemma =>
        go_enter Try.func17, Try.ntmps17
        go_wp2_with (first
          | (have hgd := D1; clear hgd; go_at_call 18; refine (Long_any A n c A' n' c' o i h _ hle hle').mono ?_; rintro e2 w2 ⟨rfl, b2⟩; rw [HLG.out]; have D2 := hide b2; clear b2; obtain ⟨f20, f21, f22, f23, f24⟩ := two_cells HBK.out (show Below _ _ w2 from (le_call D1.out D2.out)) hbz)
          | (go_at_call 37; refine (Common_any _ 3 3 [1, 2, 3] _ 3 3 [3, 1, 3] _ H1.out H2.out).mono ?_; rw [show comV [1, 2, 3] [3, 1, 3] = 2 from KN1.out, show errB [1, 2, 3] [3, 1, 3] = 0 from KN2.out]; rintro e1 w1 ⟨rfl, b1⟩; have D1 := hide b1; clear b1; obtain ⟨f10, f11, f12, f13, f14⟩ := two_cells HBK.out (show Below _ _ w1 from D1.out) hbz))
        go_ret
        exact ⟨ret_bool (by simp), (le_call (le_call D0.out D1.out) D2.out)⟩
    · have hnz2 : decide ((100 : Int) < (nz : Int)) = false := decide_eq_false (by omega)
      clear hnz
      by_cases he : errD xs ys ⟨o, i, h⟩ = 0
      · have HE := hide he
        have HV := hide (distV_ok he)
        obtain ⟨q1, q2, q3⟩ := errD_ok.1 he
        have HCO := hide q3
        have HEB := hide (errB_ok.2 ⟨q1, q2⟩)
        have hn10 : n ≤ 10 := by rw [← HLX.out]; exact (errL_ok.1 q1).1
        have hn10' : n' ≤ 10 := by rw [← HLY.out]; exact (errL_ok.1 q2).1
        have hbd := dist_bd he
        have HOKU := hide (fun ps (hb : bestOk xs ys ⟨o, i, h⟩ ps) => show errQ xs ys ⟨o, i, h⟩ ps = 0 ∧ cstV xs ys ⟨o, i, h⟩ ps = dist xs ys ⟨o, i, h⟩ ∧ ps.length ≤ xs.length from by unfold bestOk at hb; rw [if_pos he] at hb; exact hb)
        have htg := tab_good he
        rw [← tabV_ok he] at htg
        have HG1 := hide htg.2
        have HG2 := hide htg.1
        have hba := bac_err q1
        have hbb := bac_err q2
        have HBA := hide q1
        have HBB := hide q2
        have heb := errD_ok.2 ⟨hba, hbb, q3⟩
        have HEBK := hide heb
        have HVBK := hide (show distV (bacV xs) (bacV ys) ⟨o, i, h⟩ = dist xs ys ⟨o, i, h⟩ from by rw [distV_ok heb, bacV_ok q1, bacV_ok q2, dist_rev])
        obtain ⟨v1, v2, v3⟩ := sw_ok he
        have HW1 := hide v1
        have HW2 := hide v2
        have HW3 := hide (show swC xs ys ⟨o, i, h⟩ = ⟨i, o, h⟩ from v3)
        have hsr := errD_ok.2 (show errL ys = 0 ∧ errL xs = 0 ∧ Cst.ok ⟨i, o, h⟩ from ⟨q2, q1, ⟨q3.2.1, q3.1, q3.2.2⟩⟩)
        have HESW := hide hsr
        have HVSW := hide (show distV ys xs ⟨i, o, h⟩ = dist xs ys ⟨o, i, h⟩ from by rw [distV_ok hsr]; exact dist_swap xs ys ⟨o, i, h⟩)
        have HCV := hide (comV_ok HEB.out)
        have HPE := hide (par_errP HEB.out)
        have HPL := hide (par_len HEB.out)
        have hcl := cmn_le xs ys
        have hcd := dist_cmn (l := xs) (m := ys) q3
        rw [HLX.out, HLY.out] at hcl hcd
        have HWV := hide (winV_ok he)
        have HWO := hide (win_ok xs ys ⟨o, i, h⟩)
        have HWW := hide (win_whole xs ys ⟨o, i, h⟩)
        rw [HLY.out] at HWO HWW HWV
        generalize hS : winS xs ys ⟨o, i, h⟩ n' = S at *
        clear hS
        obtain ⟨a, b, v⟩ := S
        obtain ⟨w1', w2', w3', w4'⟩ := HWO.out
        dsimp only at w1' w2' w3' w4' HWW HWV hcd
        obtain ⟨t, rfl⟩ : ∃ t, b = a + t := ⟨b - a, by omega⟩
        have hwin := dist_window xs ys ⟨o, i, h⟩ (a := a) (b := a + t) (by omega) (by rw [HLY.out]; exact w2')
        have hdu : dist xs ((ys.drop a).take t) ⟨o, i, h⟩ = v := by rw [w3']; unfold dWi; rw [Nat.add_sub_cancel_left]
        rw [Nat.add_sub_cancel_left, hdu, HLY.out] at hwin
        dsimp only at hwin
        have hle2 := HWW.out
        have hesub := errD_ok.2 ⟨q1, errL_sub q2 ((List.take_sublist t (ys.drop a)).trans (List.drop_sublist a ys)), q3⟩
        have HSUB := hide hesub
        have HDU := hide (show distV xs ((ys.drop a).take t) ⟨o, i, h⟩ = v from by rw [distV_ok hesub, hdu])
        have HTRI := hide (fun (e1 : errD xs zs ⟨o, i, h⟩ = 0) (e2 : errD zs ys ⟨o, i, h⟩ = 0) => show dist xs ys ⟨o, i, h⟩ ≤ distV xs zs ⟨o, i, h⟩ + distV zs ys ⟨o, i, h⟩ ∧ (0 ≤ distV xs zs ⟨o, i, h⟩ ∧ distV xs zs ⟨o, i, h⟩ ≤ 180) ∧ 0 ≤ distV zs ys ⟨o, i, h⟩ ∧ distV zs ys ⟨o, i, h⟩ ≤ 180 from by
          rw [distV_ok e1, distV_ok e2]
          exact ⟨dist_tri q3 xs zs ys, dist_bd e1, dist_bd e2⟩)
        obtain ⟨ho, hi, hh⟩ := q3
        simp only at ho hi hh
        have m1 := mulb (x := (n : Int) - (cmn xs ys : Nat)) ho (by omega)
        have m2 := mulb (x := (n' : Int) - (cmn xs ys : Nat)) hi (by omega)
        have m3 := mulb (x := (n' : Int) - ((a : Int) + (t : Int)) + (a : Int)) hi (by omega)
        have ewn : ((n' - (a + t) + a : Nat) : Int) = (n' : Int) - ((a : Int) + (t : Int)) + (a : Int) := by omega
        rw [ewn] at hwin
        clear he q1 q2 htg hba hbb heb v1 v2 v3 hsr w3' w4' hdu hesub ewn
        generalize dist xs ys ⟨o, i, h⟩ = d at *
        generalize cmn xs ys = k at *
        obtain ⟨P, hP⟩ : ∃ P, o * ((n : Int) - (k : Int)) = P := ⟨_, rfl⟩
        obtain ⟨Q, hQ⟩ : ∃ Q, i * ((n' : Int) - (k : Int)) = Q := ⟨_, rfl⟩
        obtain ⟨U, hU⟩ : ∃ U, i * ((n' : Int) - ((a : Int) + (t : Int)) + (a : Int)) = U := ⟨_, rfl⟩
        rw [hP] at m1 hcd
        rw [hQ] at m2 hcd
        rw [hU] at m3 hwin
        have z1 : IntKind.i64.wrap ((n : Int) - (k : Int)) = (n : Int) - (k : Int) := IntWalk.i64_in _ (by omega)
        have z2 : IntKind.i64.wrap (o * ((n : Int) - (k : Int))) = P := by rw [hP]; exact IntWalk.i64_in _ (by omega)
        have z3 : IntKind.i64.wrap ((n' : Int) - (k : Int)) = (n' : Int) - (k : Int) := IntWalk.i64_in _ (by omega)
        have z4 : IntKind.i64.wrap (i * ((n' : Int) - (k : Int))) = Q := by rw [hQ]; exact IntWalk.i64_in _ (by omega)
        have z5 : IntKind.i64.wrap (P + Q) = P + Q := IntWalk.i64_in _ (by omega)
        have z6 : IntKind.i64.wrap ((n' : Int) - ((a : Int) + (t : Int))) = (n' : Int) - ((a : Int) + (t : Int)) := IntWalk.i64_in _ (by omega)
        have z7 : IntKind.i64.wrap ((n' : Int) - ((a : Int) + (t : Int)) + (a : Int)) = (n' : Int) - ((a : Int) + (t : Int)) + (a : Int) := IntWalk.i64_in _ (by omega)
        have z8 : IntKind.i64.wrap (i * ((n' : Int) - ((a : Int) + (t : Int)) + (a : Int))) = U := by rw [hU]; exact IntWalk.i64_in _ (by omega)
        have z9 : IntKind.i64.wrap (v + U) = v + U := IntWalk.i64_in _ (by omega)
        have g1 : decide (P + Q < d) = false := decide_eq_false (by omega)
        have g2 : (0 : Int) ≤ (a : Int) := by omega
        have g3 : (a : Int) ≤ (a : Int) + (t : Int) := by omega
        have g4 : (a : Int) + (t : Int) ≤ (n' : Int) := by omega
        have g5 : decide (d < v) = false := decide_eq_false (by omega)
        have g6 : decide (v + U < d) = false := decide_eq_false (by omega)
        clear hP hQ hU hwin hcd m1 m2 m3
        go_enter Try.func17, Try.ntmps17
        go_upto_region 33 with (first
          | (have hgd := D16; clear hgd; go_at_call 45; refine (Window_any A n c xs A' n' c' ys o i h w15 ((((((((((((((((HX.out.below D1.out (Nat.le_refl _)).below D2.out (Nat.le_refl _)).below D3.out (Nat.le_refl _)).below D4.out (Nat.le_refl _)).below D5.out (Nat.le_refl _)).below D6.out (Nat.le_refl _)).below D7.out (Nat.le_refl _)).below D8.out (Nat.le_refl _)).below D9.out (Nat.le_refl _)).below D10.out (Nat.le_refl _)).below D11.out (Nat.le_refl _)).below D12.out (Nat.le_refl _)).below D13.out (Nat.le_refl _)).below D14.out (Nat.le_refl _)).below D15.out (Nat.le_refl _)).below D16.out (Nat.le_refl _)) ((((((((((((((((HY.out.below D1.out (Nat.le_refl _)).below D2.out (Nat.le_refl _)).below D3.out (Nat.le_refl _)).below D4.out (Nat.le_refl _)).below D5.out (Nat.le_refl _)).below D6.out (Nat.le_refl _)).below D7.out (Nat.le_refl _)).below D8.out (Nat.le_refl _)).below D9.out (Nat.le_refl _)).below D10.out (Nat.le_refl _)).below D11.out (Nat.le_refl _)).below D12.out (Nat.le_refl _)).below D13.out (Nat.le_refl _)).below D14.out (Nat.le_refl _)).below D15.out (Nat.le_refl _)).below D16.out (Nat.le_refl _))).mono ?_; rintro e3 w3 ⟨rfl, b3⟩; rw [HWV.out, HE.out]; have D17 := hide b3; clear b3; obtain ⟨f170, f171, f172, f173, f174⟩ := two_cells HBK.out (show Below _ _ w3 from (le_call (le_call (le_call (le_call (le_call (le_call (le_call (le_call (le_call (le_call (le_call (le_call (le_call (le_call (le_call (le_call D1.out D2.out) D3.out) D4.out) D5.out) D6.out) D7.out) D8.out) D9.out) D10.out) D11.out) D12.out) D13.out) D14.out) D15.out) D16.out) D17.out)) hbz)
          | (have hgd := D15; clear hgd; go_at_call 41; refine (CheckCommon_any A n c xs A' n' c' ys A15 n15 c15 (parV xs ys) _ (((((((((((((((HX.out.below D1.out (Nat.le_refl _)).below D2.out (Nat.le_refl _)).below D3.out (Nat.le_refl _)).below D4.out (Nat.le_refl _)).below D5.out (Nat.le_refl _)).below D6.out (Nat.le_refl _)).below D7.out (Nat.le_refl _)).below D8.out (Nat.le_refl _)).below D9.out (Nat.le_refl _)).below D10.out (Nat.le_refl _)).below D11.out (Nat.le_refl _)).below D12.out (Nat.le_refl _)).below D13.out (Nat.le_refl _)).below D14.out (Nat.le_refl _)).below D15.out (Nat.le_refl _)) (((((((((((((((HY.out.below D1.out (Nat.le_refl _)).below D2.out (Nat.le_refl _)).below D3.out (Nat.le_refl _)).below D4.out (Nat.le_refl _)).below D5.out (Nat.le_refl _)).below D6.out (Nat.le_refl _)).below D7.out (Nat.le_refl _)).below D8.out (Nat.le_refl _)).below D9.out (Nat.le_refl _)).below D10.out (Nat.le_refl _)).below D11.out (Nat.le_refl _)).below D12.out (Nat.le_refl _)).below D13.out (Nat.le_refl _)).below D14.out (Nat.le_refl _)).below D15.out (Nat.le_refl _)) O15.out).mono ?_; rw [HPE.out]; rintro e16 w16 ⟨rfl, rfl⟩; have D16 := hide (Below.refl w15.heap.size w15))
          | (have hgd := D14; clear hgd; go_at_call 39; refine (Part_any A n c xs A' n' c' ys _ ((((((((((((((HX.out.below D1.out (Nat.le_refl _)).below D2.out (Nat.le_refl _)).below D3.out (Nat.le_refl _)).below D4.out (Nat.le_refl _)).below D5.out (Nat.le_refl _)).below D6.out (Nat.le_refl _)).below D7.out (Nat.le_refl _)).below D8.out (Nat.le_refl _)).below D9.out (Nat.le_refl _)).below D10.out (Nat.le_refl _)).below D11.out (Nat.le_refl _)).below D12.out (Nat.le_refl _)).below D13.out (Nat.le_refl _)).below D14.out (Nat.le_refl _)) ((((((((((((((HY.out.below D1.out (Nat.le_refl _)).below D2.out (Nat.le_refl _)).below D3.out (Nat.le_refl _)).below D4.out (Nat.le_refl _)).below D5.out (Nat.le_refl _)).below D6.out (Nat.le_refl _)).below D7.out (Nat.le_refl _)).below D8.out (Nat.le_refl _)).below D9.out (Nat.le_refl _)).below D10.out (Nat.le_refl _)).below D11.out (Nat.le_refl _)).below D12.out (Nat.le_refl _)).below D13.out (Nat.le_refl _)).below D14.out (Nat.le_refl _))).mono ?_; rintro e15 w15 ⟨A15, n15, c15, rfl, o15, b15⟩; rw [HEB.out]; have hnk := n_of o15.len HPL.out; subst hnk; have O15 := hide o15.row; clear o15; have D15 := hide b15; clear b15; obtain ⟨f150, f151, f152, f153, f154⟩ := two_cells HBK.out (show Below _ _ w15 from (le_call (le_call (le_call (le_call (le_call (le_call (le_call (le_call (le_call (le_call (le_call (le_call (le_call (le_call D1.out D2.out) D3.out) D4.out) D5.out) D6.out) D7.out) D8.out) D9.out) D10.out) D11.out) D12.out) D13.out) D14.out) D15.out)) hbz)
          | (have hgd := D13; clear hgd; go_at_call 37; refine (Common_any A n c xs A' n' c' ys _ (((((((((((((HX.out.below D1.out (Nat.le_refl _)).below D2.out (Nat.le_refl _)).below D3.out (Nat.le_refl _)).below D4.out (Nat.le_refl _)).below D5.out (Nat.le_refl _)).below D6.out (Nat.le_refl _)).below D7.out (Nat.le_refl _)).below D8.out (Nat.le_refl _)).below D9.out (Nat.le_refl _)).below D10.out (Nat.le_refl _)).below D11.out (Nat.le_refl _)).below D12.out (Nat.le_refl _)).below D13.out (Nat.le_refl _)) (((((((((((((HY.out.below D1.out (Nat.le_refl _)).below D2.out (Nat.le_refl _)).below D3.out (Nat.le_refl _)).below D4.out (Nat.le_refl _)).below D5.out (Nat.le_refl _)).below D6.out (Nat.le_refl _)).below D7.out (Nat.le_refl _)).below D8.out (Nat.le_refl _)).below D9.out (Nat.le_refl _)).below D10.out (Nat.le_refl _)).below D11.out (Nat.le_refl _)).below D12.out (Nat.le_refl _)).below D13.out (Nat.le_refl _))).mono ?_; rintro e14 w14 ⟨rfl, b14⟩; rw [HCV.out, HEB.out]; have D14 := hide b14; clear b14; obtain ⟨f140, f141, f142, f143, f144⟩ := two_cells HBK.out (show Below _ _ w14 from (le_call (le_call (le_call (le_call (le_call (le_call (le_call (le_call (le_call (le_call (le_call (le_call (le_call D1.out D2.out) D3.out) D4.out) D5.out) D6.out) D7.out) D8.out) D9.out) D10.out) D11.out) D12.out) D13.out) D14.out)) hbz)
          | (have hgd := D12; clear hgd; go_at_call 26; refine (Distance_any A11 n11 c11 ys B11 m11 d11 xs i o h _ (O11.out.below D12.out (Nat.le_refl _)) (P11.out.below D12.out (Nat.le_refl _))).mono ?_; rintro e13 w13 ⟨rfl, b13⟩; rw [HVSW.out, HESW.out]; have D13 := hide b13; clear b13; obtain ⟨f130, f131, f132, f133, f134⟩ := two_cells HBK.out (show Below _ _ w13 from (le_call (le_call (le_call (le_call (le_call (le_call (le_call (le_call (le_call (le_call (le_call (le_call D1.out D2.out) D3.out) D4.out) D5.out) D6.out) D7.out) D8.out) D9.out) D10.out) D11.out) D12.out) D13.out)) hbz)
          | (have hgd := D10; clear hgd; go_at_call 49; refine (Swap_any A n c xs A' n' c' ys o i h _ ((((((((((HX.out.below D1.out (Nat.le_refl _)).below D2.out (Nat.le_refl _)).below D3.out (Nat.le_refl _)).below D4.out (Nat.le_refl _)).below D5.out (Nat.le_refl _)).below D6.out (Nat.le_refl _)).below D7.out (Nat.le_refl _)).below D8.out (Nat.le_refl _)).below D9.out (Nat.le_refl _)).below D10.out (Nat.le_refl _)) ((((((((((HY.out.below D1.out (Nat.le_refl _)).below D2.out (Nat.le_refl _)).below D3.out (Nat.le_refl _)).below D4.out (Nat.le_refl _)).below D5.out (Nat.le_refl _)).below D6.out (Nat.le_refl _)).below D7.out (Nat.le_refl _)).below D8.out (Nat.le_refl _)).below D9.out (Nat.le_refl _)).below D10.out (Nat.le_refl _))).mono ?_; rw [HW1.out, HW2.out, HW3.out, HE.out]; rintro e11 w11 ⟨A11, n11, c11, B11, m11, d11, rfl, o11, p11, b11⟩; have O11 := hide o11.row; have P11 := hide p11.row; have D11 := hide b11; clear o11 p11 b11; have D12 := hide ((Below.refl w11.heap.size w11).alloc (Nat.le_refl _) (.cells #[.int .i64 i, .int .i64 o, .int .i64 h] 24)); obtain ⟨kc0, kc1, kc2⟩ := bk_three (Bk.born w11 24 #[.int .i64 i, .int .i64 o, .int .i64 h]); obtain ⟨f110, f111, f112, f113, f114⟩ := two_cells HBK.out (show Below _ _ w11 from (le_call (le_call (le_call (le_call (le_call (le_call (le_call (le_call (le_call (le_call D1.out D2.out) D3.out) D4.out) D5.out) D6.out) D7.out) D8.out) D9.out) D10.out) D11.out)) hbz; obtain ⟨f120, f121, f122, f123, f124⟩ := two_cells HBK.out (show Below _ _ (w11.alloc (.cells #[.int .i64 i, .int .i64 o, .int .i64 h] 24)) from (le_call (le_call (le_call (le_call (le_call (le_call (le_call (le_call (le_call (le_call (le_call D1.out D2.out) D3.out) D4.out) D5.out) D6.out) D7.out) D8.out) D9.out) D10.out) D11.out) D12.out)) hbz)
          | (have hgd := D9; clear hgd; go_at_call 26; refine (Distance_any A8 n8 c8 (bacV xs) A9 n9 c9 (bacV ys) o i h _ (O8.out.below D9.out (Nat.le_refl _)) O9.out).mono ?_; rintro e10 w10 ⟨rfl, b10⟩; rw [HVBK.out, HEBK.out]; have D10 := hide b10; clear b10; obtain ⟨f100, f101, f102, f103, f104⟩ := two_cells HBK.out (show Below _ _ w10 from (le_call (le_call (le_call (le_call (le_call (le_call (le_call (le_call (le_call D1.out D2.out) D3.out) D4.out) D5.out) D6.out) D7.out) D8.out) D9.out) D10.out)) hbz)
          | (have hgd := D8; clear hgd; go_at_call 47; refine (Back_any A' n' c' ys _ ((((((((HY.out.below D1.out (Nat.le_refl _)).below D2.out (Nat.le_refl _)).below D3.out (Nat.le_refl _)).below D4.out (Nat.le_refl _)).below D5.out (Nat.le_refl _)).below D6.out (Nat.le_refl _)).below D7.out (Nat.le_refl _)).below D8.out (Nat.le_refl _))).mono ?_; rintro e9 w9 ⟨A9, n9, c9, rfl, o9, b9⟩; rw [HBB.out]; have O9 := hide o9.row; have HN9 := hide o9.len; clear o9; have D9 := hide b9; clear b9; obtain ⟨f90, f91, f92, f93, f94⟩ := two_cells HBK.out (show Below _ _ w9 from (le_call (le_call (le_call (le_call (le_call (le_call (le_call (le_call D1.out D2.out) D3.out) D4.out) D5.out) D6.out) D7.out) D8.out) D9.out)) hbz)
          | (have hgd := D7; clear hgd; go_at_call 47; refine (Back_any A n c xs _ (((((((HX.out.below D1.out (Nat.le_refl _)).below D2.out (Nat.le_refl _)).below D3.out (Nat.le_refl _)).below D4.out (Nat.le_refl _)).below D5.out (Nat.le_refl _)).below D6.out (Nat.le_refl _)).below D7.out (Nat.le_refl _))).mono ?_; rintro e8 w8 ⟨A8, n8, c8, rfl, o8, b8⟩; rw [HBA.out]; have O8 := hide o8.row; have HN8 := hide o8.len; clear o8; have D8 := hide b8; clear b8; obtain ⟨f80, f81, f82, f83, f84⟩ := two_cells HBK.out (show Below _ _ w8 from (le_call (le_call (le_call (le_call (le_call (le_call (le_call D1.out D2.out) D3.out) D4.out) D5.out) D6.out) D7.out) D8.out)) hbz)
          | (have hgd := D6; clear hgd; go_at_call 33; refine (CheckTable_any A n c xs A' n' c' ys o i h A6 n6 c6 (tabV xs ys ⟨o, i, h⟩) _ ((((((HX.out.below D1.out (Nat.le_refl _)).below D2.out (Nat.le_refl _)).below D3.out (Nat.le_refl _)).below D4.out (Nat.le_refl _)).below D5.out (Nat.le_refl _)).below D6.out (Nat.le_refl _)) ((((((HY.out.below D1.out (Nat.le_refl _)).below D2.out (Nat.le_refl _)).below D3.out (Nat.le_refl _)).below D4.out (Nat.le_refl _)).below D5.out (Nat.le_refl _)).below D6.out (Nat.le_refl _)) T6.out).mono ?_; rintro e7 w7 ⟨rfl, b7⟩; rw [HG1.out, HG2.out]; have D7 := hide b7; clear b7; obtain ⟨f70, f71, f72, f73, f74⟩ := two_cells HBK.out (show Below _ _ w7 from (le_call (le_call (le_call (le_call (le_call (le_call D1.out D2.out) D3.out) D4.out) D5.out) D6.out) D7.out)) hbz)
          | (have hgd := D5; clear hgd; go_at_call 35; refine (Table_any A n c xs A' n' c' ys o i h _ (((((HX.out.below D1.out (Nat.le_refl _)).below D2.out (Nat.le_refl _)).below D3.out (Nat.le_refl _)).below D4.out (Nat.le_refl _)).below D5.out (Nat.le_refl _)) (((((HY.out.below D1.out (Nat.le_refl _)).below D2.out (Nat.le_refl _)).below D3.out (Nat.le_refl _)).below D4.out (Nat.le_refl _)).below D5.out (Nat.le_refl _))).mono ?_; rintro e6 w6 ⟨A6, n6, c6, rfl, t6, b6⟩; rw [HE.out]; have T6 := hide t6; clear t6; have D6 := hide b6; clear b6; obtain ⟨f60, f61, f62, f63, f64⟩ := two_cells HBK.out (show Below _ _ w6 from (le_call (le_call (le_call (le_call (le_call D1.out D2.out) D3.out) D4.out) D5.out) D6.out)) hbz)
          | (have hgd := D4; clear hgd; go_at_call 20; refine (CheckPairs_any A n c xs A' n' c' ys o i h A4 n4 c4 ps _ ((((HX.out.below D1.out (Nat.le_refl _)).below D2.out (Nat.le_refl _)).below D3.out (Nat.le_refl _)).below D4.out (Nat.le_refl _)) ((((HY.out.below D1.out (Nat.le_refl _)).below D2.out (Nat.le_refl _)).below D3.out (Nat.le_refl _)).below D4.out (Nat.le_refl _)) HP4.out).mono ?_; rintro e5 w5 ⟨rfl, b5⟩; rw [HQ4.out.1, HQ4.out.2.1]; have D5 := hide b5; clear b5; obtain ⟨f50, f51, f52, f53, f54⟩ := two_cells HBK.out (show Below _ _ w5 from (le_call (le_call (le_call (le_call D1.out D2.out) D3.out) D4.out) D5.out)) hbz)
          | (have hgd := D3; clear hgd; go_at_call 28; refine (Best_any A n c xs A' n' c' ys o i h _ (((HX.out.below D1.out (Nat.le_refl _)).below D2.out (Nat.le_refl _)).below D3.out (Nat.le_refl _)) (((HY.out.below D1.out (Nat.le_refl _)).below D2.out (Nat.le_refl _)).below D3.out (Nat.le_refl _))).mono ?_; rintro e4 w4 ⟨A4, n4, c4, ps, rfl, o4, ok4, b4⟩; rw [HE.out]; have HP4 := hide o4.row; have HQ4 := hide (HOKU.out ps ok4); clear o4 ok4; have D4 := hide b4; clear b4; obtain ⟨f40, f41, f42, f43, f44⟩ := two_cells HBK.out (show Below _ _ w4 from (le_call (le_call (le_call D1.out D2.out) D3.out) D4.out)) hbz)
          | (have hgd := D2; clear hgd; go_at_call 26; refine (Distance_any A n c xs A' n' c' ys o i h _ ((HX.out.below D1.out (Nat.le_refl _)).below D2.out (Nat.le_refl _)) ((HY.out.below D1.out (Nat.le_refl _)).below D2.out (Nat.le_refl _))).mono ?_; rintro e3 w3 ⟨rfl, b3⟩; rw [HV.out, HE.out]; have D3 := hide b3; clear b3; obtain ⟨f30, f31, f32, f33, f34⟩ := two_cells HBK.out (show Below _ _ w3 from (le_call (le_call D1.out D2.out) D3.out)) hbz)
          | (have hgd := D1; clear hgd; go_at_call 18; refine (Long_any A n c A' n' c' o i h _ hle hle').mono ?_; rintro e2 w2 ⟨rfl, b2⟩; rw [HLG.out]; have D2 := hide b2; clear b2; obtain ⟨f20, f21, f22, f23, f24⟩ := two_cells HBK.out (show Below _ _ w2 from (le_call D1.out D2.out)) hbz)
          | (go_at_call 37; refine (Common_any _ 3 3 [1, 2, 3] _ 3 3 [3, 1, 3] _ H1.out H2.out).mono ?_; rw [show comV [1, 2, 3] [3, 1, 3] = 2 from KN1.out, show errB [1, 2, 3] [3, 1, 3] = 0 from KN2.out]; rintro e1 w1 ⟨rfl, b1⟩; have D1 := hide b1; clear b1; obtain ⟨f10, f11, f12, f13, f14⟩ := two_cells HBK.out (show Below _ _ w1 from D1.out) hbz))
        have HB3 := hide (show Below _ _ w3 from (le_call (le_call (le_call (le_call (le_call (le_call (le_call (le_call (le_call (le_call (le_call (le_call (le_call (le_call (le_call (le_call D1.out D2.out) D3.out) D4.out) D5.out) D6.out) D7.out) D8.out) D9.out) D10.out) D11.out) D12.out) D13.out) D14.out) D15.out) D16.out) D17.out))
        have HX3 := hide (((((((((((((((((HX.out.below D1.out (Nat.le_refl _)).below D2.out (Nat.le_refl _)).below D3.out (Nat.le_refl _)).below D4.out (Nat.le_refl _)).below D5.out (Nat.le_refl _)).below D6.out (Nat.le_refl _)).below D7.out (Nat.le_refl _)).below D8.out (Nat.le_refl _)).below D9.out (Nat.le_refl _)).below D10.out (Nat.le_refl _)).below D11.out (Nat.le_refl _)).below D12.out (Nat.le_refl _)).below D13.out (Nat.le_refl _)).below D14.out (Nat.le_refl _)).below D15.out (Nat.le_refl _)).below D16.out (Nat.le_refl _)).below D17.out (Nat.le_refl _))
        have HY3 := hide (((((((((((((((((HY.out.below D1.out (Nat.le_refl _)).below D2.out (Nat.le_refl _)).below D3.out (Nat.le_refl _)).below D4.out (Nat.le_refl _)).below D5.out (Nat.le_refl _)).below D6.out (Nat.le_refl _)).below D7.out (Nat.le_refl _)).below D8.out (Nat.le_refl _)).below D9.out (Nat.le_refl _)).below D10.out (Nat.le_refl _)).below D11.out (Nat.le_refl _)).below D12.out (Nat.le_refl _)).below D13.out (Nat.le_refl _)).below D14.out (Nat.le_refl _)).below D15.out (Nat.le_refl _)).below D16.out (Nat.le_refl _)).below D17.out (Nat.le_refl _))
        have HZ3 := hide (((((((((((((((((HZ.out.below D1.out (Nat.le_refl _)).below D2.out (Nat.le_refl _)).below D3.out (Nat.le_refl _)).below D4.out (Nat.le_refl _)).below D5.out (Nat.le_refl _)).below D6.out (Nat.le_refl _)).below D7.out (Nat.le_refl _)).below D8.out (Nat.le_refl _)).below D9.out (Nat.le_refl _)).below D10.out (Nat.le_refl _)).below D11.out (Nat.le_refl _)).below D12.out (Nat.le_refl _)).below D13.out (Nat.le_refl _)).below D14.out (Nat.le_refl _)).below D15.out (Nat.le_refl _)).below D16.out (Nat.le_refl _)).below D17.out (Nat.le_refl _))
        have HBK3 := hide (HBK.out.keep HB3.out hbz)
        have hz3 : w.heap.size < w3.heap.size := Nat.lt_of_lt_of_le hbz HB3.out.size
        have TW := hide (le_call (le_call (le_call (le_call (le_call (le_call (le_call (le_call (le_call (le_call (le_call (le_call (le_call (le_call (le_call (le_call (le_call D0.out D1.out) D2.out) D3.out) D4.out) D5.out) D6.out) D7.out) D8.out) D9.out) D10.out) D11.out) D12.out) D13.out) D14.out) D15.out) D16.out) D17.out)
        have hyc : n' ≤ c' := by obtain ⟨_, _, hr⟩ := HY3.out; exact hr.cap
        have hmc : c' ≤ 9223372036854775807 := by obtain ⟨_, _, hr⟩ := HY3.out; exact hr.max
        clear D1 D2 D3 D4 D5 D6 D7 D8 D9 D10 D11 D12 D13 D14 D15 D16 D17 HX HY HZ HBK HB3
        clear z1 z2 z3 z4 z5 g1
        go_cut [8, 27] from 30 (fun a8 a27 wx => a27 = .int .i64 v ∧ a8 = .int .i64 0 ∧ Hid (Below w3.heap.size w3 wx))
        case first =>
          have BA := hide (show Below w3.heap.size w3 (w3.drew.alloc (.cells #[] 3)) from ((Below.refl w3.heap.size w3).drew).alloc (Nat.le_refl _) _)
          have HOA := hide (show Own E1 (w3.drew.alloc (.cells #[] 3)) w3.heap.size 3 (some ⟨w3.heap.size, 0, none⟩) 0 0 [] from Own.lit w3.drew [] (Nat.le_refl _) (by simp))
          have hsA : w3.heap.size ≤ (w3.drew.alloc (.cells #[] 3)).heap.size := BA.out.size
          have hz7 : a ≤ c' := by omega
          have hz8 : (a : Int) ≤ (c' : Int) := by omega
          clear z6 z7 z8 z9 g5 g6
          rcases Nat.eq_zero_or_pos t with h0 | h0
          · subst h0
            have HNI := hide (show (ys.drop a).take 0 = [] from List.take_zero)
            rw [HNI.out] at HDU HSUB
            have e0 : (a : Int) + ((0 : Nat) : Int) = (a : Int) := by omega
            have hz10 : (a : Int) - (a : Int) = 0 := by omega
            have hz11 : a - a = 0 := by omega
            rw [e0]
            cases A' with
            | none =>
              as_aux_lemma =>
                go_region_held_law (fun w' => w'.cell? ⟨w.heap.size, 0, none⟩ = some (.slice A n c) ∧ w'.cell? ⟨w.heap.size, 1, none⟩ = some (.slice none n' c') ∧ w'.cell? ⟨w.heap.size, 2, none⟩ = some (.int .i64 o) ∧ w'.cell? ⟨w.heap.size, 3, none⟩ = some (.int .i64 i) ∧ w'.cell? ⟨w.heap.size, 4, none⟩ = some (.int .i64 h))
                  (first
                    | exact two_cells HBK3.out B8.out hz3
                    | exact two_cells HBK3.out B7.out hz3
                    | exact two_cells HBK3.out BA.out hz3
                    | exact two_cells HBK3.out (Below.refl _ _).drew hz3
                    | go_keep)
                  (first
                    | (have hgd := B7; clear hgd; go_at_call 26; refine (Distance_any A n c xs _ 0 _ [] o i h w7 (HX3.out.below B7.out (Nat.le_refl _)) O7.out.row).mono ?_; rw [HDU.out, HSUB.out]; rintro e8 w8 ⟨rfl, b8⟩; have B8 := hide (show Below w3.heap.size w3 w8 from le_call B7.out b8); clear b8)
                    | (refine step_appG (E := E1) (w3.drew.alloc (.cells #[] 3)) (.int .i64 0) 8 rfl (.tmp 282) (.tmp 287) 22 3 rfl Try.underlying22 info_int rfl (by decide) (by omega) w3.heap.size 0 0 (some ⟨w3.heap.size, 0, none⟩) [] _ 0 _ [] rfl rfl HOA.out (R.none _ _ (by omega)) (by omega) (by omega) hsA ?_; intro A7 c7 w7 o7 b7 _ _; rw [Nat.zero_add] at o7 ⊢; have O7 := hide (show Own E1 w7 w3.heap.size 3 A7 0 c7 [] from o7); have B7 := hide (BA.out.trans b7); clear o7 b7))
                all_goals
                  go_wp2_with fail
                  go_meet
                  exact ⟨rfl, rfl, B8⟩
            | some ad =>
              by_cases hna : c' = a
              · subst hna
                have hca0 : c' - c' = 0 := by omega
                as_aux_lemma =>
                  go_region_held_law (fun w' => w'.cell? ⟨w.heap.size, 0, none⟩ = some (.slice A n c) ∧ w'.cell? ⟨w.heap.size, 1, none⟩ = some (.slice (some ad) n' c') ∧ w'.cell? ⟨w.heap.size, 2, none⟩ = some (.int .i64 o) ∧ w'.cell? ⟨w.heap.size, 3, none⟩ = some (.int .i64 i) ∧ w'.cell? ⟨w.heap.size, 4, none⟩ = some (.int .i64 h))
                    (first
                      | exact two_cells HBK3.out B8.out hz3
                      | exact two_cells HBK3.out B7.out hz3
                      | exact two_cells HBK3.out BA.out hz3
                      | exact two_cells HBK3.out (Below.refl _ _).drew hz3
                      | go_keep)
                    (first
                      | (have hgd := B7; clear hgd; go_at_call 26; refine (Distance_any A n c xs _ 0 _ [] o i h w7 (HX3.out.below B7.out (Nat.le_refl _)) O7.out.row).mono ?_; rw [HDU.out, HSUB.out]; rintro e8 w8 ⟨rfl, b8⟩; have B8 := hide (show Below w3.heap.size w3 w8 from le_call B7.out b8); clear b8)
                      | (refine step_appG (E := E1) (w3.drew.alloc (.cells #[] 3)) (.int .i64 0) 8 rfl (.tmp 282) (.tmp 287) 22 3 rfl Try.underlying22 info_int rfl (by decide) (by omega) w3.heap.size 0 0 (some ⟨w3.heap.size, 0, none⟩) [] _ 0 _ [] rfl rfl HOA.out (R.none _ _ (by omega)) (by omega) (by omega) hsA ?_; intro A7 c7 w7 o7 b7 _ _; rw [Nat.zero_add] at o7 ⊢; have O7 := hide (show Own E1 w7 w3.heap.size 3 A7 0 c7 [] from o7); have B7 := hide (BA.out.trans b7); clear o7 b7))
                  all_goals
                    go_wp2_with fail
                    go_meet
                    exact ⟨rfl, rfl, B8⟩
              · have hca1 : ¬ c' - a = 0 := by omega
                as_aux_lemma =>
                  go_region_held_law (fun w' => w'.cell? ⟨w.heap.size, 0, none⟩ = some (.slice A n c) ∧ w'.cell? ⟨w.heap.size, 1, none⟩ = some (.slice (some ad) n' c') ∧ w'.cell? ⟨w.heap.size, 2, none⟩ = some (.int .i64 o) ∧ w'.cell? ⟨w.heap.size, 3, none⟩ = some (.int .i64 i) ∧ w'.cell? ⟨w.heap.size, 4, none⟩ = some (.int .i64 h))
                    (first
                      | exact two_cells HBK3.out B8.out hz3
                      | exact two_cells HBK3.out B7.out hz3
                      | exact two_cells HBK3.out BA.out hz3
                      | exact two_cells HBK3.out (Below.refl _ _).drew hz3
                      | go_keep)
                    (first
                      | (have hgd := B7; clear hgd; go_at_call 26; refine (Distance_any A n c xs _ 0 _ [] o i h w7 (HX3.out.below B7.out (Nat.le_refl _)) O7.out.row).mono ?_; rw [HDU.out, HSUB.out]; rintro e8 w8 ⟨rfl, b8⟩; have B8 := hide (show Below w3.heap.size w3 w8 from le_call B7.out b8); clear b8)
                      | (refine step_appG (E := E1) (w3.drew.alloc (.cells #[] 3)) (.int .i64 0) 8 rfl (.tmp 282) (.tmp 287) 22 3 rfl Try.underlying22 info_int rfl (by decide) (by omega) w3.heap.size 0 0 (some ⟨w3.heap.size, 0, none⟩) [] _ 0 _ [] rfl rfl HOA.out (R.none _ _ (by omega)) (by omega) (by omega) hsA ?_; intro A7 c7 w7 o7 b7 _ _; rw [Nat.zero_add] at o7 ⊢; have O7 := hide (show Own E1 w7 w3.heap.size 3 A7 0 c7 [] from o7); have B7 := hide (BA.out.trans b7); clear o7 b7))
                  all_goals
                    go_wp2_with fail
                    go_meet
                    exact ⟨rfl, rfl, B8⟩
          · obtain ⟨by', oy, hry⟩ := HY3.out
            obtain rfl := hry.at_ (by omega)
            have HYR := hide (((hry.rest2 (t := a) (by omega)).front (t := t) (by omega)).below BA.out (Nat.le_refl _))
            have hna : ¬ c' = a := by omega
            have hz2' : a + t - a = t := by omega
            have hz5 : ¬ (a + t = a) := by omega
            have hz6 : a + t ≤ c' := by omega
            have hz10 : (a : Int) + (t : Int) - (a : Int) = (t : Int) := by omega
            have hz11 : (0 : Int) ≤ (t : Int) := by omega
            have hz12 : ((a : Int) + (t : Int)).toNat = a + t := by omega
            have hz13 : (a : Int) + (t : Int) ≤ (c' : Int) := by omega
            clear hry
            as_aux_lemma =>
              go_region_held_law (fun w' => w'.cell? ⟨w.heap.size, 0, none⟩ = some (.slice A n c) ∧ w'.cell? ⟨w.heap.size, 1, none⟩ = some (.slice (some ⟨by', oy, none⟩) n' c') ∧ w'.cell? ⟨w.heap.size, 2, none⟩ = some (.int .i64 o) ∧ w'.cell? ⟨w.heap.size, 3, none⟩ = some (.int .i64 i) ∧ w'.cell? ⟨w.heap.size, 4, none⟩ = some (.int .i64 h))
                (first
                  | exact two_cells HBK3.out B8.out hz3
                  | exact two_cells HBK3.out B7.out hz3
                  | exact two_cells HBK3.out BA.out hz3
                  | exact two_cells HBK3.out (Below.refl _ _).drew hz3
                  | go_keep)
                (first
                  | (have hgd := B7; clear hgd; go_at_call 26; refine (Distance_any A n c xs _ t _ ((ys.drop a).take t) o i h w7 (HX3.out.below B7.out (Nat.le_refl _)) O7.out.row).mono ?_; rw [HDU.out, HSUB.out]; rintro e8 w8 ⟨rfl, b8⟩; have B8 := hide (show Below w3.heap.size w3 w8 from le_call B7.out b8); clear b8)
                  | (refine step_appG (E := E1) (w3.drew.alloc (.cells #[] 3)) (.int .i64 0) 8 rfl (.tmp 282) (.tmp 287) 22 3 rfl Try.underlying22 info_int rfl (by decide) (by omega) w3.heap.size 0 0 (some ⟨w3.heap.size, 0, none⟩) [] _ t _ ((ys.drop a).take t) rfl rfl HOA.out HYR.out (by omega) (by omega) hsA ?_; intro A7 c7 w7 o7 b7 _ _; rw [Nat.zero_add] at o7 ⊢; have O7 := hide (show Own E1 w7 w3.heap.size 3 A7 t c7 ((ys.drop a).take t) from o7); have B7 := hide (BA.out.trans b7); clear o7 b7))
              all_goals
                go_wp2_with fail
                go_meet
                exact ⟨rfl, rfl, B8⟩
        case rest =>
        obtain ⟨rfl, rfl, HB⟩ := hcut
        obtain ⟨f0, f1, f2', f3', f4⟩ := two_cells HBK3.out HB.out hz3
        by_cases ep : errD xs zs ⟨o, i, h⟩ = 0
        · have HEP := hide ep
          by_cases eq : errD zs ys ⟨o, i, h⟩ = 0
          · have HEQ := hide eq
            obtain ⟨t1, t2, t3⟩ := HTRI.out ep eq
            clear ep eq
            have zq : IntKind.i64.wrap (distV xs zs ⟨o, i, h⟩ + distV zs ys ⟨o, i, h⟩) = distV xs zs ⟨o, i, h⟩ + distV zs ys ⟨o, i, h⟩ := IntWalk.i64_in _ (by omega)
            by_cases hoi : o = i
            · have hob : (o != i) = false := by simpa using hoi
              clear hoi
              as_aux_lemma =>
                go_wp2_with (first
                  | (have hgd := D9; clear hgd; go_at_call 26; refine (Distance_any Az nz cz zs A' n' c' ys o i h _ (HZ3.out.below D9.out (Nat.le_refl _)) (HY3.out.below D9.out (Nat.le_refl _))).mono ?_; rw [HEQ.out]; rintro e10 w10 ⟨rfl, b10⟩; have D10 := hide (le_call D9.out b10); clear b10; obtain ⟨f100, f101, f102, f103, f104⟩ := two_cells HBK3.out D10.out hz3)
                  | (go_at_call 26; refine (Distance_any A n c xs Az nz cz zs o i h _ (HX3.out.below HB.out (Nat.le_refl _)) (HZ3.out.below HB.out (Nat.le_refl _))).mono ?_; rw [HEP.out]; rintro e9 w9 ⟨rfl, b9⟩; have D9 := hide (le_call HB.out b9); clear b9; obtain ⟨f90, f91, f92, f93, f94⟩ := two_cells HBK3.out D9.out hz3))
                go_ret
                exact ⟨ret_bool (by simp <;> first | done | (rw [show wrap64 (distV xs zs ⟨o, i, h⟩ + distV zs ys ⟨o, i, h⟩) = distV xs zs ⟨o, i, h⟩ + distV zs ys ⟨o, i, h⟩ from zq]; exact t1)), le_call TW.out D10.out⟩
            · have hob : (o != i) = true := by simpa using hoi
              clear hoi
              as_aux_lemma =>
                go_wp2_with (first
                  | (have hgd := D9; clear hgd; go_at_call 26; refine (Distance_any Az nz cz zs A' n' c' ys o i h _ (HZ3.out.below D9.out (Nat.le_refl _)) (HY3.out.below D9.out (Nat.le_refl _))).mono ?_; rw [HEQ.out]; rintro e10 w10 ⟨rfl, b10⟩; have D10 := hide (le_call D9.out b10); clear b10; obtain ⟨f100, f101, f102, f103, f104⟩ := two_cells HBK3.out D10.out hz3)
                  | (go_at_call 26; refine (Distance_any A n c xs Az nz cz zs o i h _ (HX3.out.below HB.out (Nat.le_refl _)) (HZ3.out.below HB.out (Nat.le_refl _))).mono ?_; rw [HEP.out]; rintro e9 w9 ⟨rfl, b9⟩; have D9 := hide (le_call HB.out b9); clear b9; obtain ⟨f90, f91, f92, f93, f94⟩ := two_cells HBK3.out D9.out hz3))
                go_ret
                exact ⟨ret_bool (by simp <;> first | done | (rw [show wrap64 (distV xs zs ⟨o, i, h⟩ + distV zs ys ⟨o, i, h⟩) = distV xs zs ⟨o, i, h⟩ + distV zs ys ⟨o, i, h⟩ from zq]; exact t1)), le_call TW.out D10.out⟩
          · have hqb : (errD zs ys ⟨o, i, h⟩ != 0) = true := by simpa using eq
            clear ep eq
            as_aux_lemma =>
              go_wp2_with (first
                | (have hgd := D9; clear hgd; go_at_call 26; refine (Distance_any Az nz cz zs A' n' c' ys o i h _ (HZ3.out.below D9.out (Nat.le_refl _)) (HY3.out.below D9.out (Nat.le_refl _))).mono ?_; rintro e10 w10 ⟨rfl, b10⟩; have D10 := hide (le_call D9.out b10); clear b10; obtain ⟨f100, f101, f102, f103, f104⟩ := two_cells HBK3.out D10.out hz3)
                | (go_at_call 26; refine (Distance_any A n c xs Az nz cz zs o i h _ (HX3.out.below HB.out (Nat.le_refl _)) (HZ3.out.below HB.out (Nat.le_refl _))).mono ?_; rw [HEP.out]; rintro e9 w9 ⟨rfl, b9⟩; have D9 := hide (le_call HB.out b9); clear b9; obtain ⟨f90, f91, f92, f93, f94⟩ := two_cells HBK3.out D9.out hz3))
              go_ret
              exact ⟨ret_bool (by simp), le_call TW.out D10.out⟩
        · have hpb : (errD xs zs ⟨o, i, h⟩ != 0) = true := by simpa using ep
          clear ep
          as_aux_lemma =>
            go_wp2_with (first
              | (have hgd := D9; clear hgd; go_at_call 26; refine (Distance_any Az nz cz zs A' n' c' ys o i h _ (HZ3.out.below D9.out (Nat.le_refl _)) (HY3.out.below D9.out (Nat.le_refl _))).mono ?_; rintro e10 w10 ⟨rfl, b10⟩; have D10 := hide (le_call D9.out b10); clear b10; obtain ⟨f100, f101, f102, f103, f104⟩ := two_cells HBK3.out D10.out hz3)
              | (go_at_call 26; refine (Distance_any A n c xs Az nz cz zs o i h _ (HX3.out.below HB.out (Nat.le_refl _)) (HZ3.out.below HB.out (Nat.le_refl _))).mono ?_; rintro e9 w9 ⟨rfl, b9⟩; have D9 := hide (le_call HB.out b9); clear b9; obtain ⟨f90, f91, f92, f93, f94⟩ := two_cells HBK3.out D9.out hz3))
            go_ret
            exact ⟨ret_bool (by simp), le_call TW.out D10.out⟩
      · have hdb : (errD xs ys ⟨o, i, h⟩ != 0) = true := by simpa using he
        clear he
        as_aux_lemma =>
          go_enter Try.func17, Try.ntmps17
          go_wp2_with (first
            | (have hgd := D2; clear hgd; go_at_call 26; refine (Distance_any A n c xs A' n' c' ys o i h _ ((HX.out.below D1.out (Nat.le_refl _)).below D2.out (Nat.le_refl _)) ((HY.out.below D1.out (Nat.le_refl _)).below D2.out (Nat.le_refl _))).mono ?_; rintro e3 w3 ⟨rfl, b3⟩; have D3 := hide b3; clear b3; obtain ⟨f30, f31, f32, f33, f34⟩ := two_cells HBK.out (show Below _ _ w3 from (le_call (le_call D1.out D2.out) D3.out)) hbz)
            | (have hgd := D1; clear hgd; go_at_call 18; refine (Long_any A n c A' n' c' o i h _ hle hle').mono ?_; rintro e2 w2 ⟨rfl, b2⟩; rw [HLG.out]; have D2 := hide b2; clear b2; obtain ⟨f20, f21, f22, f23, f24⟩ := two_cells HBK.out (show Below _ _ w2 from (le_call D1.out D2.out)) hbz)
            | (go_at_call 37; refine (Common_any _ 3 3 [1, 2, 3] _ 3 3 [3, 1, 3] _ H1.out H2.out).mono ?_; rw [show comV [1, 2, 3] [3, 1, 3] = 2 from KN1.out, show errB [1, 2, 3] [3, 1, 3] = 0 from KN2.out]; rintro e1 w1 ⟨rfl, b1⟩; have D1 := hide b1; clear b1; obtain ⟨f10, f11, f12, f13, f14⟩ := two_cells HBK.out (show Below _ _ w1 from D1.out) hbz))
          go_ret
          exact ⟨ret_bool (by simp), (le_call (le_call (le_call D0.out D1.out) D2.out) D3.out)⟩
end Go.Proofs.Ytndfdminjegldaa
