/- Walks of CheckPrices (program), and of what the statements ask of the document's example. -/
import Derived.Test.YtjhnfcmijijdcaaWalkQ
namespace Go.Proofs.Ytjhnfcmijijdcaa
open Go.RowKit

def errV (K h : Int) (cs ds vs : List Int) : Int := if OkT K h cs ds ∧ AllOk vs ds.length 100000 then (if (tk K h cs ds).Holds (pl vs) ds.length then 0 else 7) else 1
theorem errV_task {K h : Int} {cs ds vs : List Int} (o : ¬ OkT K h cs ds) : errV K h cs ds vs = 1 := by unfold errV; rw [if_neg (fun x => o x.1)]
theorem errV_arg {K h : Int} {cs ds vs : List Int} (o : ¬ AllOk vs ds.length 100000) : errV K h cs ds vs = 1 := by unfold errV; rw [if_neg (fun x => o x.2)]
theorem errV_proof {K h : Int} {cs ds vs : List Int} (o : OkT K h cs ds) (a : AllOk vs ds.length 100000) (r : ¬ (tk K h cs ds).Holds (pl vs) ds.length) : errV K h cs ds vs = 7 := by
  unfold errV; rw [if_pos ⟨o, a⟩, if_neg r]
theorem errV_ok {K h : Int} {cs ds vs : List Int} (o : OkT K h cs ds) (a : AllOk vs ds.length 100000) (r : (tk K h cs ds).Holds (pl vs) ds.length) : errV K h cs ds vs = 0 := by
  unfold errV; rw [if_pos ⟨o, a⟩, if_pos r]
theorem errV_zero {K h : Int} {cs ds vs : List Int} (e : errV K h cs ds vs = 0) : OkT K h cs ds ∧ AllOk vs ds.length 100000 ∧ (tk K h cs ds).Holds (pl vs) ds.length := by
  unfold errV at e
  split at e
  · rename_i h
    split at e
    · exact ⟨h.1, h.2, by assumption⟩
    · contradiction
  · contradiction
theorem AllOk.price {vs : List Int} {n : Nat} (h : AllOk vs n 100000) : PriceIn (pl vs) n := fun i hi => h.2 i (by have := h.1; omega)
theorem PriceIn.sum {v : Nat → Int} {n : Nat} (h : PriceIn v n) {k : Nat} (hk : k ≤ n) : 0 ≤ sm v 0 k ∧ sm v 0 k ≤ (k : Int) * 100000 :=
  ⟨sm_nonneg fun i _ hi => (h i (by omega)).1, sm_bound (by omega) fun i _ hi => (h i (by omega)).2⟩

set_option maxHeartbeats 4000000 in
theorem CheckPrices_any (K h : Int) (A : Option Addr) (n c : Nat) (cs : List Int) (A' : Option Addr) (n' c' : Nat) (ds : List Int) (P : Option Addr) (np pc : Nat) (vs : List Int) (w : World)
    (hT : Tin w A n c cs A' n' c' ds) (hP : Row w P np pc vs) :
    Calls Try.prog 36 #[.agg #[.int .i64 K, .int .i64 h, .slice A n c, .slice A' n' c'], .slice P np pc] w
      (NumPost (okv (errV K h cs ds vs) (sm (pl vs) 0 ds.length)) (errV K h cs ds vs) w) := by
  have HT := hide hT
  have HPr := hide hP
  have L1 := hT.1.length
  have L2 := hT.2.length
  have L3 := hP.length
  have B0 := hide ((Below.refl w.heap.size w).alloc (Nat.le_refl _) (.cells #[.int .i64 K, .int .i64 h, .slice A n c, .slice A' n' c'] 24))
  have K0 := hide (Bk.born w 24 #[.int .i64 K, .int .i64 h, .slice A n c, .slice A' n' c'])
  clear hT hP
  by_cases o : OkT K h cs ds
  case neg =>
    have HV := hide (errV_task (vs := vs) o)
    have HE := hide (errT_no o)
    clear o
    go_enter Try.func36, Try.ntmps36
    go_wp2_with fail
    refine (Validate_any K h _ n c cs _ n' c' ds _ (HT.out.alloc _)).mono ?_
    rw [HE.out]
    rintro e w1 ⟨rfl, b1⟩
    go_wp2_with fail
    go_ret2
    exact ⟨ret2_ii (by rw [HV.out]; rfl) HV.out.symm, B0.out.trans (b1.mono (by simp))⟩
  have hn1 : 1 ≤ n' := by have := o.n1; omega
  have hn2 : n' ≤ 12 := by have := o.n2; omega
  have hcn : cs.length = ds.length := by have := o.c.1; omega
  obtain rfl : n = n' := by omega
  have HE := hide (errT_ok o)
  have HN := hide L2
  by_cases a : AllOk vs ds.length 100000
  case neg =>
    have HV := hide (errV_arg (K := K) (h := h) (cs := cs) a)
    have ha := allB_false a
    rw [L2] at ha
    clear o a L1 L2 L3 hcn
    go_enter Try.func36, Try.ntmps36
    go_wp2_with fail
    refine (Validate_any K h _ n c cs _ n c' ds _ (HT.out.alloc _)).mono ?_
    rw [HE.out]
    rintro e w1 ⟨rfl, b1⟩
    have B1 := hide (B0.out.trans (b1.mono (by simp)))
    have K1 := hide (K0.out.keep b1 (by simp))
    obtain ⟨k0, k1, k2, k3, _⟩ := K1.out.four
    clear b1
    go_wp2_with fail
    refine (isForEach_any n _ np pc vs 100000 _ (HPr.out.below B1.out (Nat.le_refl _)) (by omega) (by omega)).mono ?_
    rw [ha]
    rintro e w2 ⟨rfl, rfl⟩
    go_wp2_with fail
    go_ret2
    exact ⟨ret2_ii (by rw [HV.out]; rfl) HV.out.symm, B1.out⟩
  have ha := allB_true a
  rw [L2] at ha
  obtain rfl : np = n := by have := a.1; omega
  have OK := hide (by have := o.tk; rw [L2] at this; exact this)
  have HPl := hide (by have := a.price; rw [L2] at this; exact this)
  have HF := hide (fun (f : (tk K h cs ds).Holds (pl vs) np) => errV_ok o a (by rw [L2]; exact f))
  have HFn := hide (fun (f : ¬ (tk K h cs ds).Holds (pl vs) np) => errV_proof o a (by rw [L2]; exact f))
  clear o a L1 L2 L3 hcn
  go_enter Try.func36, Try.ntmps36
  go_wp2_with fail
  refine (Validate_any K h _ np c cs _ np c' ds _ (HT.out.alloc _)).mono ?_
  rw [HE.out]
  rintro e w1 ⟨rfl, b1⟩
  have B1 := hide (B0.out.trans (b1.mono (by simp)))
  have K1 := hide (K0.out.keep b1 (by simp))
  obtain ⟨k0, k1, k2, k3, _⟩ := K1.out.four
  clear b1
  go_wp2_with fail
  refine (isForEach_any np _ np pc vs 100000 _ (HPr.out.below B1.out (Nat.le_refl _)) (by omega) (by omega)).mono ?_
  rw [ha]
  rintro e w2 ⟨rfl, rfl⟩
  go_wp2_with fail
  refine (hold_any K h _ np c cs _ c' ds _ pc vs _ (HT.out.below B1.out (Nat.le_refl _)) (HPr.out.below B1.out (Nat.le_refl _)) OK.out HPl.out hn1 hn2).mono ?_
  rintro e w2 ⟨rfl, b2⟩
  have B2 := hide (B1.out.trans (b2.mono B1.out.size))
  clear k0 k1 k2 k3 b2
  by_cases f : (tk K h cs ds).Holds (pl vs) np
  case neg =>
    rw [decide_eq_false f]
    have HV := hide (HFn.out f)
    clear f
    go_wp2_with fail
    go_ret2
    exact ⟨ret2_ii (by rw [HV.out]; rfl) HV.out.symm, B2.out⟩
  rw [decide_eq_true f]
  have HV := hide (HF.out f)
  clear f
  have RP := hide (HPr.out.below B2.out (Nat.le_refl _))
  obtain ⟨bp, offp, rp⟩ := RP.out
  obtain rfl := rp.at_ (by omega)
  have RPA := hide rp
  clear rp
  go_wp2_with fail
  go_loop [7, 27] (fun s i => ∃ k : Nat, k ≤ np ∧ i = .int .i64 k ∧ s = .int .i64 (sm (pl vs) 0 k)) (fun _ i => np - (intOf i).toNat)
  case atStart => exact ⟨0, by omega, rfl, rfl⟩
  case round =>
    obtain ⟨k, hk, rfl, rfl⟩ := hrel
    have s0 := HPl.out.sum hk
    by_cases hlt : k < np
    · have cp := RPA.out.cell k hlt
      rw [show vs.getD k 0 = pl vs k from rfl] at cp
      have p0 := HPl.out k hlt
      have HS := hide (sm_succ (f := pl vs) (s := 0) (n := k) (Nat.zero_le _))
      generalize sm (pl vs) 0 k = u at *
      generalize pl vs k = z at *
      go_wp2_with fail
      go_round
      case rel => exact ⟨k + 1, by omega, by go_num, by rw [HS.out]⟩
      case measure => simp [intOf]; omega
    · obtain rfl : k = np := by omega
      go_wp2_with fail
      go_ret2
      exact ⟨ret2_ii (by rw [okv_zero HV.out]; (try rw [HN.out])) HV.out.symm, B2.out⟩

/-- The example of the document. -/
def ExPost (w : World) (e : Ending) (w' : World) : Prop :=
  ∃ A A', e = .returned (.agg #[.int .i64 10, .int .i64 1, .slice A 2 2, .slice A' 2 2]) ∧ Tin w' A 2 2 [0, 0] A' 2 2 [5, 5] ∧ Below w.heap.size w w'
set_option maxHeartbeats 4000000 in
theorem example_any (w : World) : Calls Try.prog 55 #[] w (ExPost w) := by
  go_enter Try.func55, Try.ntmps55
  go_wp2_with fail
  have KX := ((Bk.born w 24 #[.int .i64 10, .int .i64 1, .slice (some ⟨w.heap.size + 1, 0, none⟩) 2 2, .slice (some ⟨w.heap.size + 1 + 1, 0, none⟩) 2 2]).more (.cells #[.int .i64 0, .int .i64 0] 3)).more (.cells #[.int .i64 5, .int .i64 5] 3)
  obtain ⟨k0, k1, k2, k3, _⟩ := KX.four
  refine bodyPost_ret (v := .agg #[.int .i64 10, .int .i64 1, .slice (some ⟨w.heap.size + 1, 0, none⟩) 2 2, .slice (some ⟨w.heap.size + 1 + 1, 0, none⟩) 2 2]) (by simp [results, Try.results55, go_sem, k0, k1, k2, k3]) rfl ⟨_, _, rfl, ⟨?_, ?_⟩, ?_⟩
  · have O := Own.litAt (B := 0) (w.alloc (.cells #[.int .i64 10, .int .i64 1, .slice (some ⟨w.heap.size + 1, 0, none⟩) 2 2, .slice (some ⟨w.heap.size + 1 + 1, 0, none⟩) 2 2] 24)) [0, 0] (w.heap.size + 1) (by simp) (Nat.zero_le _) (by simp [maxLen])
    exact O.row.alloc _
  · have O := Own.litAt (B := 0) ((w.alloc (.cells #[.int .i64 10, .int .i64 1, .slice (some ⟨w.heap.size + 1, 0, none⟩) 2 2, .slice (some ⟨w.heap.size + 1 + 1, 0, none⟩) 2 2] 24)).alloc (.cells #[.int .i64 0, .int .i64 0] 3)) [5, 5] (w.heap.size + 1 + 1) (by simp) (Nat.zero_le _) (by simp [maxLen])
    exact O.row
  · exact (((Below.refl w.heap.size w).alloc (Nat.le_refl _) _).alloc (by simp) _).alloc (by simp; omega) _

theorem ex_ok : OkT 10 1 [0, 0] [5, 5] := by decide
theorem ex_f : (tk 10 1 [0, 0] [5, 5]).f 2 = 15 := by
  have f1 : (tk 10 1 [0, 0] [5, 5]).f 1 = 10 := by
    unfold Tk.f
    rw [Tk.F_eq]
    simp [firstMin, Tk.G, Tk.F_zero, Tk.tog, Tk.units, Tk.save, Tk.way, sm, tk]
  have e0 : (tk 10 1 [0, 0] [5, 5]).G 2 0 = 15 := by
    simp [Tk.G, Tk.F_zero, Tk.tog, Tk.units, Tk.save, Tk.way, sm, tk]
  have e1 : (tk 10 1 [0, 0] [5, 5]).G 2 1 = 20 := by
    show (tk 10 1 [0, 0] [5, 5]).f 1 + _ = 20
    rw [f1]
    simp [Tk.tog, Tk.units, Tk.save, Tk.way, sm, tk]
  unfold Tk.f
  rw [Tk.F_eq]
  simp [firstMin, e0, e1]
theorem ex_v : errV 10 1 [0, 0] [5, 5] [5, 10] = 0 := errV_ok ex_ok (by decide) (by decide)

set_option maxHeartbeats 4000000 in
theorem known_any (w : World) : Calls Try.prog 19 #[] w fun e w' => e = .returned (.bool true) ∧ Below w.heap.size w w' := by
  go_enter Try.func19, Try.ntmps19
  go_wp2_with fail
  refine (example_any _).mono ?_
  rintro e w1 ⟨A1, A1', rfl, t1, b1⟩
  have B1 := hide b1
  have z1 := b1.size
  go_wp2_with fail
  refine (Least_any 10 1 _ 2 2 [0, 0] _ 2 2 [5, 5] _ t1).mono ?_
  rw [errT_ok ex_ok, show [(5 : Int), 5].length = 2 from rfl, ex_f, okv_zero rfl]
  rintro e w2 ⟨rfl, b2⟩
  have B2 := hide (B1.out.trans (b2.mono z1))
  clear b1 b2 t1 B1
  go_wp2_with fail
  refine (example_any _).mono ?_
  rintro e w3 ⟨A3, A3', rfl, t3, b3⟩
  have B3 := hide (B2.out.trans (b3.mono B2.out.size))
  have z3 := B3.out.size
  have T3 := hide t3
  clear b3 t3 B2 z1
  go_wp2_with fail
  refine (CheckPrices_any 10 1 _ 2 2 [0, 0] _ 2 2 [5, 5] _ 2 2 [5, 10] _ (T3.out.alloc _) (Own.litAt (B := 0) w3 [5, 10] w3.heap.size rfl (Nat.zero_le _) (by simp [maxLen])).row).mono ?_
  rw [ex_v, okv_zero rfl, show sm (pl [5, 10]) 0 [(5 : Int), 5].length = 15 from by decide]
  rintro e w4 ⟨rfl, b4⟩
  go_wp2_with fail
  go_ret
  exact ⟨rfl, (B3.out.alloc z3 _).trans (b4.mono (by simp; omega))⟩

end Go.Proofs.Ytjhnfcmijijdcaa
