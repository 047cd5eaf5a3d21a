/- Walks of CheckBest on both sides, and of AirProves. -/
import Derived.Test.YtjhnfcmijijdcaaWalkV
namespace Go.Proofs.Ytjhnfcmijijdcaa
open Go.RowKit

def errB (K h : Int) (cs ds ps vs : List Int) : Int :=
  if errP K h cs ds ps = 0 then (if errV K h cs ds vs = 0 then (if (tk K h cs ds).cost (pl ps) ds.length = sm (pl vs) 0 ds.length then 0 else 7) else errV K h cs ds vs) else errP K h cs ds ps
section
variable {K h : Int} {cs ds ps vs : List Int}
theorem errB_plan (h1 : ¬ errP K h cs ds ps = 0) : errB K h cs ds ps vs = errP K h cs ds ps := by unfold errB; rw [if_neg h1]
theorem errB_price (h1 : errP K h cs ds ps = 0) (h2 : ¬ errV K h cs ds vs = 0) : errB K h cs ds ps vs = errV K h cs ds vs := by unfold errB; rw [if_pos h1, if_neg h2]
theorem errB_ok (h1 : errP K h cs ds ps = 0) (h2 : errV K h cs ds vs = 0) (h3 : (tk K h cs ds).cost (pl ps) ds.length = sm (pl vs) 0 ds.length) : errB K h cs ds ps vs = 0 := by
  unfold errB; rw [if_pos h1, if_pos h2, if_pos h3]
theorem errB_no (h1 : errP K h cs ds ps = 0) (h2 : errV K h cs ds vs = 0) (h3 : ¬ (tk K h cs ds).cost (pl ps) ds.length = sm (pl vs) 0 ds.length) : errB K h cs ds ps vs = 7 := by
  unfold errB; rw [if_pos h1, if_pos h2, if_neg h3]
end
theorem stk_congr {t : Tk} {p p' : Nat → Int} {n : Nat} (h : ∀ i, i < n → p i = p' i) {i : Nat} (hi : i ≤ n) : t.stk p i = t.stk p' i := by
  unfold Tk.stk
  exact sm_congr fun j _ hj => by rw [h j (by omega)]
theorem cost_congr {t : Tk} {p p' : Nat → Int} {n : Nat} (h : ∀ i, i < n → p i = p' i) : t.cost p n = t.cost p' n := by
  have e1 : t.begs p n = t.begs p' n := sm_congr fun i _ hi => by rw [h i hi]
  have e2 : t.runs p n = t.runs p' n := sm_congr fun i _ hi => by rw [h i hi, stk_congr h (i := i + 1) (by omega)]
  unfold Tk.cost
  rw [e1, e2]
theorem best_ok {K h : Int} {cs ds : List Int} (o : OkT K h cs ds) : errP K h cs ds ((tk K h cs ds).bL ds.length) = 0 ∧ (tk K h cs ds).cost (pl ((tk K h cs ds).bL ds.length)) ds.length = (tk K h cs ds).f ds.length ∧
    (tk K h cs ds).Tidy (pl ((tk K h cs ds).bL ds.length)) ds.length := by
  have e : ∀ i, i < ds.length → (tk K h cs ds).bp ds.length i = pl ((tk K h cs ds).bL ds.length) i := fun i hi => ((tk K h cs ds).bL_get hi).symm
  have r := o.tk.bp_right o.n2
  have g := o.tk.good (Nat.le_refl _)
  refine ⟨errP_ok o ⟨by rw [Tk.bL_len], fun j hj => ?_⟩ ⟨fun i hi => ?_, ?_⟩, ?_, fun i hi => ?_⟩
  · rw [Tk.bL_len] at hj
    rw [Tk.bL_get _ hj]
    exact r.in_ j hj
  · rw [← stk_congr e (i := i + 1) (by omega)]; exact r.stk i hi
  · rw [← stk_congr e (Nat.le_refl _)]; exact r.last
  · rw [← cost_congr e]; exact g.cost
  · rw [← e i hi, ← stk_congr e (Nat.le_of_lt hi)]; exact g.tidy i hi
theorem proves_ok {K h : Int} {cs ds : List Int} (o : OkT K h cs ds) : errB K h cs ds ((tk K h cs ds).bL ds.length) ((tk K h cs ds).pL ds.length) = 0 := by
  obtain ⟨b1, b2, _⟩ := best_ok o
  obtain ⟨p1, p2⟩ := prices_ok o
  exact errB_ok b1 p1 (by rw [b2, p2])

set_option maxHeartbeats 4000000 in
theorem CheckBest_any (K h : Int) (A : Option Addr) (n c : Nat) (cs : List Int) (A' : Option Addr) (n' c' : Nat) (ds : List Int) (P : Option Addr) (np pc : Nat) (ps : List Int) (V : Option Addr) (nv vc : Nat) (vs : List Int) (w : World)
    (hT : Tin w A n c cs A' n' c' ds) (hP : Row w P np pc ps) (hV : Row w V nv vc vs) :
    Calls Try.prog 41 #[.agg #[.int .i64 K, .int .i64 h, .slice A n c, .slice A' n' c'], .slice P np pc, .slice V nv vc] w fun e w' => e = .returned (.int .i64 (errB K h cs ds ps vs)) ∧ Below w.heap.size w w' := by
  have HT := hide hT
  have HPr := hide hP
  have HVr := hide hV
  have B0 := hide ((Below.refl w.heap.size w).alloc (Nat.le_refl _) (.cells #[.int .i64 K, .int .i64 h, .slice A n c, .slice A' n' c'] 24))
  have K0 := hide (Bk.born w 24 #[.int .i64 K, .int .i64 h, .slice A n c, .slice A' n' c'])
  have L1 := hT.1.length
  have L2 := hT.2.length
  have L3 := hP.length
  clear hT hP hV
  by_cases h1 : errP K h cs ds ps = 0
  case neg =>
    have HV := hide (errB_plan (vs := vs) h1)
    have h1' : (errP K h cs ds ps != 0) = true := by simpa using h1
    clear h1 L1 L2 L3
    go_enter Try.func41, Try.ntmps41
    go_wp2_with fail
    refine (validatePlan_any K h _ n c cs _ n' c' ds _ np pc ps _ (HT.out.alloc _) (HPr.out.alloc _)).mono ?_
    rintro e w1 ⟨rfl, b1⟩
    go_wp2_with fail
    go_ret
    exact ⟨ret_i64 HV.out.symm, B0.out.trans (b1.mono (by simp))⟩
  obtain ⟨o, a, f⟩ := errP_zero h1
  have hn1 : 1 ≤ n' := by have := o.n1; omega
  have hn2 : n' ≤ 12 := by have := o.n2; omega
  have OK := hide (by have := o.tk; rw [L2] at this; exact this)
  have HPl := hide (by have := a.plan; rw [L2] at this; exact this)
  obtain rfl : n = n' := by have := o.c.1; omega
  obtain rfl : np = n := by have := a.1; omega
  have HP1 := hide h1
  have HN := hide L2
  clear o a f L1 L3
  go_enter Try.func41, Try.ntmps41
  go_wp2_with fail
  refine (validatePlan_any K h _ np c cs _ np c' ds _ np pc ps _ (HT.out.alloc _) (HPr.out.alloc _)).mono ?_
  rw [HP1.out]
  rintro e w1 ⟨rfl, b1⟩
  have B1 := hide (B0.out.trans (b1.mono (by simp)))
  have K1 := hide (K0.out.keep b1 (by simp))
  obtain ⟨k0, k1, k2, k3, _⟩ := K1.out.four
  clear b1
  go_wp2_with fail
  refine (CheckPrices_any K h _ np c cs _ np c' ds _ nv vc vs _ (HT.out.below B1.out (Nat.le_refl _)) (HVr.out.below B1.out (Nat.le_refl _))).mono ?_
  by_cases h2 : errV K h cs ds vs = 0
  case neg =>
    have HV := hide (errB_price h1 h2)
    have h2' : (errV K h cs ds vs != 0) = true := by simpa using h2
    clear h1 h2
    rintro e w2 ⟨rfl, b2⟩
    go_wp2_with fail
    go_ret
    exact ⟨ret_i64 HV.out.symm, B1.out.trans (b2.mono B1.out.size)⟩
  rw [h2, okv_zero rfl]
  rintro e w2 ⟨rfl, b2⟩
  have B2 := hide (B1.out.trans (b2.mono B1.out.size))
  have K2 := hide (K1.out.keep b2 K1.out.in_)
  clear b2 k0 k1 k2 k3
  obtain ⟨k0, k1, k2, k3, _⟩ := K2.out.four
  have HY := hide (fun e => errB_ok (K := K) (h := h) (cs := cs) (ds := ds) (ps := ps) (vs := vs) h1 h2 e)
  have HNo := hide (fun e => errB_no (K := K) (h := h) (cs := cs) (ds := ds) (ps := ps) (vs := vs) h1 h2 e)
  clear h1 h2
  rw [HN.out] at *
  go_wp2_with fail
  refine (cost_any K h _ np c cs _ c' ds _ pc ps _ (HT.out.below B2.out (Nat.le_refl _)) (HPr.out.below B2.out (Nat.le_refl _)) OK.out HPl.out hn1 hn2).mono ?_
  rintro e w3 ⟨rfl, b3⟩
  have B3 := hide (B2.out.trans (b3.mono B2.out.size))
  generalize (tk K h cs ds).cost (pl ps) np = x at *
  generalize sm (pl vs) 0 np = y at *
  by_cases hxy : x = y
  · have HV := hide (HY.out hxy)
    subst hxy
    go_wp2_with fail
    go_ret
    exact ⟨ret_i64 HV.out.symm, B3.out⟩
  · have HV := hide (HNo.out hxy)
    have hne : (x != y) = true := by simpa using hxy
    go_wp2_with fail
    go_ret
    exact ⟨ret_i64 HV.out.symm, B3.out⟩

set_option maxHeartbeats 4000000 in
theorem rCheckBest_any (K h : Int) (A : Option Addr) (n c : Nat) (cs : List Int) (A' : Option Addr) (n' c' : Nat) (ds : List Int) (P : Option Addr) (np pc : Nat) (ps : List Int) (V : Option Addr) (nv vc : Nat) (vs : List Int) (w : World)
    (hT : Tin w A n c cs A' n' c' ds) (hP : Row w P np pc ps) (hV : Row w V nv vc vs) :
    Calls Try.prog 42 #[.agg #[.int .i64 K, .int .i64 h, .slice A n c, .slice A' n' c'], .slice P np pc, .slice V nv vc] w fun e w' => e = .returned (.int .i64 (errB K h cs ds ps vs)) ∧ Below w.heap.size w w' := by
  have HT := hide hT
  have HPr := hide hP
  have HVr := hide hV
  have B0 := hide ((Below.refl w.heap.size w).alloc (Nat.le_refl _) (.cells #[.int .i64 K, .int .i64 h, .slice A n c, .slice A' n' c'] 24))
  have K0 := hide (Bk.born w 24 #[.int .i64 K, .int .i64 h, .slice A n c, .slice A' n' c'])
  have L1 := hT.1.length
  have L2 := hT.2.length
  have L3 := hP.length
  clear hT hP hV
  by_cases h1 : errP K h cs ds ps = 0
  case neg =>
    have HV := hide (errB_plan (vs := vs) h1)
    have h1' : (errP K h cs ds ps != 0) = true := by simpa using h1
    clear h1 L1 L2 L3
    go_enter Try.func42, Try.ntmps42
    go_wp2_with fail
    refine (rCheckPlan_any K h _ n c cs _ n' c' ds _ np pc ps _ (HT.out.alloc _) (HPr.out.alloc _)).mono ?_
    rintro e w1 ⟨rfl, b1⟩
    go_wp2_with fail
    go_ret
    exact ⟨ret_i64 HV.out.symm, B0.out.trans (b1.mono (by simp))⟩
  obtain ⟨o, a, f⟩ := errP_zero h1
  have hn1 : 1 ≤ n' := by have := o.n1; omega
  have hn2 : n' ≤ 12 := by have := o.n2; omega
  have OK := hide (by have := o.tk; rw [L2] at this; exact this)
  have HPl := hide (by have := a.plan; rw [L2] at this; exact this)
  obtain rfl : n = n' := by have := o.c.1; omega
  obtain rfl : np = n := by have := a.1; omega
  have HP1 := hide h1
  have HN := hide L2
  clear o a f L1 L3
  go_enter Try.func42, Try.ntmps42
  go_wp2_with fail
  refine (rCheckPlan_any K h _ np c cs _ np c' ds _ np pc ps _ (HT.out.alloc _) (HPr.out.alloc _)).mono ?_
  rw [HP1.out, okv_zero rfl]
  rintro e w1 ⟨rfl, b1⟩
  have B1 := hide (B0.out.trans (b1.mono (by simp)))
  have K1 := hide (K0.out.keep b1 (by simp))
  obtain ⟨k0, k1, k2, k3, _⟩ := K1.out.four
  clear b1
  go_wp2_with fail
  refine (rCheckPrices_any K h _ np c cs _ np c' ds _ nv vc vs _ (HT.out.below B1.out (Nat.le_refl _)) (HVr.out.below B1.out (Nat.le_refl _))).mono ?_
  by_cases h2 : errV K h cs ds vs = 0
  case neg =>
    have HV := hide (errB_price h1 h2)
    have h2' : (errV K h cs ds vs != 0) = true := by simpa using h2
    clear h1 h2
    rintro e w2 ⟨rfl, b2⟩
    go_wp2_with fail
    go_ret
    exact ⟨ret_i64 HV.out.symm, B1.out.trans (b2.mono B1.out.size)⟩
  rw [h2, okv_zero rfl]
  rintro e w2 ⟨rfl, b2⟩
  have B2 := hide (B1.out.trans (b2.mono B1.out.size))
  have K2 := hide (K1.out.keep b2 K1.out.in_)
  clear b2 k0 k1 k2 k3
  obtain ⟨k0, k1, k2, k3, _⟩ := K2.out.four
  have HY := hide (fun e => errB_ok (K := K) (h := h) (cs := cs) (ds := ds) (ps := ps) (vs := vs) h1 h2 e)
  have HNo := hide (fun e => errB_no (K := K) (h := h) (cs := cs) (ds := ds) (ps := ps) (vs := vs) h1 h2 e)
  clear h1 h2
  rw [HN.out] at *
  have B3 := hide B2.out
  generalize (tk K h cs ds).cost (pl ps) np = x at *
  generalize sm (pl vs) 0 np = y at *
  by_cases hxy : x = y
  · have HV := hide (HY.out hxy)
    subst hxy
    go_wp2_with fail
    go_ret
    exact ⟨ret_i64 HV.out.symm, B3.out⟩
  · have HV := hide (HNo.out hxy)
    have hne : (x != y) = true := by simpa using hxy
    go_wp2_with fail
    go_ret
    exact ⟨ret_i64 HV.out.symm, B3.out⟩

set_option maxHeartbeats 4000000 in
theorem AirProves_walk (K h : Int) (A : Option Addr) (n c : Nat) (cs : List Int) (A' : Option Addr) (n' c' : Nat) (ds : List Int) (P : Option Addr) (np pc : Nat) (ps : List Int) (V : Option Addr) (nv vc : Nat) (vs : List Int) (w : World)
    (hT : Tin w A n c cs A' n' c' ds) (hP : Row w P np pc ps) (hV : Row w V nv vc vs) :
    Calls Try.prog 10 #[.agg #[.int .i64 K, .int .i64 h, .slice A n c, .slice A' n' c'], .agg #[.slice P np pc, .slice V nv vc]] w fun e w' => e = .returned (.bool true) ∧ Below w.heap.size w w' := by
  have HT := hide hT
  have HPr := hide hP
  have HVr := hide hV
  have B0 := hide ((Below.refl w.heap.size w).alloc (Nat.le_refl _) (.cells #[.int .i64 K, .int .i64 h, .slice A n c, .slice A' n' c'] 24))
  have K0 := hide (Bk.born w 24 #[.int .i64 K, .int .i64 h, .slice A n c, .slice A' n' c'])
  have KC0 := hide (Bk.bornAt (w := w.alloc (.cells #[.int .i64 K, .int .i64 h, .slice A n c, .slice A' n' c'] 24)) (g := w.heap.size + 1) (t := 41) (cs := #[.slice P np pc, .slice V nv vc]) (by simp))
  replace K0 := hide (K0.out.more (.cells #[.slice P np pc, .slice V nv vc] 41))
  replace B0 := hide (B0.out.alloc (by simp) (.cells #[.slice P np pc, .slice V nv vc] 41))
  clear hT hP hV
  by_cases hL : 100 < n ∨ 100 < n'
  case pos =>
    go_enter Try.func10, Try.ntmps10
    go_wp2_with fail
    refine (Long_any K h _ n c cs _ n' c' ds _ (HT.out.below B0.out (Nat.le_refl _))).mono ?_
    rw [decide_eq_true hL]
    rintro e w1 ⟨rfl, b1⟩
    have B1 := hide (B0.out.trans (b1.mono B0.out.size))
    have K1 := hide (K0.out.keep b1 K0.out.in_)
    have KC1 := hide (KC0.out.keep b1 KC0.out.in_)
    clear b1
    go_wp2_with fail
    refine (known_any _).mono ?_
    rintro e wz ⟨rfl, bz⟩
    go_wp2_with fail
    go_ret
    exact ⟨rfl, B1.out.trans (bz.mono B1.out.size)⟩
  by_cases hL2 : 100 < np
  case pos =>
    go_enter Try.func10, Try.ntmps10
    go_wp2_with fail
    refine (Long_any K h _ n c cs _ n' c' ds _ (HT.out.below B0.out (Nat.le_refl _))).mono ?_
    rw [decide_eq_false hL]
    rintro e w1 ⟨rfl, b1⟩
    have B1 := hide (B0.out.trans (b1.mono B0.out.size))
    have K1 := hide (K0.out.keep b1 K0.out.in_)
    have KC1 := hide (KC0.out.keep b1 KC0.out.in_)
    clear b1
    obtain ⟨x0, x1, _, _, _⟩ := KC1.out.two
    go_wp2_with fail
    refine (large_any _ np pc ps _ (HPr.out.below B1.out (Nat.le_refl _))).mono ?_
    rw [decide_eq_true hL2]
    rintro e wq ⟨rfl, rfl⟩
    clear x0 x1
    go_wp2_with fail
    refine (known_any _).mono ?_
    rintro e wz ⟨rfl, bz⟩
    go_wp2_with fail
    go_ret
    exact ⟨rfl, B1.out.trans (bz.mono B1.out.size)⟩
  by_cases hL3 : 100 < nv
  case pos =>
    go_enter Try.func10, Try.ntmps10
    go_wp2_with fail
    refine (Long_any K h _ n c cs _ n' c' ds _ (HT.out.below B0.out (Nat.le_refl _))).mono ?_
    rw [decide_eq_false hL]
    rintro e w1 ⟨rfl, b1⟩
    have B1 := hide (B0.out.trans (b1.mono B0.out.size))
    have K1 := hide (K0.out.keep b1 K0.out.in_)
    have KC1 := hide (KC0.out.keep b1 KC0.out.in_)
    clear b1
    obtain ⟨x0, x1, _, _, _⟩ := KC1.out.two
    go_wp2_with fail
    refine (large_any _ np pc ps _ (HPr.out.below B1.out (Nat.le_refl _))).mono ?_
    rw [decide_eq_false hL2]
    rintro e wq ⟨rfl, rfl⟩
    clear x0 x1
    obtain ⟨x0, x1, _, _, _⟩ := KC1.out.two
    go_wp2_with fail
    refine (large_any _ nv vc vs _ (HVr.out.below B1.out (Nat.le_refl _))).mono ?_
    rw [decide_eq_true hL3]
    rintro e wq ⟨rfl, rfl⟩
    clear x0 x1
    go_wp2_with fail
    refine (known_any _).mono ?_
    rintro e wz ⟨rfl, bz⟩
    go_wp2_with fail
    go_ret
    exact ⟨rfl, B1.out.trans (bz.mono B1.out.size)⟩
  go_enter Try.func10, Try.ntmps10
  go_wp2_with fail
  refine (Long_any K h _ n c cs _ n' c' ds _ (HT.out.below B0.out (Nat.le_refl _))).mono ?_
  rw [decide_eq_false hL]
  rintro e w1 ⟨rfl, b1⟩
  have B1 := hide (B0.out.trans (b1.mono B0.out.size))
  have K1 := hide (K0.out.keep b1 K0.out.in_)
  have KC1 := hide (KC0.out.keep b1 KC0.out.in_)
  clear b1
  obtain ⟨x0, x1, _, _, _⟩ := KC1.out.two
  go_wp2_with fail
  refine (large_any _ np pc ps _ (HPr.out.below B1.out (Nat.le_refl _))).mono ?_
  rw [decide_eq_false hL2]
  rintro e wq ⟨rfl, rfl⟩
  clear x0 x1
  obtain ⟨x0, x1, _, _, _⟩ := KC1.out.two
  go_wp2_with fail
  refine (large_any _ nv vc vs _ (HVr.out.below B1.out (Nat.le_refl _))).mono ?_
  rw [decide_eq_false hL3]
  rintro e wq ⟨rfl, rfl⟩
  clear x0 x1
  obtain ⟨k0, k1, k2, k3, _⟩ := K1.out.four
  obtain ⟨x0, x1, _, _, _⟩ := KC1.out.two
  have hz3 := B1.out.size
  have HV1 := hide (fun W h1 h2 h3 => CheckBest_any K h A n c cs A' n' c' ds P np pc ps V nv vc vs W h1 h2 h3)
  have HV2 := hide (fun W h1 h2 h3 => rCheckBest_any K h A n c cs A' n' c' ds P np pc ps V nv vc vs W h1 h2 h3)
  generalize errB K h cs ds ps vs = e9 at *
  have kin := K1.out.in_
  have kin2 := KC1.out.in_
  go_wp2_with fail
  go_region_held3 (fun w' => w'.cell? ⟨w.heap.size, 0, none⟩ = some (.int .i64 K) ∧ w'.cell? ⟨w.heap.size, 1, none⟩ = some (.int .i64 h) ∧ w'.cell? ⟨w.heap.size, 2, none⟩ = some (.slice A n c) ∧ w'.cell? ⟨w.heap.size, 3, none⟩ = some (.slice A' n' c') ∧ w'.cell? ⟨w.heap.size + 1, 0, none⟩ = some (.slice P np pc) ∧ w'.cell? ⟨w.heap.size + 1, 1, none⟩ = some (.slice V nv vc))
    (first
      | go_keep
      | (go_split_ands
         refine ⟨?_, ?_, ?_, ?_, ?_, ?_⟩ <;> (rw [hb8.cell (by simp; omega)]; assumption))
      | (go_split_ands
         refine ⟨?_, ?_, ?_, ?_, ?_, ?_⟩ <;> (rw [hb9.cell (by have := hb8.size; simp at this ⊢; omega)]; assumption)))
    (first
      | (go_at_call 41; refine (HV1.out _ (HT.out.below (below_drewN B1.out 1) (Nat.le_refl _)) (HPr.out.below (below_drewN B1.out 1) (Nat.le_refl _)) (HVr.out.below (below_drewN B1.out 1) (Nat.le_refl _))).mono ?_; rintro e8 w8 ⟨rfl, hb8⟩)
      | (go_at_call 42; have b89 := (below_drewN B1.out 1).trans (hb8.mono B1.out.size); refine (HV2.out _ (HT.out.below b89 (Nat.le_refl _)) (HPr.out.below b89 (Nat.le_refl _)) (HVr.out.below b89 (Nat.le_refl _))).mono ?_; rintro e9 w9 ⟨rfl, hb9⟩))
  have s8 := hb8.size
  have B9 := hide (((below_drewN B1.out 1).trans (hb8.mono (by simp; omega))).trans (hb9.mono (by simp at s8; omega)))
  have K9 := hide (((K1.out.draws 1).keep hb8 kin).keep hb9 (by simp at s8; omega))
  have KC9 := hide (((KC1.out.draws 1).keep hb8 kin2).keep hb9 (by simp at s8; omega))
  clear hb8 hb9 k0 k1 k2 k3 x0 x1
  obtain ⟨k0, k1, k2, k3, _⟩ := K9.out.four
  go_wp2_with fail
  refine (Best_any K h _ n c cs _ n' c' ds _ (HT.out.below B9.out (Nat.le_refl _))).mono ?_
  rintro e w10 ⟨Ab, nb, cb, rfl, ob, b10⟩
  have B10 := hide (B9.out.trans (b10.mono B9.out.size))
  have K10 := hide (K9.out.keep b10 K9.out.in_)
  have KC10 := hide (KC9.out.keep b10 KC9.out.in_)
  clear b10
  clear k0 k1 k2 k3
  have Rb := hide (ob.row)
  clear ob
  obtain ⟨k0, k1, k2, k3, _⟩ := K10.out.four
  go_wp2_with fail
  refine (Prices_any K h _ n c cs _ n' c' ds _ (HT.out.below B10.out (Nat.le_refl _))).mono ?_
  rintro e w11 ⟨Aq, nq, cq, rfl, oq, b11⟩
  have B11 := hide (B10.out.trans (b11.mono B10.out.size))
  have K11 := hide (K10.out.keep b11 K10.out.in_)
  have KC11 := hide (KC10.out.keep b11 KC10.out.in_)
  replace Rb := hide (Rb.out.below b11 (Nat.le_refl _))
  clear b11
  clear k0 k1 k2 k3
  have Rq := hide (oq.row)
  clear oq
  by_cases he : errT K h cs ds = 0
  case neg =>
    have he' : (errT K h cs ds != 0) = true := by simpa using he
    go_wp2_with fail
    refine (known_any _).mono ?_
    rintro e wz ⟨rfl, bz⟩
    go_wp2_with fail
    go_ret
    exact ⟨rfl, B11.out.trans (bz.mono B11.out.size)⟩
  have HBE := hide (proves_ok (errT_zero he))
  rw [okl_zero he] at Rb Rq
  rw [he]
  have HE := hide he
  clear he
  obtain ⟨k0, k1, k2, k3, _⟩ := K11.out.four
  go_wp2_with fail
  refine (CheckBest_any K h _ n c cs _ n' c' ds _ nb cb _ _ nq cq _ _ (HT.out.below B11.out (Nat.le_refl _)) Rb.out Rq.out).mono ?_
  rw [HBE.out]
  rintro e w12 ⟨rfl, b12⟩
  have B12 := hide (B11.out.trans (b12.mono B11.out.size))
  have K12 := hide (K11.out.keep b12 K11.out.in_)
  have KC12 := hide (KC11.out.keep b12 KC11.out.in_)
  replace Rb := hide (Rb.out.below b12 (Nat.le_refl _))
  replace Rq := hide (Rq.out.below b12 (Nat.le_refl _))
  clear b12
  clear k0 k1 k2 k3
  go_wp2_with fail
  refine (known_any _).mono ?_
  rintro e wz ⟨rfl, bz⟩
  go_wp2_with fail
  go_ret
  exact ⟨rfl, B12.out.trans (bz.mono B12.out.size)⟩

end Go.Proofs.Ytjhnfcmijijdcaa
