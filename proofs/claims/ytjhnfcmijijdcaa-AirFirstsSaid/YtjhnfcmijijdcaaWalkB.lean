/- Walks of which tasks are valid, on both sides. -/
import Derived.Test.YtjhnfcmijijdcaaWalkA
namespace Go.Proofs.Ytjhnfcmijijdcaa
open Go.RowKit

/-- The task is as the document asks. -/
structure OkT (K h : Int) (cs ds : List Int) : Prop where
  K0 : 0 ≤ K
  K1 : K ≤ 999
  h0 : 0 ≤ h
  h1 : h ≤ 20
  n1 : 1 ≤ ds.length
  n2 : ds.length ≤ 12
  c : AllOk cs ds.length 20
  d : AllOk ds ds.length 50
theorem okT_iff (K h : Int) (cs ds : List Int) : OkT K h cs ds ↔ (0 ≤ K ∧ K ≤ 999) ∧ (0 ≤ h ∧ h ≤ 20) ∧ (1 ≤ ds.length ∧ ds.length ≤ 12) ∧ AllOk cs ds.length 20 ∧ AllOk ds ds.length 50 :=
  ⟨fun ⟨a, b, c, d, e, f, g, i⟩ => ⟨⟨a, b⟩, ⟨c, d⟩, ⟨e, f⟩, g, i⟩, fun ⟨⟨a, b⟩, ⟨c, d⟩, ⟨e, f⟩, g, i⟩ => ⟨a, b, c, d, e, f, g, i⟩⟩
instance (K h : Int) (cs ds : List Int) : Decidable (OkT K h cs ds) := decidable_of_iff _ (okT_iff K h cs ds).symm
def errT (K h : Int) (cs ds : List Int) : Int := if OkT K h cs ds then 0 else 1
theorem errT_ok {K h : Int} {cs ds : List Int} (o : OkT K h cs ds) : errT K h cs ds = 0 := by unfold errT; rw [if_pos o]
theorem errT_no {K h : Int} {cs ds : List Int} (o : ¬ OkT K h cs ds) : errT K h cs ds = 1 := by unfold errT; rw [if_neg o]
theorem errT_zero {K h : Int} {cs ds : List Int} (o : errT K h cs ds = 0) : OkT K h cs ds := by
  unfold errT at o
  split at o
  · assumption
  · contradiction
theorem errT_ne {K h : Int} {cs ds : List Int} (o : ¬ errT K h cs ds = 0) : errT K h cs ds = 1 := by
  unfold errT at o ⊢
  split <;> simp_all
theorem OkT.tk {K h : Int} {cs ds : List Int} (o : OkT K h cs ds) : (tk K h cs ds).Ok ds.length :=
  ⟨o.K0, o.K1, o.h0, o.h1, fun i hi => (o.c.2 i (by have := o.c.1; omega)).1, fun i hi => (o.c.2 i (by have := o.c.1; omega)).2, fun i hi => (o.d.2 i hi).1, fun i hi => (o.d.2 i hi).2⟩

set_option maxHeartbeats 1000000 in
theorem Validate_any (K h : Int) (A : Option Addr) (n c : Nat) (cs : List Int) (A' : Option Addr) (n' c' : Nat) (ds : List Int) (w : World) (hT : Tin w A n c cs A' n' c' ds) :
    Calls Try.prog 22 #[.agg #[.int .i64 K, .int .i64 h, .slice A n c, .slice A' n' c']] w fun e w' => e = .returned (.int .i64 (errT K h cs ds)) ∧ Below w.heap.size w w' := by
  have HT := hide hT
  have HL := hide hT.1.length
  have HL' := hide hT.2.length
  have HB := hide ((Below.refl w.heap.size w).alloc (Nat.le_refl _) (.cells #[.int .i64 K, .int .i64 h, .slice A n c, .slice A' n' c'] 24))
  obtain ⟨b', o', r'⟩ := hT.2
  have hm' := r'.max
  have hc' := r'.cap
  clear hT r'
  by_cases h1 : K < 0
  · have HV := hide (errT_no (K := K) (h := h) (cs := cs) (ds := ds) fun o => by have := o.K0; omega)
    go_enter Try.func22, Try.ntmps22
    go_wp2_with fail
    go_ret
    exact ⟨ret_i64 HV.out.symm, HB.out⟩
  by_cases h2 : 999 < K
  · have HV := hide (errT_no (K := K) (h := h) (cs := cs) (ds := ds) fun o => by have := o.K1; omega)
    go_enter Try.func22, Try.ntmps22
    go_wp2_with fail
    go_ret
    exact ⟨ret_i64 HV.out.symm, HB.out⟩
  by_cases h3 : h < 0
  · have HV := hide (errT_no (K := K) (h := h) (cs := cs) (ds := ds) fun o => by have := o.h0; omega)
    go_enter Try.func22, Try.ntmps22
    go_wp2_with fail
    go_ret
    exact ⟨ret_i64 HV.out.symm, HB.out⟩
  by_cases h4 : 20 < h
  · have HV := hide (errT_no (K := K) (h := h) (cs := cs) (ds := ds) fun o => by have := o.h1; omega)
    go_enter Try.func22, Try.ntmps22
    go_wp2_with fail
    go_ret
    exact ⟨ret_i64 HV.out.symm, HB.out⟩
  by_cases h5 : n' < 1
  · have HV := hide (errT_no (K := K) (h := h) (cs := cs) (ds := ds) fun o => by have := o.n1; have := HL'.out; omega)
    go_enter Try.func22, Try.ntmps22
    go_wp2_with fail
    go_ret
    exact ⟨ret_i64 HV.out.symm, HB.out⟩
  by_cases h6 : 12 < n'
  · have HV := hide (errT_no (K := K) (h := h) (cs := cs) (ds := ds) fun o => by have := o.n2; have := HL'.out; omega)
    go_enter Try.func22, Try.ntmps22
    go_wp2_with fail
    go_ret
    exact ⟨ret_i64 HV.out.symm, HB.out⟩
  by_cases h7 : allB cs n' 20 = true
  · by_cases h8 : allB ds n' 50 = true
    · have HV := hide (errT_ok (K := K) (h := h) (cs := cs) (ds := ds) ⟨by omega, by omega, by omega, by omega, by have := HL'.out; omega, by have := HL'.out; omega, by rw [HL'.out]; exact allB_iff.1 h7, by rw [HL'.out]; exact allB_iff.1 h8⟩)
      go_enter Try.func22, Try.ntmps22
      go_wp2_with fail
      refine (isForEach_any _ _ _ _ cs _ _ (HT.out.1.alloc _) (by omega) (by omega)).mono ?_
      rintro e w1 ⟨rfl, rfl⟩
      rw [h7]
      go_wp2_with fail
      refine (isForEach_any _ _ _ _ ds _ _ (HT.out.2.alloc _) (by omega) (by omega)).mono ?_
      rintro e w1 ⟨rfl, rfl⟩
      rw [h8]
      go_wp2_with fail
      go_ret
      exact ⟨ret_i64 HV.out.symm, HB.out⟩
    · have h8' : allB ds n' 50 = false := by simpa using h8
      have HV := hide (errT_no (K := K) (h := h) (cs := cs) (ds := ds) fun o => h8 (allB_iff.2 (by have := o.d; rw [HL'.out] at this; exact this)))
      clear h8
      go_enter Try.func22, Try.ntmps22
      go_wp2_with fail
      refine (isForEach_any _ _ _ _ cs _ _ (HT.out.1.alloc _) (by omega) (by omega)).mono ?_
      rintro e w1 ⟨rfl, rfl⟩
      rw [h7]
      go_wp2_with fail
      refine (isForEach_any _ _ _ _ ds _ _ (HT.out.2.alloc _) (by omega) (by omega)).mono ?_
      rintro e w1 ⟨rfl, rfl⟩
      rw [h8']
      go_wp2_with fail
      go_ret
      exact ⟨ret_i64 HV.out.symm, HB.out⟩
  · have h7' : allB cs n' 20 = false := by simpa using h7
    have HV := hide (errT_no (K := K) (h := h) (cs := cs) (ds := ds) fun o => h7 (allB_iff.2 (by have := o.c; rw [HL'.out] at this; exact this)))
    clear h7
    go_enter Try.func22, Try.ntmps22
    go_wp2_with fail
    refine (isForEach_any _ _ _ _ cs _ _ (HT.out.1.alloc _) (by omega) (by omega)).mono ?_
    rintro e w1 ⟨rfl, rfl⟩
    rw [h7']
    go_wp2_with fail
    go_ret
    exact ⟨ret_i64 HV.out.symm, HB.out⟩

end Go.Proofs.Ytjhnfcmijijdcaa
