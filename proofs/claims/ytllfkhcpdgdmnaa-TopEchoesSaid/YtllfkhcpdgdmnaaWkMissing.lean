/- EchoMissing: the walk. -/
import Derived.Test.YtllfkhcpdgdmnaaMiss
import Derived.StillTailTactics
namespace Go.Proofs.Ytllfkhcpdgdmnaa
open Go.RowKit

def cnB (s : List Int) (i : Nat) : Bool := decide (i = 0) || decide (s.getD i 0 ≠ s.getD (i - 1) 0)
def dcN (s : List Int) (k : Nat) : Nat := ((List.range k).filter (cnB s)).length
theorem dcN_yes {s : List Int} {k : Nat} (h : cnB s k = true) : dcN s (k + 1) = dcN s k + 1 := by
  unfold dcN
  rw [List.range_succ, List.filter_append, List.length_append]
  simp [h]
theorem dcN_no {s : List Int} {k : Nat} (h : cnB s k = false) : dcN s (k + 1) = dcN s k := by
  unfold dcN
  rw [List.range_succ, List.filter_append, List.length_append]
  simp [h]
theorem dcN_le (s : List Int) (k : Nat) : dcN s k ≤ k := by
  unfold dcN
  refine Nat.le_trans (List.length_filter_le _ _) ?_
  simp
theorem srt_le {s : List Int} (hs : s.Pairwise (· ≤ ·)) {i j : Nat} (hij : i ≤ j) (hj : j < s.length) : s.getD i 0 ≤ s.getD j 0 := by
  by_cases e : i = j
  · subst e; omega
  · have := List.pairwise_iff_getElem.1 hs i j (by omega) hj (by omega)
    simpa [List.getD_eq_getElem?_getD, show i < s.length by omega, hj] using this
/-- The numbers of a sorted list, each once. -/
def once (s : List Int) : List Int := ((List.range s.length).filter (cnB s)).map fun i => s.getD i 0
theorem once_len (s : List Int) : (once s).length = dcN s s.length := by simp [once, dcN]
theorem once_nodup {s : List Int} (hs : s.Pairwise (· ≤ ·)) : (once s).Nodup := by
  unfold once
  refine List.Pairwise.map (R := fun i j : Nat => s.getD i 0 ≠ s.getD j 0) _ (fun a b h => h) ?_
  rw [List.pairwise_filter]
  refine List.Pairwise.imp_of_mem ?_ (List.pairwise_lt_range (n := s.length))
  intro i j _ hj hij _ hc
  have hj := List.mem_range.1 hj
  have h1 := srt_le hs (i := i) (j := j - 1) (by omega) (by omega)
  have h2 := srt_le hs (i := j - 1) (j := j) (by omega) hj
  have h3 : s.getD j 0 ≠ s.getD (j - 1) 0 := by
    unfold cnB at hc
    simp only [Bool.or_eq_true, decide_eq_true_eq] at hc
    rcases hc with h | h
    · omega
    · exact h
  omega
theorem once_mem (s : List Int) : ∀ (i : Nat), i < s.length → s.getD i 0 ∈ once s
  | 0, h => List.mem_map.2 ⟨0, List.mem_filter.2 ⟨List.mem_range.2 h, by simp [cnB]⟩, rfl⟩
  | i + 1, h => by
    by_cases e : s.getD (i + 1) 0 = s.getD i 0
    · rw [e]
      exact once_mem s i (by omega)
    · exact List.mem_map.2 ⟨i + 1, List.mem_filter.2 ⟨List.mem_range.2 h, by unfold cnB; simp only [Bool.or_eq_true, decide_eq_true_eq]; exact .inr (by rw [Nat.add_sub_cancel]; exact e)⟩, rfl⟩
theorem once_iff (s : List Int) (x : Int) : x ∈ once s ↔ x ∈ s := by
  constructor
  · intro h
    unfold once at h
    obtain ⟨i, hi, rfl⟩ := List.mem_map.1 h
    have := List.mem_range.1 (List.mem_filter.1 hi).1
    rw [List.getD_eq_getElem?_getD, List.getElem?_eq_getElem this]
    exact List.getElem_mem this
  · intro h
    obtain ⟨i, hi, rfl⟩ := List.getElem_of_mem h
    have := once_mem s i hi
    rw [List.getD_eq_getElem?_getD, List.getElem?_eq_getElem hi] at this
    exact this
theorem dif_range {xs : List Int} (h : errC xs = 0) : ∀ d ∈ dif xs, 1 ≤ d ∧ d ≤ ext xs := by
  obtain ⟨h1, h2, h3, h4⟩ := errC_ok.1 h
  intro d hd
  unfold dif difTo at hd
  obtain ⟨i, hi, hd⟩ := List.mem_flatMap.1 hd
  have hi := List.mem_range.1 hi
  unfold rowD at hd
  obtain ⟨j, hj, rfl⟩ := List.mem_map.1 hd
  have hj := List.mem_range.1 hj
  have g1 := okTo_lt h3 (i := j) (j := i) hj hi
  have g2 := okTo_le h3 (i := i) (j := xs.length - 1) (by omega) (by omega)
  have g3 := okTo_le h3 (i := 0) (j := j) (by omega) (by omega)
  unfold gi at g1 g2 g3
  unfold ext
  omega
theorem flt_len (p : Int → Bool) (l : List Int) : (l.filter p).length + (l.filter fun d => !p d).length = l.length := by
  induction l with
  | nil => rfl
  | cons x l ih =>
    cases h : p x <;> simp [List.filter_cons, h] <;> omega
/-- The delays, each once, and what is missing. -/
theorem mis_count {xs : List Int} (h : errC xs = 0) : dcN (delV xs) (delV xs).length + (misV xs).length = (ext xs).toNat := by
  rw [delV_ok h]
  unfold misV
  rw [if_pos h, ← once_len]
  have hp : (once (sortZ (dif xs))).Perm (((List.range (ext xs).toNat).map fun i : Nat => (i : Int) + 1).filter fun d => (sortZ (dif xs)).contains d) := by
    refine (List.perm_ext_iff_of_nodup (once_nodup (sortZ_sorted _)) ?_).2 fun d => ?_
    · refine List.Pairwise.filter _ (List.Pairwise.map (R := fun a b : Nat => a < b) _ (fun a b h => ?_) (List.pairwise_lt_range (n := (ext xs).toNat)))
      omega
    · rw [once_iff, List.mem_filter, List.contains_iff_mem]
      constructor
      · intro hd
        refine ⟨?_, hd⟩
        have := dif_range h d ((sortZ_perm _).mem_iff.1 hd)
        exact List.mem_map.2 ⟨(d - 1).toNat, List.mem_range.2 (by omega), by omega⟩
      · exact fun hd => hd.2
  rw [hp.length_eq]
  unfold misL
  have := flt_len (fun d => (sortZ (dif xs)).contains d) ((List.range (ext xs).toNat).map fun i : Nat => (i : Int) + 1)
  rw [List.length_map, List.length_range] at this
  exact this
set_option maxRecDepth 100000 in
set_option maxHeartbeats 4000000 in
theorem EchoMissing_walk (A : Option Addr) (n c : Nat) (xs : List Int) (w : World) (h : R E1 w A n c xs) :
    Calls Try.prog 10 #[.slice A n c] w fun e w' => e = .returned (.bool true) ∧ Below w.heap.size w w' := by
  have HX := hide h
  have HL := hide h.length
  have hm9 := h.le
  have HSL := hide (misV_len xs)
  by_cases hn : 100 < n
  · have HLn := hide (show decide (100 < n) = true from by simpa using hn)
    clear h
    go_enter Try.func10, Try.ntmps10
    go_wp2_with (first
      | (go_at_call 18; refine (Long1_any _ n c w hm9).mono ?_; rintro e w1 ⟨rfl, b1⟩; have D1 := hide b1; clear b1; rw [HLn.out])
      | (go_at_call 19; refine (sane_any _).mono ?_; rintro e w2 ⟨rfl, b2⟩; have D2 := hide b2; clear b2))
    go_ret
    exact ⟨rfl, (le_call D1.out D2.out)⟩
  · have HLn := hide (show decide (100 < n) = false from by simpa using hn)
    by_cases hc : errC xs = 0
    · have HEC := hide hc
      have HCN := hide (mis_count hc)
      have HDL := hide (delV_len xs)
      have hx := (errC_ok.1 hc).2.2.2
      have hxn := ext_nonneg hc
      have hn1 := (errC_ok.1 hc).1
      have hn6 := (errC_ok.1 hc).2.1
      have hv := (errC_ok.1 hc).2.2.1
      rw [HL.out] at hn1 hn6 hv
      obtain ⟨g, off, hr⟩ := h
      obtain rfl := hr.at_ (by omega)
      have hgl := hr.lt (by omega)
      have hcap := hr.cap
      have hmax := hr.max
      have b0 := okTo_bd hv (i := 0) (by omega)
      have b1 := okTo_bd hv (i := n - 1) (by omega)
      have HC0 := hide (fun (W : World) (hW : Below w.heap.size w W) => (show W.cell? ⟨g, off, none⟩ = some (.int .i64 (xs.getD 0 0)) from by have := c1 (hr.under hW fun _ => hgl) (k := 0) (by omega); rwa [Nat.add_zero] at this))
      have HC1 := hide (fun (W : World) (hW : Below w.heap.size w W) => (show W.cell? ⟨g, off + (n - 1), none⟩ = some (.int .i64 (xs.getD (n - 1) 0)) from c1 (hr.under hW fun _ => hgl) (k := n - 1) (by omega)))
      have HXX := hide (show ext xs = xs.getD (n - 1) 0 - xs.getD 0 0 from by unfold ext; rw [HL.out])
      clear hr hc hv
      generalize xs.getD 0 0 = x0 at b0 HC0 HXX
      generalize xs.getD (n - 1) 0 = x1 at b1 HC1 HXX
      have i0n : 0 < n := by omega
      have i5n : (1 : Int) ≤ (n : Int) := by omega
      have i1 : (0 : Int) ≤ (n : Int) - 1 := by omega
      have i2 : (n : Int) - 1 < (n : Int) := by omega
      have i3 : ((n : Int) - 1).toNat = n - 1 := by omega
      have i4 : IntKind.i64.wrap ((n : Int) - 1) = (n : Int) - 1 := IntWalk.i64_in _ (by omega)
      have v1 : IntKind.i64.wrap (x1 - x0) = x1 - x0 := IntWalk.i64_in _ (by omega)
      go_enter Try.func10, Try.ntmps10
      go_wp2_with (first
        | (go_at_call 18; refine (Long1_any _ n c w hm9).mono ?_; rintro e w1 ⟨rfl, b1⟩; have D1 := hide b1; clear b1; rw [HLn.out])
        | (go_at_call 44; refine (Missing_any _ n c xs _ (HX.out.below D1.out (Nat.le_refl _)) (by omega)).mono ?_; rw [HEC.out]; rintro e w2 ⟨A2, n2, c2, rfl, o2, b2⟩; have D2 := hide b2; have O2 := hide o2; have HN2 := hide o2.len; clear o2 b2)
        | (go_at_call 45; refine (rMissing_any _ n c xs _ ((HX.out.below D1.out (Nat.le_refl _)).below D2.out (Nat.le_refl _)) (by omega)).mono ?_; rw [HEC.out]; rintro e w3 ⟨A3, n3, c3, rfl, o3, b3⟩; have D3 := hide b3; have O3 := hide o3; have HN3 := hide o3.len; clear o3 b3)
        | (go_at_call 26; refine (SameInts_any A2 n2 c2 A3 n3 c3 (misV xs) (misV xs) _ (O2.out.row.below D3.out (Nat.le_refl _)) O3.out.row (by have h1 := HN2.out; have h2 := HSL.out; omega) (by have h1 := HN3.out; have h2 := HSL.out; omega)).mono ?_; rintro e w4 ⟨rfl, q4, hw4⟩; have D4 := hide (show Below w3.heap.size w3 w4 from by rw [hw4]; exact below_drewN (Below.refl _ _) q4); clear hw4; rw [beq_self_eq_true])
        | (go_at_call 20; refine (Delays_any _ n c xs _ ((((HX.out.below D1.out (Nat.le_refl _)).below D2.out (Nat.le_refl _)).below D3.out (Nat.le_refl _)).below D4.out (Nat.le_refl _)) (by omega)).mono ?_; rw [HEC.out]; rintro e w5 ⟨A5, n5, c5, rfl, o5, b5⟩; have D5 := hide b5; have O5 := hide o5; have HN5 := hide o5.len; clear o5 b5))
      have hn5 : n5 ≤ 36 := by have h1 := HN5.out; have h2 := HDL.out; omega
      have HRd := hide (O5.out.row)
      go_loopw [9, 10] (fun v i wr => ∃ (k q : Nat), k ≤ n5 ∧ i = .int .i64 k ∧ v = .int .i64 (dcN (delV xs) k) ∧ wr = w5.drewN q) (fun _ i _ => n5 - (intOf i).toNat)
      case atStart => exact ⟨0, 0, Nat.zero_le _, rfl, rfl, rfl⟩
      case round =>
        obtain ⟨k, q, hk, rfl, rfl, rfl⟩ := hrel
        have hdl := dcN_le (delV xs) k
        by_cases hlt : k < n5
        · obtain ⟨gd, od, rd⟩ := HRd.out
          obtain rfl := rd.at_ (by omega)
          have ld := rd.lt (by omega)
          have kd := rd.cap
          have md := rd.max
          have a1 := c1 rd hlt
          have i1k : (k : Int) < (n5 : Int) := by omega
          by_cases hk0 : k = 0
          · subst hk0
            have HY := hide (dcN_yes (s := delV xs) (k := 0) (by simp [cnB]))
            have HZ := hide (show dcN (delV xs) 0 = 0 from rfl)
            clear rd a1
            go_wp2_with fail
            go_quiet (fail)
            go_wp2_with fail
            go_roundw
            case rel => exact ⟨1, q + nq, by omega, by go_num, by rw [HY.out, HZ.out]; rfl, by first | rfl | (rw [World.drewN_drewN])⟩
            case measure => simp [intOf]; omega
          · have a0 := c1 rd (k := k - 1) (by omega)
            have hkp : 0 < k := by omega
            have hkk : ((k : Int) - 1) = ((k - 1 : Nat) : Int) := by omega
            have hk0' : ((k : Int) == 0) = false := by rw [beq_eq_false_iff_ne]; omega
            have HY := hide (fun (h : (delV xs).getD k 0 ≠ (delV xs).getD (k - 1) 0) => dcN_yes (s := delV xs) (k := k) (by simp only [cnB, Bool.or_eq_true, decide_eq_true_eq]; exact .inr h))
            have HN := hide (fun (h : (delV xs).getD k 0 = (delV xs).getD (k - 1) 0) => dcN_no (s := delV xs) (k := k) (by simp only [cnB, Bool.or_eq_false_iff, decide_eq_false_iff_not]; exact ⟨hk0, fun hh => hh h⟩))
            clear rd
            generalize (delV xs).getD k 0 = y at a1 HY HN
            generalize (delV xs).getD (k - 1) 0 = z at a0 HY HN
            generalize dcN (delV xs) k = t at *
            have v3 : IntKind.i64.wrap ((t : Int) + 1) = (t : Int) + 1 := IntWalk.i64_in _ (by omega)
            by_cases hyz : y = z
            · subst hyz
              have HN2' := hide (HN.out rfl)
              have hb : (y != y) = false := by simp
              go_wp2_with fail
              go_quiet (fail)
              go_wp2_with fail
              go_roundw
              case rel => exact ⟨k + 1, q + nq, by omega, by go_num, by rw [HN2'.out], by first | rfl | (rw [World.drewN_drewN])⟩
              case measure => simp [intOf]; omega
            · have HY2 := hide (HY.out hyz)
              have hb : (y != z) = true := by simpa using hyz
              go_wp2_with fail
              go_quiet (fail)
              go_wp2_with fail
              go_roundw
              case rel => exact ⟨k + 1, q + nq, by omega, by go_num, by rw [HY2.out]; rfl, by first | rfl | (rw [World.drewN_drewN])⟩
              case measure => simp [intOf]; omega
        · obtain rfl : k = n5 := by omega
          have T := (le_call (le_call (le_call (le_call D1.out D2.out) D3.out) D4.out) D5.out)
          have a0 := HC0.out (w5.drewN q).drew (below_drewN T q).drew
          have a1 := HC1.out (w5.drewN q).drew (below_drewN T q).drew
          have hfin : (dcN (delV xs) k : Int) + (n2 : Int) = x1 - x0 := by
            have h1 := HCN.out
            rw [HN5.out, HN2.out] at h1
            have h2 := HXX.out
            omega
          have hn2' : n2 ≤ 60 := by have h1 := HN2.out; have h2 := HSL.out; omega
          generalize dcN (delV xs) k = t at *
          have v4 : IntKind.i64.wrap ((t : Int) + (n2 : Int)) = x1 - x0 := by rw [hfin]; exact v1
          have v5 : (x1 - x0 == x1 - x0) = true := by simp
          have D6 := hide (below_drewN T q)
          clear hfin
          generalize w5.drewN q = w6 at a0 a1 D6 ⊢
          have d0 : World.cell? { heap := w6.heap, tape := w6.tape, drawn := w6.drawn + 1, os := w6.os, output := w6.output } ⟨g, off, none⟩ = some (.int .i64 x0) := a0
          have d1 : World.cell? { heap := w6.heap, tape := w6.tape, drawn := w6.drawn + 1, os := w6.os, output := w6.output } ⟨g, off + (n - 1), none⟩ = some (.int .i64 x1) := a1
          go_wp2_with fail
          go_still_tail 20, (by kernel_rfl)
          clear d0 d1
          change wpList _ _ _ _ _ w6.drew
          have D6d := hide D6.out.drew
          clear a0 a1 v4 v5
          generalize w6.drew = w6d at D6d ⊢
          go_wp2_with (go_at_call 19; refine (sane_any _).mono ?_; rintro e w7 ⟨rfl, b7⟩; have D7 := hide b7; clear b7)
          go_ret
          exact ⟨rfl, D6d.out.trans (D7.out.mono D6d.out.size)⟩
    · have hne : (errC xs != 0) = true := by simpa using hc
      clear hc h
      go_enter Try.func10, Try.ntmps10
      go_wp2_with (first
        | (go_at_call 18; refine (Long1_any _ n c w hm9).mono ?_; rintro e w1 ⟨rfl, b1⟩; have D1 := hide b1; clear b1; rw [HLn.out])
        | (go_at_call 44; refine (Missing_any _ n c xs _ (HX.out.below D1.out (Nat.le_refl _)) (by omega)).mono ?_; rintro e w2 ⟨A2, n2, c2, rfl, o2, b2⟩; have D2 := hide b2; have O2 := hide o2; have HN2 := hide o2.len; clear o2 b2)
        | (go_at_call 45; refine (rMissing_any _ n c xs _ ((HX.out.below D1.out (Nat.le_refl _)).below D2.out (Nat.le_refl _)) (by omega)).mono ?_; rintro e w3 ⟨A3, n3, c3, rfl, o3, b3⟩; have D3 := hide b3; have O3 := hide o3; have HN3 := hide o3.len; clear o3 b3)
        | (go_at_call 26; refine (SameInts_any A2 n2 c2 A3 n3 c3 (misV xs) (misV xs) _ (O2.out.row.below D3.out (Nat.le_refl _)) O3.out.row (by have h1 := HN2.out; have h2 := HSL.out; omega) (by have h1 := HN3.out; have h2 := HSL.out; omega)).mono ?_; rintro e w4 ⟨rfl, q4, hw4⟩; have D4 := hide (show Below w3.heap.size w3 w4 from by rw [hw4]; exact below_drewN (Below.refl _ _) q4); clear hw4; rw [beq_self_eq_true])
        | (go_at_call 20; refine (Delays_any _ n c xs _ ((((HX.out.below D1.out (Nat.le_refl _)).below D2.out (Nat.le_refl _)).below D3.out (Nat.le_refl _)).below D4.out (Nat.le_refl _)) (by omega)).mono ?_; rintro e w5 ⟨A5, n5, c5, rfl, o5, b5⟩; have D5 := hide b5; have O5 := hide o5; have HN5 := hide o5.len; clear o5 b5)
        | (go_at_call 19; refine (sane_any _).mono ?_; rintro e w6 ⟨rfl, b6⟩; have D6 := hide b6; clear b6))
      go_ret
      exact ⟨ret_bool (by simp), (le_call (le_call (le_call (le_call (le_call D1.out D2.out) D3.out) D4.out) D5.out) D6.out)⟩
end Go.Proofs.Ytllfkhcpdgdmnaa
