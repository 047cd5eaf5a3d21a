/- What is earned. -/
import Derived.Test.YtpkjgnllkaafkaaWalkK
namespace Go.Proofs.Ytpkjgnllkaafkaa
open Go.RowKit

theorem chs_cho : ∀ (R : List Rs) (acc : List Int) (beg : Int), ((R.map restNm).foldl chF (acc, beg)).1 = acc ++ (cho beg R).map (·.1.2.2.2)
  | [], acc, beg => by simp [cho]
  | x :: R, acc, beg => by
    unfold cho
    simp only [List.map_cons, List.foldl_cons]
    by_cases h : x.1.2.1 ≤ beg
    · have e : chF (acc, beg) (restNm x) = (acc ++ [x.1.2.2.2], x.1.1) := if_pos h
      rw [e, if_pos h, chs_cho R]
      simp
    · have e : chF (acc, beg) (restNm x) = (acc, beg) := if_neg h
      rw [e, if_neg h, chs_cho R]
theorem chs_chn (L : Ns) : (chs ((rsts L).map restNm).reverse).1 = chn L := by
  unfold chs chn
  rw [← List.map_reverse, chs_cho]
  rfl
theorem payI_take {xs : Ls} {I : List Int} {k : Nat} (h : k < I.length) : payI xs (I.take (k + 1)) = payI xs (I.take k) + (shAt xs (gi I k)).2.2 := by
  have e : gi I k = I[k] := by simp [gi, List.getD_eq_getElem?_getD, h]
  rw [List.take_succ_eq_append_getElem h, e]
  unfold payI paySum pick
  rw [List.map_append, List.map_append, List.sum_append]
  simp only [List.map_cons, List.map_nil, List.sum_cons, List.sum_nil]
  omega
theorem shAt_ok {xs : Ls} (ok : ∀ s ∈ xs, okS s = true) {i : Int} (h0 : 0 ≤ i) (h : i < xs.length) : okS (shAt xs i) = true := by
  refine ok _ ?_
  unfold shAt
  rw [List.getD_eq_getElem?_getD, List.getElem?_eq_getElem (by omega)]
  exact List.getElem_mem _
theorem payI_bd {xs : Ls} (ok : ∀ s ∈ xs, okS s = true) : ∀ {I : List Int}, (∀ x ∈ I, 0 ≤ x ∧ x < xs.length) → 0 ≤ payI xs I ∧ payI xs I ≤ 99 * I.length
  | [], _ => by simp [payI, paySum, pick]
  | i :: I, h => by
    have h1 := payI_bd ok (I := I) fun x hx => h x (by simp [hx])
    have h2 := h i (by simp)
    have h3 := okS_iff.1 (shAt_ok ok h2.1 h2.2)
    simp only [payI, paySum, pick, List.map_cons, List.sum_cons, List.length_cons] at h1 ⊢
    omega
theorem gi_mem {I : List Int} {k : Nat} (h : k < I.length) : gi I k ∈ I := by
  have e : gi I k = I[k] := by simp [gi, List.getD_eq_getElem?_getD, h]
  rw [e]; exact List.getElem_mem _
/-- A set that earns the most, its pay, and an error. -/
def EarnPost (xs : Ls) (w : World) (e : Ending) (w' : World) : Prop :=
  ∃ (A : Option Addr) (n c : Nat) (I : List Int), e = .returned (.tuple #[.slice A n c, .int .i64 (payI xs I), .int .i64 (errV xs)]) ∧ (errV xs = 0 → ∃ L, Ord kt xs L ∧ Chosen xs L I) ∧ (errV xs ≠ 0 → I = []) ∧ Own E1 w' w.heap.size 3 A n c I ∧ Below w.heap.size w w'

set_option maxRecDepth 100000 in
set_option maxHeartbeats 2000000 in
theorem Earn_any (A : Option Addr) (n c : Nat) (xs : Ls) (w : World) (h : R E3 w A n c xs) (hn : n ≤ 1000) :
    Calls Try.prog 36 #[.slice A n c] w (EarnPost xs w) := by
  by_cases he : errV xs = 0
  · have HE := hide he
    have HH := hide h
    have hn12 : n ≤ 12 := by have := errV_le he; have := h.length; omega
    have HLX := hide h.length
    clear he h
    go_enter Try.func36, Try.ntmps36
    go_wp2_with (first
      | (go_at_call 23; refine (Validate_any _ _ _ xs _ HH.out hn).mono ?_; rintro e w1 ⟨rfl, b1⟩; rw [HE.out]; have HB1 := hide b1; clear b1)
      | (go_at_call 77; refine (rests_any _ _ _ xs _ (HH.out.below HB1.out (Nat.le_refl _)) HE.out).mono ?_; rintro e w2 ⟨A2, n2, c2, l2, rfl, ⟨L, hL, rfl⟩, o2, b2⟩; have HO := hide hL; have HO2 := hide o2; have HB2 := hide b2; clear hL o2 b2)
      | (go_at_call 76; refine (chosen_any _ _ _ _ _ HO2.out.row (by have h1 := HO2.out.len; have h2 := (rsts_bd (L := L) (fun s hs => shift_ok HE.out HO.out hs)).2; have h3 := HO.out.len; rw [List.length_map] at h1; have h4 := HLX.out; omega)).mono ?_; rintro e w3 ⟨A3, n3, k3, I, rfl, ⟨hp, hs⟩, o3, b3⟩; rw [chs_chn] at hp; have HCH := hide (chosen_ok (errV_ok.1 HE.out).2 HO.out hp hs); have HO3 := hide o3; have HB3 := hide (HB1.out.trans ((HB2.out.trans (b3.mono HB2.out.size)).mono HB1.out.size)); clear hp hs b3))
    have hz3 := HB3.out.size
    have hok := (errV_ok.1 HE.out).2
    have hrng := HCH.out.asc.rng
    have HOK := hide hok
    have HRNG := hide hrng
    have hn3 : n3 ≤ 12 := by have h1 := asc_len HCH.out.asc; have h2 := HO3.out.len; have h3 := HLX.out; omega
    have HI := hide HO3.out.len
    clear hok hrng o3
    have hrow : ∃ b off, RAt E3 w A n c xs b off := HH.out
    obtain ⟨b, off, hrow⟩ := hrow
    have HR := hide hrow
    have hcapn := hrow.cap
    have hmaxn := hrow.max
    clear hrow
    go_loopw [7, 20] (fun s i wr => ∃ k : Nat, k ≤ n3 ∧ i = .int .i64 k ∧ s = .int .i64 (payI xs (I.take k)) ∧ w3 = wr) (fun _ i _ => n3 - (intOf i).toNat)
    case atStart => exact ⟨0, Nat.zero_le _, rfl, rfl, rfl⟩
    case round =>
      obtain ⟨k, hk, rfl, rfl, rfl⟩ := hrel
      by_cases hlt : k < n3
      · obtain ⟨g, rfl, hg1, hg2, hg3, hg4⟩ := HO3.out.addr (by omega)
        have hg4' : k3 ≤ 9223372036854775807 := hg4
        have a1 := own1 HO3.out hlt
        have HT := hide (payI_take (xs := xs) (I := I) (k := k) (by rw [HI.out]; exact hlt))
        have hb1 := payI_bd HOK.out (I := I.take k) (fun x hx => HRNG.out x (List.mem_of_mem_take hx))
        have hb2 := List.length_take_le k I
        have hi := HRNG.out _ (gi_mem (I := I) (k := k) (by rw [HI.out]; exact hlt))
        have hps := okS_iff.1 (shAt_ok HOK.out hi.1 hi.2)
        rw [HLX.out] at hi
        have hlw : 0 < n := by omega
        obtain rfl := HR.out.at_ hlw
        have hbl := HR.out.lt hlw
        obtain ⟨d1, d2, d3⟩ := c3 ((HR.out.below HB3.out (Nat.le_refl _))) (k := (gi I k).toNat) (by omega)
        have hblr : b < w3.heap.size := by omega
        have e3 : (shAt xs (gi I k)) = xs.getD (gi I k).toNat sh0 := rfl
        rw [← e3] at d3
        clear e3 d1 d2
        generalize gi I k = i at *
        obtain ⟨hi0, hi1⟩ := hi
        generalize shAt xs i = sv at *
        obtain ⟨s1, s2, s3⟩ := sv
        generalize payI xs (I.take k) = P at *
        dsimp only at *
        clear hg4
        go_wp2_with fail
        go_round
        case rel => exact ⟨k + 1, by omega, by go_num, by rw [HT.out], trivial⟩
        case measure => simp [intOf]; omega
      · obtain rfl : k = n3 := by omega
        go_wp2_with fail
        go_ret3
        exact ⟨A3, k, k3, I, by rw [HE.out, List.take_of_length_le (by rw [HI.out]; exact Nat.le_refl _)]; rfl, fun _ => ⟨L, HO.out, HCH.out⟩, fun h => absurd HE.out h, HO3.out.more (by have := HB1.out.size; have := HB2.out.size; omega), HB3.out⟩
  · have hne : (errV xs != 0) = true := by simpa using he
    have HNE := hide he
    clear he
    go_enter Try.func36, Try.ntmps36
    go_wp2_with (first | (go_at_call 23; refine (Validate_any _ _ _ xs _ h hn).mono ?_; rintro e w1 ⟨rfl, b1⟩))
    go_ret3
    exact ⟨none, 0, 0, [], rfl, fun h => absurd h HNE.out, fun _ => rfl, Own.nil _ _ _ _, b1⟩
end Go.Proofs.Ytpkjgnllkaafkaa
