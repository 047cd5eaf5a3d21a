/- Needless weights, and those that are left: on both sides. -/
import Derived.Test.YtlhlcchimammlaaWalkO
import Derived.Test.YtlhlcchimammlaaWalkK
namespace Go.Proofs.Ytlhlcchimammlaa
open Go.RowKit Go.Shelf

def nedV (xs : List Int) : List Int := if errW xs = 0 then ndlV xs else []
theorem nedV_ok {xs : List Int} (h : errW xs = 0) : nedV xs = ndlV xs := if_pos h
theorem nedV_no {xs : List Int} (h : errW xs ≠ 0) : nedV xs = [] := if_neg h
def redW (xs : List Int) : List Int := if errW xs = 0 then redV xs else []
theorem redW_ok {xs : List Int} (h : errW xs = 0) : redW xs = redV xs := if_pos h
theorem redW_no {xs : List Int} (h : errW xs ≠ 0) : redW xs = [] := if_neg h
theorem nedV_len (xs : List Int) : (nedV xs).length ≤ xs.length := by
  unfold nedV
  split
  · exact List.length_filter_le _ _
  · simp
theorem redW_len (xs : List Int) : (redW xs).length ≤ xs.length := by
  unfold redW
  split
  · exact List.length_filter_le _ _
  · simp
theorem thV_sorted (p : Nat → Bool) (k : Nat) : (thV p k).Pairwise (· < ·) := by
  unfold thV
  rw [List.pairwise_map]
  exact (List.Pairwise.filter _ (List.pairwise_lt_range (n := k))).imp fun h => by omega
theorem thV_mem {p : Nat → Bool} {k : Nat} {x : Int} : x ∈ thV p k ↔ 0 ≤ x ∧ x < k ∧ p x.toNat = true := by
  unfold thV
  rw [List.mem_map]
  constructor
  · rintro ⟨m, hm, rfl⟩
    obtain ⟨h1, h2⟩ := List.mem_filter.1 hm
    have := List.mem_range.1 h1
    exact ⟨by omega, by omega, by simpa using h2⟩
  · rintro ⟨h0, h1, h2⟩
    exact ⟨x.toNat, List.mem_filter.2 ⟨List.mem_range.2 (by omega), h2⟩, by omega⟩
theorem suB_any {xs : List Int} {m : Nat} (hm : m ≤ 30) : xs.any (suB (few xs 30) m) = sumB xs m ∨ ¬ Wt xs := by
  by_cases hw : Wt xs
  · left
    unfold sumB
    rw [Bool.eq_iff_iff, List.any_eq_true, List.any_eq_true]
    have key : ∀ x ∈ xs, suB (few xs 30) m x = (decide (x < (m : Int)) && mu xs ((m : Int) - x).toNat) := fun x hx => by
      have hx1 := hw x hx
      unfold suB
      rw [few_at xs 30 ((m : Int) - x).toNat (by omega), ← mu_few, few_at xs _ _ (Nat.le_refl _)]
    constructor
    · rintro ⟨x, hx, h⟩; exact ⟨x, hx, by rw [← key x hx]; exact h⟩
    · rintro ⟨x, hx, h⟩; exact ⟨x, hx, by rw [key x hx]; exact h⟩
  · exact .inr hw
theorem ndl_th {xs : List Int} (hV : VW xs) : thV (fun m => ((few xs 30).getD m (-1) == 1) && (xs.any (suB (few xs 30) m))) 31 = ndlV xs := by
  refine asc_eq (thV_sorted _ _) (hV.2.2.2.sublist List.filter_sublist) fun x => ?_
  rw [thV_mem]
  unfold ndlV
  rw [List.mem_filter]
  constructor
  · rintro ⟨h0, h1, h2⟩
    simp only [Bool.and_eq_true, beq_iff_eq] at h2
    rw [few_at xs 30 _ (by omega), fw_one hV.wt] at h2
    rw [show ((x.toNat : Nat) : Int) = x by omega] at h2
    refine ⟨h2.1, ?_⟩
    rcases suB_any (xs := xs) (m := x.toNat) (by omega) with h | h
    · rw [← h]; exact h2.2
    · exact absurd hV.wt h
  · rintro ⟨h1, h2⟩
    have hx := hV.wt x h1
    refine ⟨by omega, by omega, ?_⟩
    simp only [Bool.and_eq_true, beq_iff_eq]
    rw [few_at xs 30 _ (by omega), fw_one hV.wt, show ((x.toNat : Nat) : Int) = x by omega]
    refine ⟨h1, ?_⟩
    rcases suB_any (xs := xs) (m := x.toNat) (by omega) with h | h
    · rw [h]; exact h2
    · exact absurd hV.wt h
theorem red_th {xs : List Int} (hV : VW xs) : thV (fun m => ((few xs 30).getD m (-1) == 1) && !(xs.any (suB (few xs 30) m))) 31 = redV xs := by
  refine asc_eq (thV_sorted _ _) (hV.2.2.2.sublist List.filter_sublist) fun x => ?_
  rw [thV_mem]
  unfold redV
  rw [List.mem_filter]
  constructor
  · rintro ⟨h0, h1, h2⟩
    simp only [Bool.and_eq_true, beq_iff_eq] at h2
    rw [few_at xs 30 _ (by omega), fw_one hV.wt] at h2
    rw [show ((x.toNat : Nat) : Int) = x by omega] at h2
    refine ⟨h2.1, ?_⟩
    rcases suB_any (xs := xs) (m := x.toNat) (by omega) with h | h
    · rw [← h]; exact h2.2
    · exact absurd hV.wt h
  · rintro ⟨h1, h2⟩
    have hx := hV.wt x h1
    refine ⟨by omega, by omega, ?_⟩
    simp only [Bool.and_eq_true, beq_iff_eq]
    rw [few_at xs 30 _ (by omega), fw_one hV.wt, show ((x.toNat : Nat) : Int) = x by omega]
    refine ⟨h1, ?_⟩
    rcases suB_any (xs := xs) (m := x.toNat) (by omega) with h | h
    · rw [h]; exact h2
    · exact absurd hV.wt h
set_option maxHeartbeats 1000000 in
theorem Needless_any (A : Option Addr) (n c : Nat) (xs : List Int) (w : World) (h : R E1 w A n c xs) :
    Calls Try.prog 46 #[.slice A n c] w (RowPost (errW xs) (nedV xs) w) := by
  have H := hide h
  clear h
  by_cases he : errW xs = 0
  · have HE := hide he
    have hV := errW_vw.1 he
    have HV := hide hV
    have HG := hide (nedV_ok he)
    have HT := hide (ndl_th hV)
    clear he hV
    go_enter Try.func46, Try.ntmps46
    go_wp2_with (first
      | (go_at_call 25; refine (Validate_any _ _ _ xs _ H.out).mono ?_; rintro e w1 ⟨rfl, rfl⟩; rw [HE.out])
      | (go_at_call 61; refine (amountsTo_any _ _ _ xs 30 _ H.out HV.out.wt (by omega)).mono ?_; rintro e w1 ⟨Af, cf, rfl, o1, b1⟩; have O1 := hide o1; have B1 := hide b1; clear o1 b1)
      | (go_at_call 72; refine (thoseIsNeedless_any (amV A n c Af (30 + 1) cf) (fun m => ((few xs 30).getD m (-1) == 1) && (xs.any (suB (few xs 30) m))) 30 _ (by omega) (fun k wr hk hb => isNeedless_any A n c xs Af (30 + 1) cf (few xs 30) k wr ((H.out.below B1.out (Nat.le_refl _)).below hb (Nat.le_refl _)) (O1.out.row.below hb (Nat.le_refl _)) (by omega) HV.out.wt)).mono ?_; rintro e w2 ⟨A2, n2, c2, rfl, o2, b2⟩; have O2 := hide o2; have B2 := hide b2; clear o2 b2))
    go_ret2
    exact ⟨A2, n2, c2, by rw [HE.out]; rfl, by rw [HG.out, ← HT.out]; exact O2.out.more B1.out.size, B1.out.trans (B2.out.mono B1.out.size)⟩
  · have HG := hide (nedV_no he)
    have hne : (errW xs != 0) = true := by simpa using he
    clear he
    go_enter Try.func46, Try.ntmps46
    go_wp2_with (go_at_call 25; refine (Validate_any _ _ _ xs _ H.out).mono ?_; rintro e w1 ⟨rfl, rfl⟩)
    go_ret2
    exact ⟨none, 0, 0, rfl, by rw [HG.out]; exact Own.nil _ _ _ _, Below.refl _ _⟩
set_option maxHeartbeats 1000000 in
theorem Reduce_any (A : Option Addr) (n c : Nat) (xs : List Int) (w : World) (h : R E1 w A n c xs) :
    Calls Try.prog 48 #[.slice A n c] w (RowPost (errW xs) (redW xs) w) := by
  have H := hide h
  clear h
  by_cases he : errW xs = 0
  · have HE := hide he
    have hV := errW_vw.1 he
    have HV := hide hV
    have HG := hide (redW_ok he)
    have HT := hide (red_th hV)
    clear he hV
    go_enter Try.func48, Try.ntmps48
    go_wp2_with (first
      | (go_at_call 25; refine (Validate_any _ _ _ xs _ H.out).mono ?_; rintro e w1 ⟨rfl, rfl⟩; rw [HE.out])
      | (go_at_call 61; refine (amountsTo_any _ _ _ xs 30 _ H.out HV.out.wt (by omega)).mono ?_; rintro e w1 ⟨Af, cf, rfl, o1, b1⟩; have O1 := hide o1; have B1 := hide b1; clear o1 b1)
      | (go_at_call 72; refine (thoseIsNeeded_any (amV A n c Af (30 + 1) cf) (fun m => ((few xs 30).getD m (-1) == 1) && !(xs.any (suB (few xs 30) m))) 30 _ (by omega) (fun k wr hk hb => isNeeded_any A n c xs Af (30 + 1) cf (few xs 30) k wr ((H.out.below B1.out (Nat.le_refl _)).below hb (Nat.le_refl _)) (O1.out.row.below hb (Nat.le_refl _)) (by omega) HV.out.wt)).mono ?_; rintro e w2 ⟨A2, n2, c2, rfl, o2, b2⟩; have O2 := hide o2; have B2 := hide b2; clear o2 b2))
    go_ret2
    exact ⟨A2, n2, c2, by rw [HE.out]; rfl, by rw [HG.out, ← HT.out]; exact O2.out.more B1.out.size, B1.out.trans (B2.out.mono B1.out.size)⟩
  · have HG := hide (redW_no he)
    have hne : (errW xs != 0) = true := by simpa using he
    clear he
    go_enter Try.func48, Try.ntmps48
    go_wp2_with (go_at_call 25; refine (Validate_any _ _ _ xs _ H.out).mono ?_; rintro e w1 ⟨rfl, rfl⟩)
    go_ret2
    exact ⟨none, 0, 0, rfl, by rw [HG.out]; exact Own.nil _ _ _ _, Below.refl _ _⟩

theorem RAt.pre {w : World} {A : Option Addr} {n c b off : Nat} {xs : List Int} (h : RAt E1 w A n c xs b off) {i : Nat} (hi : i ≤ n) : R E1 w A i i (xs.take i) := by
  refine ⟨b, off, by rw [List.length_take, h.len]; omega, Nat.le_refl _, by have := h.cap; have := h.max; omega, fun h0 => h.at_ (by omega), fun h0 => h.lt (by omega), fun k hk j hj => ?_⟩
  rw [h.cell k (by omega) j hj]
  have : (xs.take i).getD k E1.d = xs.getD k E1.d := by
    rw [List.getD_eq_getElem?_getD, List.getD_eq_getElem?_getD, List.getElem?_take, if_pos hk]
  rw [this]
def ndTo (xs : List Int) (k : Nat) : List Int := (xs.take k).filter fun x => sumB xs x.toNat
theorem ndTo_succ {xs : List Int} {k : Nat} (h : k < xs.length) : ndTo xs (k + 1) = ndTo xs k ++ (if sumB xs (xs.getD k 0).toNat = true then [xs.getD k 0] else []) := by
  unfold ndTo
  rw [take_snocI h, List.filter_append]
  congr 1
  generalize xs.getD k 0 = x
  cases hh : sumB xs x.toNat <;> simp [hh]
theorem ndTo_one {xs : List Int} (h : VW xs) : ndTo xs 1 = [] := by
  have h1 : 0 < xs.length := h.1
  have := sumB_take h h1
  rw [List.take_zero] at this
  rw [show (1 : Nat) = 0 + 1 from rfl, ndTo_succ h1, this]
  have h2 : mu [] (xs.getD 0 0).toNat = false := (mu_no (w := []) (by intro y hy; simp at hy)).2 fun c hc => by
    have h3 := h.fst
    rcases hc.last with ⟨e, _⟩ | ⟨_, _, y, _, hy, _⟩
    · omega
    · simp at hy
  rw [h2]
  rfl
theorem ndTo_all (xs : List Int) : ndTo xs xs.length = ndlV xs := by unfold ndTo ndlV; rw [List.take_length]
theorem ndTo_len (xs : List Int) (k : Nat) : (ndTo xs k).length ≤ k := by
  unfold ndTo
  exact Nat.le_trans (List.length_filter_le _ _) (by rw [List.length_take]; omega)
set_option maxRecDepth 100000 in
set_option maxHeartbeats 4000000 in
theorem rNeedless_any (A : Option Addr) (n c : Nat) (xs : List Int) (w : World) (h : R E1 w A n c xs) :
    Calls Try.prog 47 #[.slice A n c] w (RowPost (errW xs) (nedV xs) w) := by
  have H := hide h
  by_cases he : errW xs = 0
  · have HE := hide he
    have hV := errW_vw.1 he
    have HV := hide hV
    have HG := hide (nedV_ok he)
    have hl := h.length
    have hn1 : 1 ≤ n := by rw [← hl]; exact hV.1
    have hn4 : n ≤ 4 := by rw [← hl]; exact hV.2.1
    have HL := hide hl
    have H1 := hide (ndTo_one hV)
    obtain ⟨b, off, hr⟩ := h
    obtain rfl := hr.at_ (by omega)
    have hbl := hr.lt (by omega)
    have hcap := hr.cap
    have hmax := hr.max
    have HRR := hide hr
    clear he hV hr hl
    go_enter Try.func47, Try.ntmps47
    go_wp2_with (go_at_call 26; refine (rValidate_any _ _ _ xs _ H.out).mono ?_; rintro e w1 ⟨rfl, q1, rfl⟩; rw [HE.out])
    go_loopw [5, 6] (fun v i wr => ∃ (k : Nat) (B : Option Addr) (m q : Nat), 1 ≤ k ∧ k ≤ n ∧ i = .int .i64 k ∧ v = .slice B m q ∧ Hid (Own E1 wr w.heap.size 3 B m q (ndTo xs k)) ∧ Hid (m ≤ k) ∧ Hid (Below w.heap.size w wr)) (fun _ i _ => n - (intOf i).toNat)
    case atStart => exact ⟨1, none, 0, 0, Nat.le_refl _, hn1, rfl, rfl, hide (by rw [H1.out]; exact Own.nil E1 _ _ _), hide (by omega), hide (below_drewN (Below.refl _ _) _)⟩
    case round =>
      obtain ⟨k, B, m, q, hk1, hk, rfl, rfl, HO, HM, HB⟩ := hrel
      by_cases hlt : k < n
      · have hm := HM.out
        have hx := HV.out.wt.at_ (k := k) (by rw [HL.out]; exact hlt)
        have HS := hide (ndTo_succ (xs := xs) (k := k) (by rw [HL.out]; exact hlt))
        have HT := hide (sumB_take HV.out (i := k) (by rw [HL.out]; exact hlt))
        have HC := hide (fun (wi : World) (hb : Below w.heap.size w wi) => (show wi.cell? ⟨b, off + k, none⟩ = some (.int .i64 (xs.getD k 0)) from c1 (HRR.out.under hb fun _ => hbl) hlt))
        have HPR := hide (fun (wi : World) (hb : Below w.heap.size w wi) => (show R E1 wi (some ⟨b, off, none⟩) k k (xs.take k) from (HRR.out.under hb fun _ => hbl).pre (by omega)))
        have HWK := hide (show Wt (xs.take k) from fun x hx => HV.out.wt x (List.mem_of_mem_take hx))
        generalize xs.getD k 0 = x at *
        obtain ⟨y, rfl⟩ : ∃ y : Nat, x = (y : Int) := ⟨x.toNat, by omega⟩
        have HFB := hide (fw_ge HWK.out y)
        have HFA := hide (few_at (xs.take k) y y (Nat.le_refl _))
        have HFL := hide (few_len (xs.take k) y)
        have HMU := hide (show sumB xs y = decide (fw (xs.take k) y ≠ -1) from by have := HT.out; rw [Int.toNat_natCast] at this; rw [this]; rfl)
        have hsz := HB.out.size
        have a1 := HC.out wr.drew HB.out.drew
        have hkn : (k : Int) < (n : Int) := by omega
        have hyy : y ≤ 30 := by omega
        have hkc : (k : Int) ≤ (c : Int) := by omega
        have hkc2 : k ≤ c := by omega
        have HS' : Hid (ndTo xs (k + 1) = ndTo xs k ++ (if sumB xs y = true then [(y : Int)] else [])) := hide (by rw [HS.out]; rfl)
        clear HS HT
        go_wp2_with fail
        go_region_with (go_at_call 65; refine (few_any _ k k (xs.take k) y _ (HPR.out _ HB.out.drew) HWK.out (by omega)).mono ?_; rintro e w2 ⟨Af, nf, cf, rfl, o2, b2⟩; obtain rfl : nf = y + 1 := (by rw [← o2.len, HFL.out]); obtain ⟨g2, rfl, hg1, hg2, hg3, hg4⟩ := o2.addr (by omega); have hg5 : cf ≤ 9223372036854775807 := hg4; clear hg4 hg1; have r1 := own1 o2 (k := y) (by omega); have HGD := hide (getD_any (l := few (xs.take k) y) (k := y) (by rw [HFL.out]; omega) 0 (-1)); rw [HGD.out, HFA.out] at r1; have B2 := hide (HB.out.drew.trans (b2.mono hsz)); have a2 := HC.out w2 B2.out; have HO2 := hide (HO.out.drew.below b2 (Nat.le_refl _)); have hs2 : w.heap.size ≤ w2.heap.size := B2.out.size; clear o2 b2)
        all_goals
          have hvb := HFB.out
          clear a1 a2 r1
          generalize fw (xs.take k) y = v at *
          by_cases hvn : 0 ≤ v
          · have HP := hide (show sumB xs y = true from by rw [HMU.out]; simp; omega)
            have a2 := HC.out w2 B2.out
            go_wp2_with (at_builtin; refine wpList_app1 (E := E1) w2 (.int .i64 0) 8 rfl (.tmp 34) (.tmp 39) 22 3 rfl Try.underlying22 info_int rfl (by decide) (by omega) w.heap.size m q B _ (y : Int) _ rfl rfl rfl HO2.out (by omega) hs2 ?_; intro A5 c5 w5 o5 b5 g5; have HO5 := hide o5; have B5 := hide (B2.out.trans b5); clear o5 b5 g5)
            go_roundw
            case rel => exact ⟨k + 1, A5, m + 1, c5, by omega, by omega, by go_num, rfl, hide (by rw [HS'.out, HP.out]; exact HO5.out), hide (by omega), B5⟩
            case measure => simp [intOf]; omega
          · have HP := hide (show sumB xs y = false from by rw [HMU.out]; simp; omega)
            go_wp2_with fail
            go_roundw
            case rel => exact ⟨k + 1, B, m, q, by omega, by omega, by go_num, rfl, hide (by rw [HS'.out, HP.out]; simpa using HO2.out), hide (by omega), B2⟩
            case measure => simp [intOf]; omega
      · obtain rfl : k = n := by omega
        have HE2 := hide (show ndTo xs k = nedV xs from by rw [HG.out, ← ndTo_all, HL.out])
        go_wp2_with fail
        go_ret2
        exact ⟨_, _, _, by rw [HE.out]; rfl, by rw [← HE2.out]; exact HO.out, HB.out⟩
  · have HG := hide (nedV_no he)
    have hne : (errW xs != 0) = true := by simpa using he
    clear he h
    go_enter Try.func47, Try.ntmps47
    go_wp2_with (go_at_call 26; refine (rValidate_any _ _ _ xs _ H.out).mono ?_; rintro e w1 ⟨rfl, q1, rfl⟩)
    go_ret2
    exact ⟨none, 0, 0, rfl, by rw [HG.out]; exact Own.nil _ _ _ _, below_drewN (Below.refl _ _) _⟩
def rdTo (xs : List Int) (k : Nat) : List Int := (xs.take k).filter fun x => !sumB xs x.toNat
theorem rdTo_succ {xs : List Int} {k : Nat} (h : k < xs.length) : rdTo xs (k + 1) = rdTo xs k ++ (if sumB xs (xs.getD k 0).toNat = true then [] else [xs.getD k 0]) := by
  unfold rdTo
  rw [take_snocI h, List.filter_append]
  congr 1
  generalize xs.getD k 0 = x
  cases hh : sumB xs x.toNat <;> simp [hh]
theorem rdTo_all (xs : List Int) : rdTo xs xs.length = redV xs := by unfold rdTo redV; rw [List.take_length]
theorem has_ndl {xs : List Int} {k : Nat} (hk : k < xs.length) : hasB (ndlV xs) (xs.getD k 0) = sumB xs (xs.getD k 0).toNat := by
  have hx : xs.getD k 0 ∈ xs := by rw [List.getD_eq_getElem?_getD, List.getElem?_eq_getElem hk]; exact List.getElem_mem _
  unfold hasB ndlV
  rw [Bool.eq_iff_iff, List.contains_iff_mem, List.mem_filter]
  exact ⟨fun h => h.2, fun h => ⟨hx, h⟩⟩
set_option maxRecDepth 100000 in
set_option maxHeartbeats 2000000 in
theorem rReduce_any (A : Option Addr) (n c : Nat) (xs : List Int) (w : World) (h : R E1 w A n c xs) :
    Calls Try.prog 49 #[.slice A n c] w (RowPost (errW xs) (redW xs) w) := by
  have H := hide h
  by_cases he : errW xs = 0
  · have HE := hide he
    have hV := errW_vw.1 he
    have HV := hide hV
    have HG := hide (redW_ok he)
    have HN := hide (nedV_ok he)
    have hl := h.length
    have hn4 : n ≤ 4 := by rw [← hl]; exact hV.2.1
    have HL := hide hl
    have hle := h.le
    have HRR := hide h
    clear he hV hl
    go_enter Try.func49, Try.ntmps49
    go_wp2_with (go_at_call 47; refine (rNeedless_any _ _ _ xs _ H.out).mono ?_; rw [HE.out, HN.out]; rintro e w1 ⟨A1, n1, c1', rfl, o1, b1⟩; have O1 := hide o1; have B1 := hide b1; clear o1 b1)
    go_loopw [6, 7] (fun v i wr => ∃ (k : Nat) (B : Option Addr) (m q : Nat), k ≤ n ∧ i = .int .i64 k ∧ v = .slice B m q ∧ Hid (Own E1 wr w1.heap.size 3 B m q (rdTo xs k)) ∧ Hid (m ≤ k) ∧ Hid (Below w1.heap.size w1 wr)) (fun _ i _ => n - (intOf i).toNat)
    case atStart => exact ⟨0, none, 0, 0, Nat.zero_le _, rfl, rfl, hide (Own.nil E1 _ _ _), hide (by omega), hide (Below.refl _ _)⟩
    case round =>
      obtain ⟨k, B, m, q, hk, rfl, rfl, HO, HM, HB⟩ := hrel
      by_cases hlt : k < n
      · have hm := HM.out
        obtain ⟨b, off, hr⟩ := HRR.out
        obtain rfl := hr.at_ (by omega)
        have a1 := c1 (hr.below (B1.out.trans (HB.out.mono B1.out.size)) (Nat.le_refl _)) hlt
        clear hr
        have HS := hide (rdTo_succ (xs := xs) (k := k) (by rw [HL.out]; exact hlt))
        have HT := hide (has_ndl (xs := xs) (k := k) (by rw [HL.out]; exact hlt))
        have hsz := HB.out.size
        generalize xs.getD k 0 = x at *
        cases hs : sumB xs x.toNat with
        | true =>
          have HP := hide hs
          clear hs
          go_wp2_with (go_at_call 41; refine (Has_any A1 n1 c1' (ndlV xs) x _ (O1.out.row.below HB.out (Nat.le_refl _))).mono ?_; rw [HT.out, HP.out]; rintro e w' ⟨rfl, rfl⟩)
          go_roundw
          case rel => exact ⟨k + 1, B, m, q, by omega, by go_num, rfl, hide (by rw [HS.out, HP.out]; simpa using HO.out), hide (by omega), HB⟩
          case measure => simp [intOf]; omega
        | false =>
          have HP := hide hs
          clear hs
          go_wp2_with (first
            | (go_at_call 41; refine (Has_any A1 n1 c1' (ndlV xs) x _ (O1.out.row.below HB.out (Nat.le_refl _))).mono ?_; rw [HT.out, HP.out]; rintro e w' ⟨rfl, rfl⟩)
            | (at_builtin; refine wpList_app1 (E := E1) _ (.int .i64 0) 8 rfl (.tmp 29) (.tmp 34) 22 3 rfl Try.underlying22 info_int rfl (by decide) (by omega) w1.heap.size m q B _ x _ rfl rfl rfl HO.out (by omega) hsz ?_; intro A5 c5 w5 o5 b5 g5; have HO5 := hide o5; have B5 := hide (HB.out.trans b5); clear o5 b5 g5))
          go_roundw
          case rel => exact ⟨k + 1, A5, m + 1, c5, by omega, by go_num, rfl, hide (by rw [HS.out, HP.out]; exact HO5.out), hide (by omega), B5⟩
          case measure => simp [intOf]; omega
      · obtain rfl : k = n := by omega
        have HE2 := hide (show rdTo xs k = redW xs from by rw [HG.out, ← rdTo_all, HL.out])
        go_wp2_with fail
        go_ret2
        exact ⟨_, _, _, by rw [HE.out]; rfl, by rw [← HE2.out]; exact HO.out.more B1.out.size, B1.out.trans (HB.out.mono B1.out.size)⟩
  · have HG := hide (redW_no he)
    have HN := hide (nedV_no he)
    have hne : (errW xs != 0) = true := by simpa using he
    clear he h
    go_enter Try.func49, Try.ntmps49
    go_wp2_with (go_at_call 47; refine (rNeedless_any _ _ _ xs _ H.out).mono ?_; rintro e w1 ⟨A1, n1, c1', rfl, o1, b1⟩; have B1 := hide b1; clear o1 b1)
    go_ret2
    exact ⟨none, 0, 0, rfl, by rw [HG.out]; exact Own.nil _ _ _ _, B1.out⟩
end Go.Proofs.Ytlhlcchimammlaa
