/- The first place for which the answer is yes; sums of smaller weights. -/
import Derived.Test.YtlhlcchimammlaaWalkI
namespace Go.Proofs.Ytlhlcchimammlaa
open Go.RowKit Go.Shelf

def idI (p : Nat → Bool) (n : Nat) : Int := match (List.range n).find? p with
  | some k => (k : Int)
  | none => -1
theorem idI_hit {p : Nat → Bool} {n k : Nat} (hk : k < n) (hp : p k = true) (hq : ∀ j, j < k → p j = false) : idI p n = (k : Int) := by
  have : (List.range n).find? p = some k := by
    rw [List.find?_range_eq_some]
    exact ⟨hp, List.mem_range.2 hk, fun j hj => by simp [hq j hj]⟩
  unfold idI
  rw [this]
theorem idI_none {p : Nat → Bool} {n : Nat} (hq : ∀ j, j < n → p j = false) : idI p n = -1 := by
  have : (List.range n).find? p = none := by
    rw [List.find?_eq_none]
    intro j hj
    simp [hq j (List.mem_range.1 hj)]
  unfold idI
  rw [this]
/-- The answer is yes for some place. -/
def anI (p : Nat → Bool) (n : Nat) : Bool := (List.range n).any p
theorem idI_any (p : Nat → Bool) (n : Nat) : decide (0 ≤ idI p n) = anI p n := by
  unfold anI idI
  cases h : (List.range n).find? p with
  | some k =>
    have h1 := find_least h
    have : (List.range n).any p = true := List.any_eq_true.2 ⟨k, List.mem_range.2 h1.2.1, h1.1⟩
    rw [this]
    simp
  | none =>
    rw [List.find?_eq_none] at h
    have : (List.range n).any p = false := List.any_eq_false.2 h
    rw [this]
    rfl
theorem anI_list {xs : List Int} {n : Nat} (hl : xs.length = n) (q : Int → Bool) : anI (fun k => q (xs.getD k 0)) n = xs.any q := by
  unfold anI
  rw [Bool.eq_iff_iff, List.any_eq_true, List.any_eq_true]
  constructor
  · rintro ⟨k, hk, h⟩
    have hk := List.mem_range.1 hk
    refine ⟨xs.getD k 0, ?_, h⟩
    rw [List.getD_eq_getElem?_getD, List.getElem?_eq_getElem (by omega)]
    exact List.getElem_mem _
  · rintro ⟨x, hx, h⟩
    obtain ⟨k, hk, e⟩ := List.getElem_of_mem hx
    refine ⟨k, List.mem_range.2 (by omega), ?_⟩
    rw [List.getD_eq_getElem?_getD, List.getElem?_eq_getElem hk, Option.getD_some, e]
    exact h
theorem anI_congr {p q : Nat → Bool} {n : Nat} (h : ∀ k, k < n → p k = q k) : anI p n = anI q n := by
  unfold anI
  rw [Bool.eq_iff_iff, List.any_eq_true, List.any_eq_true]
  constructor
  · rintro ⟨k, hk, e⟩; exact ⟨k, hk, by rw [← h k (List.mem_range.1 hk)]; exact e⟩
  · rintro ⟨k, hk, e⟩; exact ⟨k, hk, by rw [h k (List.mem_range.1 hk)]; exact e⟩
set_option maxHeartbeats 1000000 in
theorem idxGap_any (g : Value) (A : Option Addr) (n c : Nat) (xs : List Int) (p : Nat → Bool) (w : World) (h : R E1 w A n c xs)
    (hc : ∀ (k : Nat) (wr : World), k < n → Below w.heap.size w wr → Calls Try.prog 63 #[g, .int .i64 (xs.getD k 0)] wr fun e w' => e = .returned (.bool (p k)) ∧ Below wr.heap.size wr w') :
    Calls Try.prog 81 #[.slice A n c, .func (.func 63) #[g] #[]] w fun e w' => e = .returned (.int .i64 (idI p n)) ∧ Below w.heap.size w w' := by
  have hle := h.le
  have HC := hide hc
  have HX := hide h
  clear hc h
  go_enter Try.func81, Try.ntmps81
  go_wp2_with fail
  go_loopw [8] (fun i wr => ∃ k : Nat, k ≤ n ∧ i = .int .i64 k ∧ Hid (∀ j, j < k → p j = false) ∧ Hid (Below w.heap.size w wr)) (fun i _ => n - (intOf i).toNat)
  case atStart => exact ⟨0, Nat.zero_le _, rfl, hide (fun j hj => absurd hj (Nat.not_lt_zero j)), hide (Below.refl _ _)⟩
  case round =>
    obtain ⟨k, hk, rfl, HS, HB⟩ := hrel
    by_cases hlt : k < n
    · have HCK := hide (HC.out k wr hlt HB.out)
      obtain ⟨b, off, hr⟩ := HX.out
      obtain rfl := hr.at_ (by omega)
      have a1 := c1 (hr.below HB.out (Nat.le_refl _)) hlt
      clear hr
      generalize xs.getD k 0 = x at *
      cases hp : p k with
      | true =>
        have HP := hide hp
        have HI := hide (idI_hit hlt hp HS.out)
        clear hp
        go_wp2_with (go_at_call 63; refine HCK.out.mono ?_; rw [HP.out]; rintro e w1 ⟨rfl, b1⟩; have B1 := hide (HB.out.trans (b1.mono HB.out.size)); clear b1)
        go_ret
        exact ⟨ret_i64 HI.out.symm, B1.out⟩
      | false =>
        have HP := hide hp
        clear hp
        go_wp2_with (go_at_call 63; refine HCK.out.mono ?_; rw [HP.out]; rintro e w1 ⟨rfl, b1⟩; have B1 := hide (HB.out.trans (b1.mono HB.out.size)); clear b1)
        go_roundw
        case rel => exact ⟨k + 1, by omega, by go_num, hide (fun j hj => by
          by_cases e : j = k
          · subst e; exact HP.out
          · exact HS.out j (by omega)), B1⟩
        case measure => simp [intOf]; omega
    · obtain rfl : k = n := by omega
      have HI := hide (idI_none HS.out)
      go_wp2_with fail
      go_ret
      exact ⟨ret_i64 HI.out.symm, HB.out⟩
set_option maxHeartbeats 1000000 in
theorem idxSum_any (p1 p2 : Value) (A : Option Addr) (n c : Nat) (xs : List Int) (p : Nat → Bool) (w : World) (h : R E1 w A n c xs)
    (hc : ∀ (k : Nat) (wr : World), k < n → Below w.heap.size w wr → Calls Try.prog 90 #[.int .i64 (xs.getD k 0), p1, p2] wr fun e w' => e = .returned (.bool (p k)) ∧ Below wr.heap.size wr w') :
    Calls Try.prog 81 #[.slice A n c, .func (.func 90) #[] #[p1, p2]] w fun e w' => e = .returned (.int .i64 (idI p n)) ∧ Below w.heap.size w w' := by
  have hle := h.le
  have HC := hide hc
  have HX := hide h
  clear hc h
  go_enter Try.func81, Try.ntmps81
  go_wp2_with fail
  go_loopw [8] (fun i wr => ∃ k : Nat, k ≤ n ∧ i = .int .i64 k ∧ Hid (∀ j, j < k → p j = false) ∧ Hid (Below w.heap.size w wr)) (fun i _ => n - (intOf i).toNat)
  case atStart => exact ⟨0, Nat.zero_le _, rfl, hide (fun j hj => absurd hj (Nat.not_lt_zero j)), hide (Below.refl _ _)⟩
  case round =>
    obtain ⟨k, hk, rfl, HS, HB⟩ := hrel
    by_cases hlt : k < n
    · have HCK := hide (HC.out k wr hlt HB.out)
      obtain ⟨b, off, hr⟩ := HX.out
      obtain rfl := hr.at_ (by omega)
      have a1 := c1 (hr.below HB.out (Nat.le_refl _)) hlt
      clear hr
      generalize xs.getD k 0 = x at *
      cases hp : p k with
      | true =>
        have HP := hide hp
        have HI := hide (idI_hit hlt hp HS.out)
        clear hp
        go_wp2_with (go_at_call 90; refine HCK.out.mono ?_; rw [HP.out]; rintro e w1 ⟨rfl, b1⟩; have B1 := hide (HB.out.trans (b1.mono HB.out.size)); clear b1)
        go_ret
        exact ⟨ret_i64 HI.out.symm, B1.out⟩
      | false =>
        have HP := hide hp
        clear hp
        go_wp2_with (go_at_call 90; refine HCK.out.mono ?_; rw [HP.out]; rintro e w1 ⟨rfl, b1⟩; have B1 := hide (HB.out.trans (b1.mono HB.out.size)); clear b1)
        go_roundw
        case rel => exact ⟨k + 1, by omega, by go_num, hide (fun j hj => by
          by_cases e : j = k
          · subst e; exact HP.out
          · exact HS.out j (by omega)), B1⟩
        case measure => simp [intOf]; omega
    · obtain rfl : k = n := by omega
      have HI := hide (idI_none HS.out)
      go_wp2_with fail
      go_ret
      exact ⟨ret_i64 HI.out.symm, HB.out⟩
set_option maxHeartbeats 1000000 in
theorem idxLast_any (p1 p2 : Value) (A : Option Addr) (n c : Nat) (xs : List Int) (p : Nat → Bool) (w : World) (h : R E1 w A n c xs)
    (hc : ∀ (k : Nat) (wr : World), k < n → Below w.heap.size w wr → Calls Try.prog 82 #[.int .i64 (xs.getD k 0), p1, p2] wr fun e w' => e = .returned (.bool (p k)) ∧ Below wr.heap.size wr w') :
    Calls Try.prog 81 #[.slice A n c, .func (.func 82) #[] #[p1, p2]] w fun e w' => e = .returned (.int .i64 (idI p n)) ∧ Below w.heap.size w w' := by
  have hle := h.le
  have HC := hide hc
  have HX := hide h
  clear hc h
  go_enter Try.func81, Try.ntmps81
  go_wp2_with fail
  go_loopw [8] (fun i wr => ∃ k : Nat, k ≤ n ∧ i = .int .i64 k ∧ Hid (∀ j, j < k → p j = false) ∧ Hid (Below w.heap.size w wr)) (fun i _ => n - (intOf i).toNat)
  case atStart => exact ⟨0, Nat.zero_le _, rfl, hide (fun j hj => absurd hj (Nat.not_lt_zero j)), hide (Below.refl _ _)⟩
  case round =>
    obtain ⟨k, hk, rfl, HS, HB⟩ := hrel
    by_cases hlt : k < n
    · have HCK := hide (HC.out k wr hlt HB.out)
      obtain ⟨b, off, hr⟩ := HX.out
      obtain rfl := hr.at_ (by omega)
      have a1 := c1 (hr.below HB.out (Nat.le_refl _)) hlt
      clear hr
      generalize xs.getD k 0 = x at *
      cases hp : p k with
      | true =>
        have HP := hide hp
        have HI := hide (idI_hit hlt hp HS.out)
        clear hp
        go_wp2_with (go_at_call 82; refine HCK.out.mono ?_; rw [HP.out]; rintro e w1 ⟨rfl, b1⟩; have B1 := hide (HB.out.trans (b1.mono HB.out.size)); clear b1)
        go_ret
        exact ⟨ret_i64 HI.out.symm, B1.out⟩
      | false =>
        have HP := hide hp
        clear hp
        go_wp2_with (go_at_call 82; refine HCK.out.mono ?_; rw [HP.out]; rintro e w1 ⟨rfl, b1⟩; have B1 := hide (HB.out.trans (b1.mono HB.out.size)); clear b1)
        go_roundw
        case rel => exact ⟨k + 1, by omega, by go_num, hide (fun j hj => by
          by_cases e : j = k
          · subst e; exact HP.out
          · exact HS.out j (by omega)), B1⟩
        case measure => simp [intOf]; omega
    · obtain rfl : k = n := by omega
      have HI := hide (idI_none HS.out)
      go_wp2_with fail
      go_ret
      exact ⟨ret_i64 HI.out.symm, HB.out⟩
set_option maxHeartbeats 1000000 in
theorem hasGap_any (g : Value) (A : Option Addr) (n c : Nat) (xs : List Int) (p : Nat → Bool) (w : World) (h : R E1 w A n c xs)
    (hc : ∀ (k : Nat) (wr : World), k < n → Below w.heap.size w wr → Calls Try.prog 63 #[g, .int .i64 (xs.getD k 0)] wr fun e w' => e = .returned (.bool (p k)) ∧ Below wr.heap.size wr w') :
    Calls Try.prog 85 #[.slice A n c, .func (.func 63) #[g] #[]] w fun e w' => e = .returned (.bool (anI p n)) ∧ Below w.heap.size w w' := by
  have HC := hide hc
  have HX := hide h
  have HI := hide (idI_any p n)
  clear hc h
  go_enter Try.func85, Try.ntmps85
  go_wp2_with (go_at_call 81; refine (idxGap_any g A n c xs p _ HX.out HC.out).mono ?_; rintro e w1 ⟨rfl, b1⟩; have B1 := hide b1; clear b1)
  go_ret
  exact ⟨ret_bool HI.out, B1.out⟩
set_option maxHeartbeats 1000000 in
theorem hasSum_any (p1 p2 : Value) (A : Option Addr) (n c : Nat) (xs : List Int) (p : Nat → Bool) (w : World) (h : R E1 w A n c xs)
    (hc : ∀ (k : Nat) (wr : World), k < n → Below w.heap.size w wr → Calls Try.prog 90 #[.int .i64 (xs.getD k 0), p1, p2] wr fun e w' => e = .returned (.bool (p k)) ∧ Below wr.heap.size wr w') :
    Calls Try.prog 85 #[.slice A n c, .func (.func 90) #[] #[p1, p2]] w fun e w' => e = .returned (.bool (anI p n)) ∧ Below w.heap.size w w' := by
  have HC := hide hc
  have HX := hide h
  have HI := hide (idI_any p n)
  clear hc h
  go_enter Try.func85, Try.ntmps85
  go_wp2_with (go_at_call 81; refine (idxSum_any p1 p2 A n c xs p _ HX.out HC.out).mono ?_; rintro e w1 ⟨rfl, b1⟩; have B1 := hide b1; clear b1)
  go_ret
  exact ⟨ret_bool HI.out, B1.out⟩
set_option maxHeartbeats 1000000 in
theorem isWeight_any (Aw : Option Addr) (nw cw : Nat) (Af : Option Addr) (nf cf : Nat) (fs : List Int) (m : Nat) (w : World) (h : R E1 w Af nf cf fs) (hm : m < nf) :
    Calls Try.prog 83 #[amV Aw nw cw Af nf cf, .int .i64 m] w fun e w' => e = .returned (.bool (fs.getD m (-1) == 1)) ∧ Below w.heap.size w w' := by
  have hle := h.le
  have HG := hide (getD_any (l := fs) (k := m) (by rw [h.length]; exact hm) (-1) 0)
  obtain ⟨b, off, hr⟩ := h
  obtain rfl := hr.at_ (by omega)
  have hbl := hr.lt (by omega)
  have hB : Below w.heap.size w (w.alloc (.cells (amC Aw nw cw (some ⟨b, off, none⟩) nf cf) 52)) := (Below.refl _ w).alloc (Nat.le_refl _) _
  have hc := c1 (hr.under hB fun _ => hbl) hm
  have HB := hide hB
  have HR := hide hr
  clear hr hB
  rw [HG.out]
  generalize fs.getD m 0 = x at *
  have hmn : (m : Int) < (nf : Int) := by omega
  go_enter Try.func83, Try.ntmps83
  go_wp2
  go_ret
  exact ⟨rfl, HB.out⟩
/-- What the closure of isSum answers. -/
def suB (fs : List Int) (m : Nat) (x : Int) : Bool := decide (x < (m : Int)) && !(fs.getD ((m : Int) - x).toNat (-1) == -1)
set_option maxHeartbeats 1000000 in
theorem isSum1_any (Aw : Option Addr) (nw cw : Nat) (Af : Option Addr) (nf cf : Nat) (fs : List Int) (m y g2 g3 : Nat) (w : World) (h : R E1 w Af nf cf fs) (hm : m < nf)
    (h2 : Bk w g2 52 (amC Aw nw cw Af nf cf)) (h3 : Bk w g3 3 #[.int .i64 m]) :
    Calls Try.prog 90 #[.int .i64 (y : Int), .pointer (some ⟨g3, 0, none⟩), .pointer (some ⟨g2, 0, none⟩)] w fun e w' => e = .returned (.bool (suB fs m y)) ∧ Below w.heap.size w w' := by
  have hle := h.le
  have HX := hide h
  have a0 := h2.at_ 0
  have a1 := h2.at_ 1
  have b0 := h3.at_ 0
  simp at a0 a1 b0
  clear h h2 h3
  by_cases hy : y < m
  · have hdy : decide (y < m) = true := by simpa using hy
    have hdz : ((m : Int) - (y : Int)) = ((m - y : Nat) : Int) := by omega
    have HV := hide (show suB fs m y = !(fs.getD (m - y) (-1) == -1) from by
      unfold suB
      rw [hdz, Int.toNat_natCast, show decide ((y : Int) < (m : Int)) = true by simpa using hy]
      rfl)
    go_enter Try.func90, Try.ntmps90
    go_wp2_with (go_at_call 62; refine (isMadeUp_any _ _ _ _ _ _ fs (m - y) _ HX.out (by omega)).mono ?_; rintro e w1 ⟨rfl, b1⟩; have B1 := hide b1; clear b1)
    go_ret
    exact ⟨ret_bool HV.out.symm, B1.out⟩
  · have hdy : decide (y < m) = false := by simpa using hy
    have HV := hide (show suB fs m y = false from by
      unfold suB
      rw [show decide ((y : Int) < (m : Int)) = false by simpa using hy]
      rfl)
    go_enter Try.func90, Try.ntmps90
    go_wp2_with fail
    go_ret
    exact ⟨ret_bool HV.out.symm, Below.refl _ _⟩
set_option maxHeartbeats 1000000 in
theorem isSum_any (Aw : Option Addr) (nw cw : Nat) (xs : List Int) (Af : Option Addr) (nf cf : Nat) (fs : List Int) (m : Nat) (w : World) (hx : R E1 w Aw nw cw xs) (h : R E1 w Af nf cf fs) (hm : m < nf) (hw : Wt xs) :
    Calls Try.prog 84 #[amV Aw nw cw Af nf cf, .int .i64 m] w fun e w' => e = .returned (.bool (xs.any (suB fs m))) ∧ Below w.heap.size w w' := by
  have HX := hide hx
  have HF := hide h
  have HW := hide hw
  have HL := hide hx.length
  have HAN := hide (anI_list hx.length (suB fs m))
  have HB1 := hide (((Below.refl w.heap.size w).alloc (Nat.le_refl _) (.cells (amC Aw nw cw Af nf cf) 52)).alloc (by simp) (.cells #[.int .i64 m] 3))
  have hk1 := (Bk.born w 52 (amC Aw nw cw Af nf cf)).more (.cells #[.int .i64 m] 3)
  have hk2 : Bk ((w.alloc (.cells (amC Aw nw cw Af nf cf) 52)).alloc (.cells #[.int .i64 m] 3)) (w.heap.size + 1) 3 #[.int .i64 m] := by
    have := Bk.born (w.alloc (.cells (amC Aw nw cw Af nf cf) 52)) 3 #[.int .i64 m]
    simpa using this
  have a0 := hk1.at_ 0
  have a1 := hk1.at_ 1
  simp at a0 a1
  have HK1 := hide hk1
  have HK2 := hide hk2
  clear hx h hw hk1 hk2
  go_enter Try.func84, Try.ntmps84
  go_wp2_with (go_at_call 85; refine (hasSum_any _ _ Aw nw cw xs (fun k => suB fs m (xs.getD k 0)) _ (HX.out.below HB1.out (Nat.le_refl _)) (fun k wr hk hb => by
    have hx1 := HW.out.at_ (k := k) (by rw [HL.out]; exact hk)
    have e : xs.getD k 0 = (((xs.getD k 0).toNat : Nat) : Int) := by omega
    rw [e]
    exact isSum1_any Aw nw cw Af nf cf fs m (xs.getD k 0).toNat w.heap.size (w.heap.size + 1) wr ((HF.out.below HB1.out (Nat.le_refl _)).below hb (Nat.le_refl _)) hm (HK1.out.keep hb HK1.out.in_) (HK2.out.keep hb HK2.out.in_))).mono ?_; rintro e w1 ⟨rfl, b1⟩; have B1 := hide b1; clear b1)
  go_ret
  exact ⟨ret_bool HAN.out, HB1.out.trans (B1.out.mono HB1.out.size)⟩
set_option maxHeartbeats 1000000 in
theorem isNeedless_any (Aw : Option Addr) (nw cw : Nat) (xs : List Int) (Af : Option Addr) (nf cf : Nat) (fs : List Int) (m : Nat) (w : World) (hx : R E1 w Aw nw cw xs) (h : R E1 w Af nf cf fs) (hm : m < nf) (hw : Wt xs) :
    Calls Try.prog 73 #[amV Aw nw cw Af nf cf, .int .i64 m] w fun e w' => e = .returned (.bool ((fs.getD m (-1) == 1) && (xs.any (suB fs m)))) ∧ Below w.heap.size w w' := by
  have HX := hide hx
  have HF := hide h
  have HW := hide hw
  have HB := hide ((Below.refl w.heap.size w).alloc (Nat.le_refl _) (.cells (amC Aw nw cw Af nf cf) 52))
  have hk1 := Bk.born w 52 (amC Aw nw cw Af nf cf)
  have a0 := hk1.at_ 0
  have a1 := hk1.at_ 1
  simp at a0 a1
  have HK1 := hide hk1
  clear hx h hw hk1
  cases h1 : (fs.getD m (-1) == 1) with
  | true =>
    have H1 := hide h1
    clear h1
    go_enter Try.func73, Try.ntmps73
    go_wp2_with (first
      | (go_at_call 83; refine (isWeight_any Aw nw cw Af nf cf fs m _ (HF.out.below HB.out (Nat.le_refl _)) hm).mono ?_; rw [H1.out]; rintro e w1 ⟨rfl, b1⟩; have k1 := HK1.out.keep b1 HK1.out.in_; have q0 := k1.at_ 0; have q1 := k1.at_ 1; simp at q0 q1; have B1 := hide b1; clear b1 k1)
      | (go_at_call 84; refine (isSum_any Aw nw cw xs Af nf cf fs m _ ((HX.out.below HB.out (Nat.le_refl _)).below B1.out (Nat.le_refl _)) ((HF.out.below HB.out (Nat.le_refl _)).below B1.out (Nat.le_refl _)) hm HW.out).mono ?_; rintro e w2 ⟨rfl, b2⟩; have B2 := hide b2; clear b2))
    go_ret
    exact ⟨ret_bool (by simp), HB.out.trans ((B1.out.trans (B2.out.mono B1.out.size)).mono HB.out.size)⟩
  | false =>
    have H1 := hide h1
    clear h1
    go_enter Try.func73, Try.ntmps73
    go_wp2_with (go_at_call 83; refine (isWeight_any Aw nw cw Af nf cf fs m _ (HF.out.below HB.out (Nat.le_refl _)) hm).mono ?_; rw [H1.out]; rintro e w1 ⟨rfl, b1⟩; have B1 := hide b1; clear b1)
    go_ret
    exact ⟨ret_bool (by simp), HB.out.trans (B1.out.mono HB.out.size)⟩
set_option maxHeartbeats 1000000 in
theorem isNeeded_any (Aw : Option Addr) (nw cw : Nat) (xs : List Int) (Af : Option Addr) (nf cf : Nat) (fs : List Int) (m : Nat) (w : World) (hx : R E1 w Aw nw cw xs) (h : R E1 w Af nf cf fs) (hm : m < nf) (hw : Wt xs) :
    Calls Try.prog 74 #[amV Aw nw cw Af nf cf, .int .i64 m] w fun e w' => e = .returned (.bool ((fs.getD m (-1) == 1) && !(xs.any (suB fs m)))) ∧ Below w.heap.size w w' := by
  have HX := hide hx
  have HF := hide h
  have HW := hide hw
  have HB := hide ((Below.refl w.heap.size w).alloc (Nat.le_refl _) (.cells (amC Aw nw cw Af nf cf) 52))
  have hk1 := Bk.born w 52 (amC Aw nw cw Af nf cf)
  have a0 := hk1.at_ 0
  have a1 := hk1.at_ 1
  simp at a0 a1
  have HK1 := hide hk1
  clear hx h hw hk1
  cases h1 : (fs.getD m (-1) == 1) with
  | true =>
    have H1 := hide h1
    clear h1
    go_enter Try.func74, Try.ntmps74
    go_wp2_with (first
      | (go_at_call 83; refine (isWeight_any Aw nw cw Af nf cf fs m _ (HF.out.below HB.out (Nat.le_refl _)) hm).mono ?_; rw [H1.out]; rintro e w1 ⟨rfl, b1⟩; have k1 := HK1.out.keep b1 HK1.out.in_; have q0 := k1.at_ 0; have q1 := k1.at_ 1; simp at q0 q1; have B1 := hide b1; clear b1 k1)
      | (go_at_call 84; refine (isSum_any Aw nw cw xs Af nf cf fs m _ ((HX.out.below HB.out (Nat.le_refl _)).below B1.out (Nat.le_refl _)) ((HF.out.below HB.out (Nat.le_refl _)).below B1.out (Nat.le_refl _)) hm HW.out).mono ?_; rintro e w2 ⟨rfl, b2⟩; have B2 := hide b2; clear b2))
    go_ret
    exact ⟨ret_bool (by simp), HB.out.trans ((B1.out.trans (B2.out.mono B1.out.size)).mono HB.out.size)⟩
  | false =>
    have H1 := hide h1
    clear h1
    go_enter Try.func74, Try.ntmps74
    go_wp2_with (go_at_call 83; refine (isWeight_any Aw nw cw Af nf cf fs m _ (HF.out.below HB.out (Nat.le_refl _)) hm).mono ?_; rw [H1.out]; rintro e w1 ⟨rfl, b1⟩; have B1 := hide b1; clear b1)
    go_ret
    exact ⟨ret_bool (by simp), HB.out.trans (B1.out.mono HB.out.size)⟩
end Go.Proofs.Ytlhlcchimammlaa
