/- Contracts of the program's Normal, Mirror, Same, Alike, CheckCliffs. -/
import Derived.Test.YtllfkhcpdgdmnaaWkSums
namespace Go.Proofs.Ytllfkhcpdgdmnaa
open Go.RowKit

/-- The cliffs from 0 on. -/
def sh0 (c : List Int) : List Int := c.map fun x => x - gi c 0
theorem sh0_len (c : List Int) : (sh0 c).length = c.length := by simp [sh0]
/-- The normal form. -/
def norF (c : List Int) : List Int := if norB (sh0 c) then sh0 c else mir (sh0 c)
theorem norF_len (c : List Int) : (norF c).length = c.length := by
  unfold norF
  split
  · exact sh0_len c
  · rw [mir_len, sh0_len]
theorem bd_of {xs : List Int} {n : Nat} (h : OkTo xs n) (k : Nat) (hk : k < n) : -1000 ≤ xs.getD k 0 ∧ xs.getD k 0 ≤ 1000 := by
  have := okTo_bd h hk
  omega
theorem map_getD {f : Int → Int} {xs : List Int} {k : Nat} (hk : k < xs.length) : (xs.map f).getD k 0 = f (xs.getD k 0) := by
  simp [List.getD_eq_getElem?_getD, hk]
theorem sh0_eq {xs : List Int} (h : OkTo xs xs.length) : xs.map (addW (-(gi xs 0))) = sh0 xs := by
  unfold sh0
  apply List.map_congr_left
  intro x hx
  obtain ⟨k, hk, e⟩ := List.getElem_of_mem hx
  have h1 := okTo_bd h hk
  have h0 := okTo_bd h (i := 0) (by omega)
  have e1 : xs.getD k 0 = x := by rw [List.getD_eq_getElem?_getD, List.getElem?_eq_getElem hk]; exact e
  unfold addW gi
  rw [e1] at h1
  have : x + -xs.getD 0 0 = x - xs.getD 0 0 := by omega
  rw [this]
  unfold wrap64
  omega
theorem sh0_bd {xs : List Int} (h : OkTo xs xs.length) (k : Nat) (hk : k < xs.length) : -1000 ≤ (sh0 xs).getD k 0 ∧ (sh0 xs).getD k 0 ≤ 1000 := by
  unfold sh0
  rw [map_getD hk]
  have h1 := okTo_bd h hk
  have h0 := okTo_bd h (i := 0) (by omega)
  unfold gi
  omega
set_option maxRecDepth 100000 in
set_option maxHeartbeats 2000000 in
theorem normal_any (A : Option Addr) (n c : Nat) (xs : List Int) (w : World) (h : R E1 w A n c xs) (hn1 : 1 ≤ n) (hn : n ≤ 6) (hv : OkTo xs n) :
    Calls Try.prog 63 #[.slice A n c] w (IntsPost (norF xs) w) := by
  have HX := hide h
  have HL := hide h.length
  obtain ⟨b, off, hr⟩ := h
  obtain rfl := hr.at_ (by omega)
  have hbl := hr.lt (by omega)
  have a0 := c1 hr (k := 0) (by omega)
  rw [Nat.add_zero] at a0
  have hx0 := okTo_bd hv (i := 0) (by omega)
  have hcap := hr.cap
  have hmax := hr.max
  have hvv : OkTo xs xs.length := by rw [HL.out]; exact hv
  have HSE := hide (sh0_eq hvv)
  have HSB := hide (sh0_bd hvv)
  have HG := hide (show gi xs 0 = xs.getD 0 0 from rfl)
  clear hr hvv hv
  generalize xs.getD 0 0 = x0 at a0 hx0 HG
  have hng : IntKind.i64.wrap (-x0) = -x0 := IntWalk.i64_in _ (by omega)
  have i0 : (0 : Int) < (n : Int) := by omega
  cases hnb : norB (sh0 xs) with
  | true =>
    have HN := hide hnb
    have HF := hide (show norF xs = sh0 xs from by unfold norF; rw [hnb]; rfl)
    clear hnb
    go_enter Try.func63, Try.ntmps63
    go_wp2_with (first
      | (go_at_call 91; refine (shift_any _ n c xs (-x0) _ HX.out (by omega)).mono ?_; rintro e w1 ⟨A1, n1, c1', rfl, o1, b1⟩; rw [← HG.out, HSE.out] at o1; obtain rfl : n1 = n := (by rw [← o1.len, sh0_len, HL.out]); have HO := hide o1; have D1 := hide b1; clear o1 b1)
      | (go_at_call 76; refine (isNormal_any _ _ _ (sh0 xs) _ HO.out.row hn1 (by omega) (fun k hk => HSB.out k (by rw [HL.out]; exact hk))).mono ?_; rintro e w2 ⟨rfl, b2⟩; rw [HN.out]; have D2 := hide b2; clear b2))
    go_ret
    exact ⟨A1, _, c1', rfl, by rw [HF.out]; exact HO.out.below D2.out (Nat.le_refl _), le_call D1.out D2.out⟩
  | false =>
    have HN := hide hnb
    have HF := hide (show norF xs = mir (sh0 xs) from by unfold norF; rw [hnb]; rfl)
    clear hnb
    go_enter Try.func63, Try.ntmps63
    go_wp2_with (first
      | (go_at_call 91; refine (shift_any _ n c xs (-x0) _ HX.out (by omega)).mono ?_; rintro e w1 ⟨A1, n1, c1', rfl, o1, b1⟩; rw [← HG.out, HSE.out] at o1; obtain rfl : n1 = n := (by rw [← o1.len, sh0_len, HL.out]); have HO := hide o1; have D1 := hide b1; clear o1 b1)
      | (go_at_call 76; refine (isNormal_any _ _ _ (sh0 xs) _ HO.out.row hn1 (by omega) (fun k hk => HSB.out k (by rw [HL.out]; exact hk))).mono ?_; rintro e w2 ⟨rfl, b2⟩; rw [HN.out]; have D2 := hide b2; clear b2)
      | (go_at_call 68; refine (mirror_any _ _ _ (sh0 xs) _ (HO.out.row.below D2.out (Nat.le_refl _)) hn1 (by omega) (fun k hk => HSB.out k (by rw [HL.out]; exact hk))).mono ?_; rintro e w3 ⟨A3, n3, c3, rfl, o3, b3⟩; have HO3 := hide o3; have D3 := hide b3; clear o3 b3))
    go_ret
    exact ⟨A3, _, c3, rfl, by rw [HF.out]; exact HO3.out.more (le_call D1.out D2.out).size, le_call (le_call D1.out D2.out) D3.out⟩

def mirV (xs : List Int) : List Int := if errC xs = 0 then mir xs else []
theorem mirV_ok {xs : List Int} (h : errC xs = 0) : mirV xs = mir xs := if_pos h
theorem mirV_no {xs : List Int} (h : errC xs ≠ 0) : mirV xs = [] := if_neg h
def norV (xs : List Int) : List Int := if errC xs = 0 then norF xs else []
theorem norV_ok {xs : List Int} (h : errC xs = 0) : norV xs = norF xs := if_pos h
theorem norV_no {xs : List Int} (h : errC xs ≠ 0) : norV xs = [] := if_neg h
def samV (xs ys : List Int) : Bool := if errB xs ys = 0 then sortZ (dif xs) == sortZ (dif ys) else false
theorem samV_ok {xs ys : List Int} (h : errB xs ys = 0) : samV xs ys = (sortZ (dif xs) == sortZ (dif ys)) := if_pos h
theorem samV_no {xs ys : List Int} (h : errB xs ys ≠ 0) : samV xs ys = false := if_neg h
def alkV (xs ys : List Int) : Bool := if errB xs ys = 0 then norF xs == norF ys else false
theorem alkV_ok {xs ys : List Int} (h : errB xs ys = 0) : alkV xs ys = (norF xs == norF ys) := if_pos h
theorem alkV_no {xs ys : List Int} (h : errB xs ys ≠ 0) : alkV xs ys = false := if_neg h
set_option maxHeartbeats 1000000 in
theorem Mirror_any (A : Option Addr) (n c : Nat) (xs : List Int) (w : World) (h : R E1 w A n c xs) (hn : n ≤ 1000) :
    Calls Try.prog 33 #[.slice A n c] w (RowPost (errC xs) (mirV xs) w) := by
  have HX := hide h
  have HL := hide h.length
  clear h
  by_cases he : errC xs = 0
  · have h1 := errC_ok.1 he
    rw [HL.out] at h1
    have HE := hide he
    have HV := hide h1.2.2.1
    have hn6 := h1.2.1
    have hn1 := h1.1
    have HD := hide (mirV_ok he)
    clear h1 he
    go_enter Try.func33, Try.ntmps33
    go_wp2_with (first
      | (go_at_call 24; refine (Validate_any _ _ _ xs _ HX.out (by omega)).mono ?_; rintro e w1 ⟨rfl, b1⟩; rw [HE.out]; have B1 := hide b1; clear b1)
      | (go_at_call 68; refine (mirror_any _ _ _ xs _ (HX.out.below B1.out (Nat.le_refl _)) hn1 (by omega) (fun k hk => bd_of HV.out k hk)).mono ?_; rintro e w2 ⟨A2, n2, c2, rfl, o2, b2⟩))
    go_ret2
    exact ⟨A2, n2, c2, by rw [HE.out]; rfl, by rw [HD.out]; exact o2.more B1.out.size, B1.out.trans (b2.mono B1.out.size)⟩
  · have HE := hide he
    have hne : (errC xs != 0) = true := by simpa using he
    have HD := hide (mirV_no he)
    clear he
    go_enter Try.func33, Try.ntmps33
    go_wp2_with (go_at_call 24; refine (Validate_any _ _ _ xs _ HX.out (by omega)).mono ?_; rintro e w1 ⟨rfl, b1⟩; have B1 := hide b1; clear b1)
    go_ret2
    exact ⟨none, 0, 0, rfl, by rw [HD.out]; exact Own.nil _ _ _ _, B1.out⟩
set_option maxHeartbeats 1000000 in
theorem Normal_any (A : Option Addr) (n c : Nat) (xs : List Int) (w : World) (h : R E1 w A n c xs) (hn : n ≤ 1000) :
    Calls Try.prog 27 #[.slice A n c] w (RowPost (errC xs) (norV xs) w) := by
  have HX := hide h
  have HL := hide h.length
  clear h
  by_cases he : errC xs = 0
  · have h1 := errC_ok.1 he
    rw [HL.out] at h1
    have HE := hide he
    have HV := hide h1.2.2.1
    have hn6 := h1.2.1
    have hn1 := h1.1
    have HD := hide (norV_ok he)
    clear h1 he
    go_enter Try.func27, Try.ntmps27
    go_wp2_with (first
      | (go_at_call 24; refine (Validate_any _ _ _ xs _ HX.out (by omega)).mono ?_; rintro e w1 ⟨rfl, b1⟩; rw [HE.out]; have B1 := hide b1; clear b1)
      | (go_at_call 63; refine (normal_any _ _ _ xs _ (HX.out.below B1.out (Nat.le_refl _)) hn1 hn6 HV.out).mono ?_; rintro e w2 ⟨A2, n2, c2, rfl, o2, b2⟩))
    go_ret2
    exact ⟨A2, n2, c2, by rw [HE.out]; rfl, by rw [HD.out]; exact o2.more B1.out.size, B1.out.trans (b2.mono B1.out.size)⟩
  · have HE := hide he
    have hne : (errC xs != 0) = true := by simpa using he
    have HD := hide (norV_no he)
    clear he
    go_enter Try.func27, Try.ntmps27
    go_wp2_with (go_at_call 24; refine (Validate_any _ _ _ xs _ HX.out (by omega)).mono ?_; rintro e w1 ⟨rfl, b1⟩; have B1 := hide b1; clear b1)
    go_ret2
    exact ⟨none, 0, 0, rfl, by rw [HD.out]; exact Own.nil _ _ _ _, B1.out⟩
set_option maxHeartbeats 2000000 in
theorem Same_any (A : Option Addr) (n c : Nat) (xs : List Int) (A' : Option Addr) (n' c' : Nat) (ys : List Int) (w : World) (h : R E1 w A n c xs) (h' : R E1 w A' n' c' ys) (hn : n ≤ 1000) (hn' : n' ≤ 1000) :
    Calls Try.prog 29 #[.slice A n c, .slice A' n' c'] w fun e w' => e = .returned (.tuple #[.bool (samV xs ys), .int .i64 (errB xs ys)]) ∧ Below w.heap.size w w' := by
  have HX := hide h
  have HY := hide h'
  have HL := hide h.length
  have HL' := hide h'.length
  clear h h'
  by_cases he : errB xs ys = 0
  · obtain ⟨e1, e2⟩ := errB_ok he
    have h1 := errC_ok.1 e1
    have h2 := errC_ok.1 e2
    rw [HL.out] at h1
    rw [HL'.out] at h2
    have HE := hide he
    have HV := hide h1.2.2.1
    have HV' := hide h2.2.2.1
    have hn6 := h1.2.1
    have hn1 := h1.1
    have hn6' := h2.2.1
    have hn1' := h2.1
    have HD := hide (samV_ok he)
    have HQ := hide (dif_len (xs := xs) (by rw [HL.out]; omega))
    have HQ' := hide (dif_len (xs := ys) (by rw [HL'.out]; omega))
    clear h1 h2 he e1 e2
    go_enter Try.func29, Try.ntmps29
    go_wp2_with (first
      | (go_at_call 65; refine (validateBoth_any _ _ _ xs _ _ _ ys _ HX.out HY.out (by omega) (by omega)).mono ?_; rintro e w1 ⟨rfl, b1⟩; rw [HE.out]; have D1 := hide b1; clear b1)
      | (go_at_call_of 58 (Value.slice A n c); refine (differences_any A n c xs _ (HX.out.below D1.out (Nat.le_refl _)) hn6 HV.out).mono ?_; rintro e w2 ⟨A2, n2, c2, rfl, o2, b2⟩; have HO2 := hide o2; have HN2 := hide o2.len; have D2 := hide b2; clear o2 b2)
      | (go_at_call_of 58 (Value.slice A' n' c'); refine (differences_any A' n' c' ys _ ((HY.out.below D1.out (Nat.le_refl _)).below D2.out (Nat.le_refl _)) hn6' HV'.out).mono ?_; rintro e w3 ⟨A3, n3, c3, rfl, o3, b3⟩; have HO3 := hide o3; have HN3 := hide o3.len; have D3 := hide b3; clear o3 b3)
      | (go_at_call 66; refine (Equal_any A2 n2 c2 (sortZ (dif xs)) A3 n3 c3 (sortZ (dif ys)) _ (HO2.out.row.below D3.out (Nat.le_refl _)) HO3.out.row (by have h1 := HN2.out; rw [sortZ_len] at h1; have h2 := HQ.out; omega) (by have h1 := HN3.out; rw [sortZ_len] at h1; have h2 := HQ'.out; omega)).mono ?_; rintro e w4 ⟨rfl, q4, hw4⟩; have D4 := hide (show Below w3.heap.size w3 w4 from by rw [hw4]; exact below_drewN (Below.refl _ _) q4); clear hw4))
    go_ret2
    exact ⟨by rw [HD.out, HE.out]; rfl, le_call (le_call (le_call D1.out D2.out) D3.out) D4.out⟩
  · have HE := hide he
    have hne : (errB xs ys != 0) = true := by simpa using he
    have HD := hide (samV_no he)
    clear he
    go_enter Try.func29, Try.ntmps29
    go_wp2_with (go_at_call 65; refine (validateBoth_any _ _ _ xs _ _ _ ys _ HX.out HY.out (by omega) (by omega)).mono ?_; rintro e w1 ⟨rfl, b1⟩; have D1 := hide b1; clear b1)
    go_ret2
    exact ⟨by rw [HD.out]; rfl, D1.out⟩
set_option maxHeartbeats 2000000 in
theorem Alike_any (A : Option Addr) (n c : Nat) (xs : List Int) (A' : Option Addr) (n' c' : Nat) (ys : List Int) (w : World) (h : R E1 w A n c xs) (h' : R E1 w A' n' c' ys) (hn : n ≤ 1000) (hn' : n' ≤ 1000) :
    Calls Try.prog 31 #[.slice A n c, .slice A' n' c'] w fun e w' => e = .returned (.tuple #[.bool (alkV xs ys), .int .i64 (errB xs ys)]) ∧ Below w.heap.size w w' := by
  have HX := hide h
  have HY := hide h'
  have HL := hide h.length
  have HL' := hide h'.length
  clear h h'
  by_cases he : errB xs ys = 0
  · obtain ⟨e1, e2⟩ := errB_ok he
    have h1 := errC_ok.1 e1
    have h2 := errC_ok.1 e2
    rw [HL.out] at h1
    rw [HL'.out] at h2
    have HE := hide he
    have HV := hide h1.2.2.1
    have HV' := hide h2.2.2.1
    have hn6 := h1.2.1
    have hn1 := h1.1
    have hn6' := h2.2.1
    have hn1' := h2.1
    have HD := hide (alkV_ok he)
    have HQ := hide (norF_len xs)
    have HQ' := hide (norF_len ys)
    clear h1 h2 he e1 e2
    go_enter Try.func31, Try.ntmps31
    go_wp2_with (first
      | (go_at_call 65; refine (validateBoth_any _ _ _ xs _ _ _ ys _ HX.out HY.out (by omega) (by omega)).mono ?_; rintro e w1 ⟨rfl, b1⟩; rw [HE.out]; have D1 := hide b1; clear b1)
      | (go_at_call_of 63 (Value.slice A n c); refine (normal_any A n c xs _ (HX.out.below D1.out (Nat.le_refl _)) hn1 hn6 HV.out).mono ?_; rintro e w2 ⟨A2, n2, c2, rfl, o2, b2⟩; have HO2 := hide o2; have HN2 := hide o2.len; have D2 := hide b2; clear o2 b2)
      | (go_at_call_of 63 (Value.slice A' n' c'); refine (normal_any A' n' c' ys _ ((HY.out.below D1.out (Nat.le_refl _)).below D2.out (Nat.le_refl _)) hn1' hn6' HV'.out).mono ?_; rintro e w3 ⟨A3, n3, c3, rfl, o3, b3⟩; have HO3 := hide o3; have HN3 := hide o3.len; have D3 := hide b3; clear o3 b3)
      | (go_at_call 66; refine (Equal_any A2 n2 c2 (norF xs) A3 n3 c3 (norF ys) _ (HO2.out.row.below D3.out (Nat.le_refl _)) HO3.out.row (by have h1 := HN2.out; rw [HQ.out, HL.out] at h1; omega) (by have h1 := HN3.out; rw [HQ'.out, HL'.out] at h1; omega)).mono ?_; rintro e w4 ⟨rfl, q4, hw4⟩; have D4 := hide (show Below w3.heap.size w3 w4 from by rw [hw4]; exact below_drewN (Below.refl _ _) q4); clear hw4))
    go_ret2
    exact ⟨by rw [HD.out, HE.out]; rfl, le_call (le_call (le_call D1.out D2.out) D3.out) D4.out⟩
  · have HE := hide he
    have hne : (errB xs ys != 0) = true := by simpa using he
    have HD := hide (alkV_no he)
    clear he
    go_enter Try.func31, Try.ntmps31
    go_wp2_with (go_at_call 65; refine (validateBoth_any _ _ _ xs _ _ _ ys _ HX.out HY.out (by omega) (by omega)).mono ?_; rintro e w1 ⟨rfl, b1⟩; have D1 := hide b1; clear b1)
    go_ret2
    exact ⟨by rw [HD.out]; rfl, D1.out⟩
end Go.Proofs.Ytllfkhcpdgdmnaa
