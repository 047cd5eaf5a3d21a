/- The measure, on both sides. -/
import Derived.Test.YtlhlcchimammlaaWalkB
namespace Go.Proofs.Ytlhlcchimammlaa
open Go.RowKit Go.Shelf

def gcdTo (xs : List Int) (k : Nat) : Nat := (xs.take k).foldl (fun g x => Nat.gcd g x.toNat) 0
theorem gcdTo_succ {xs : List Int} {k : Nat} (h : k < xs.length) : gcdTo xs (k + 1) = Nat.gcd (gcdTo xs k) (xs.getD k 0).toNat := by
  unfold gcdTo
  rw [take_snocI h, List.foldl_append]
  rfl
theorem gcdTo_all (xs : List Int) : gcdTo xs xs.length = gcdL xs := by unfold gcdTo gcdL; rw [List.take_length]
theorem gcdTo_le {xs : List Int} (hw : Wt xs) : ∀ k, k ≤ xs.length → gcdTo xs k ≤ 30
  | 0, _ => by simp [gcdTo]
  | k + 1, hk => by
    rw [gcdTo_succ (by omega)]
    have hx : xs.getD k 0 ∈ xs := by rw [List.getD_eq_getElem?_getD, List.getElem?_eq_getElem (by omega)]; exact List.getElem_mem _
    have h1 := hw _ hx
    have := Nat.le_of_dvd (by omega) (Nat.gcd_dvd_right (gcdTo xs k) (xs.getD k 0).toNat)
    omega
theorem Wt.at_ {xs : List Int} (hw : Wt xs) {k : Nat} (hk : k < xs.length) : 1 ≤ xs.getD k 0 ∧ xs.getD k 0 ≤ 30 := by
  have hx : xs.getD k 0 ∈ xs := by rw [List.getD_eq_getElem?_getD, List.getElem?_eq_getElem hk]; exact List.getElem_mem _
  exact hw _ hx
set_option maxHeartbeats 1000000 in
theorem measure_any (A : Option Addr) (n c : Nat) (xs : List Int) (w : World) (h : R E1 w A n c xs) (hw : Wt xs) :
    Calls Try.prog 56 #[.slice A n c] w fun e w' => e = .returned (.int .i64 (gcdL xs : Nat)) ∧ ∃ q, w' = w.drewN q := by
  have hl := h.length
  have hle := h.le
  obtain ⟨b, off, hr⟩ := h
  have H1 := hide hl
  have H4 := hide hr
  have HW := hide hw
  clear hr hl hw
  go_enter Try.func56, Try.ntmps56
  go_wp2
  go_loopw [3, 8] (fun g i wr => ∃ k q : Nat, k ≤ n ∧ i = .int .i64 k ∧ g = .int .i64 (gcdTo xs k : Nat) ∧ wr = w.drewN q) (fun _ i _ => n - (intOf i).toNat)
  case atStart => exact ⟨0, 0, Nat.zero_le _, rfl, rfl, rfl⟩
  case round =>
    obtain ⟨k, q, hk, rfl, rfl, rfl⟩ := hrel
    by_cases hlt : k < n
    · obtain rfl := H4.out.at_ (by omega)
      have hc1 := c1 H4.out hlt
      have hx := HW.out.at_ (by rw [H1.out]; exact hlt)
      have hg := gcdTo_le HW.out k (by rw [H1.out]; exact hk)
      have HS := hide (gcdTo_succ (xs := xs) (k := k) (by rw [H1.out]; exact hlt))
      generalize xs.getD k 0 = x at hc1 hx HS
      generalize gcdTo xs k = g at hg HS
      obtain ⟨y, rfl⟩ : ∃ y : Nat, x = (y : Int) := ⟨x.toNat, by omega⟩
      go_wp2_with fail
      go_loopw [3, 5] (fun u v wr => ∃ a b p : Nat, a ≤ 30 ∧ b ≤ 30 ∧ u = .int .i64 a ∧ v = .int .i64 b ∧ Hid (Nat.gcd a b = gcdTo xs (k + 1)) ∧ wr = w.drewN p) (fun _ v _ => (intOf v).toNat)
      case atStart => exact ⟨g, y, q, hg, by omega, rfl, rfl, hide (by rw [HS.out]; rfl), rfl⟩
      case round =>
        obtain ⟨a, b, p, ha, hb, rfl, rfl, HG, rfl⟩ := hrel
        by_cases h0 : b = 0
        · subst h0
          have HE := hide (show (a : Nat) = gcdTo xs (k + 1) from by rw [← HG.out, Nat.gcd_zero_right])
          go_wp2_with fail
          go_roundw
          case rel => exact ⟨k + 1, p, by omega, by go_num, by rw [HE.out], rfl⟩
          case measure => simp [intOf]; omega
        · have hb0 : (b : Int) ≠ 0 := by omega
          have hb1 : 1 ≤ b := by omega
          have hm : ((a : Int)).tmod (b : Int) = ((a % b : Nat) : Int) := by rw [Int.tmod_eq_emod_of_nonneg (by omega)]; rfl
          have hr : a % b < b := Nat.mod_lt _ (by omega)
          have HG2 := hide (show Nat.gcd b (a % b) = gcdTo xs (k + 1) from by rw [← HG.out, Nat.gcd_comm b, ← Nat.gcd_rec, Nat.gcd_comm])
          generalize a % b = r at hm hr HG2
          go_wp2_with fail
          go_quiet (fail)
          go_wp2_with fail
          go_roundw
          case rel => exact ⟨b, r, p + nq, by omega, by omega, rfl, rfl, HG2, by first | rfl | (rw [World.drewN_drewN])⟩
          case measure => simp [intOf]; omega
    · obtain rfl : k = n := by omega
      have HE := hide (show gcdTo xs k = gcdL xs from by rw [← gcdTo_all, H1.out])
      go_wp2_with fail
      go_ret
      exact ⟨ret_i64 (by rw [HE.out]), q, rfl⟩
def dvTo (xs : List Int) (m k : Nat) : Bool := (xs.take k).all fun x => decide (x.toNat % m = 0)
theorem dvTo_succ {xs : List Int} {m k : Nat} (h : k < xs.length) : dvTo xs m (k + 1) = (dvTo xs m k && decide ((xs.getD k 0).toNat % m = 0)) := by
  unfold dvTo
  rw [take_snocI h, List.all_append]
  simp
theorem dvTo_all {xs : List Int} {m : Nat} : dvTo xs m xs.length = true ↔ m ∣ gcdL xs := by
  unfold dvTo
  rw [List.take_length, List.all_eq_true]
  constructor
  · exact fun h => dvd_gcdL fun x hx => Nat.dvd_of_mod_eq_zero (by simpa using h x hx)
  · exact fun h x hx => by simpa using Nat.mod_eq_zero_of_dvd (Nat.dvd_trans h (gcdL_dvd hx))
set_option maxHeartbeats 1000000 in
theorem rmeasure_any (A : Option Addr) (n c : Nat) (xs : List Int) (w : World) (h : R E1 w A n c xs) (hw : Wt xs) (h0 : xs ≠ []) :
    Calls Try.prog 57 #[.slice A n c] w fun e w' => e = .returned (.int .i64 (gcdL xs : Nat)) ∧ ∃ q, w' = w.drewN q := by
  have hl := h.length
  have hle := h.le
  have hgp := gcdL_pos hw h0
  have hg30 : gcdL xs ≤ 30 := by
    have h1 := gcdTo_le hw xs.length (Nat.le_refl _)
    rwa [gcdTo_all] at h1
  obtain ⟨b, off, hr⟩ := h
  have H1 := hide hl
  have H4 := hide hr
  have HW := hide hw
  clear hr hl hw
  have HDV := hide (fun m : Nat => dvTo_all (xs := xs) (m := m))
  generalize gcdL xs = g at *
  go_enter Try.func57, Try.ntmps57
  go_wp2
  go_loopw [3] (fun m wr => ∃ p q : Nat, g ≤ p ∧ p ≤ 30 ∧ m = .int .i64 p ∧ wr = w.drewN q) (fun m _ => (intOf m).toNat)
  case atStart => exact ⟨30, 0, hg30, Nat.le_refl _, rfl, rfl⟩
  case round =>
    obtain ⟨p, q, hgp', hp, rfl, rfl⟩ := hrel
    by_cases h1 : 1 < p
    · go_wp2_with fail
      go_loopw [4, 5] (fun u i wr => ∃ k r : Nat, k ≤ n ∧ i = .int .i64 k ∧ u = .bool (dvTo xs p k) ∧ wr = w.drewN r) (fun _ i _ => n - (intOf i).toNat)
      case atStart => exact ⟨0, q, Nat.zero_le _, rfl, rfl, rfl⟩
      case round =>
        obtain ⟨k, r, hk, rfl, rfl, rfl⟩ := hrel
        by_cases hlt : k < n
        · obtain rfl := H4.out.at_ (by omega)
          have hc1 := c1 H4.out hlt
          have hx := HW.out.at_ (by rw [H1.out]; exact hlt)
          have HS := hide (dvTo_succ (xs := xs) (m := p) (k := k) (by rw [H1.out]; exact hlt))
          generalize xs.getD k 0 = x at hc1 hx HS
          obtain ⟨y, rfl⟩ : ∃ y : Nat, x = (y : Int) := ⟨x.toNat, by omega⟩
          have hm : ((y : Int)).tmod (p : Int) = ((y % p : Nat) : Int) := by rw [Int.tmod_eq_emod_of_nonneg (by omega)]; rfl
          have hm2 : ((y : Int)) % (p : Int) = ((y % p : Nat) : Int) := by rfl
          have hp0 : (p : Int) ≠ 0 := by omega
          have HS' : Hid (dvTo xs p (k + 1) = (dvTo xs p k && decide (y % p = 0))) := hide (by rw [HS.out]; rfl)
          clear HS
          generalize y % p = z at *
          generalize dvTo xs p k = d at *
          cases d with
          | false =>
            go_wp2_with fail
            go_roundw
            case rel => exact ⟨k + 1, r, by omega, by go_num, by rw [HS'.out]; rfl, rfl⟩
            case measure => simp [intOf]; omega
          | true =>
            by_cases hz : z = 0
            · subst hz
              go_wp2_with fail
              go_roundw
              case rel => exact ⟨k + 1, r, by omega, by go_num, by rw [HS'.out]; rfl, rfl⟩
              case measure => simp [intOf]; omega
            · have hz' : decide ((z : Int) = 0) = false := by simpa using hz
              have hz2 : ((z : Int) == 0) = false := by simpa using hz
              go_wp2_with fail
              go_roundw
              case rel => exact ⟨k + 1, r, by omega, by go_num, by rw [HS'.out]; simp [hz], rfl⟩
              case measure => simp [intOf]; omega
        · obtain rfl : k = n := by omega
          cases hd : dvTo xs p k with
          | true =>
            have HE := hide (show p = g from by
              have h2 := (HDV.out p).1 (by rw [H1.out]; exact hd)
              have := Nat.le_of_dvd (by omega) h2
              omega)
            clear hd
            go_wp2_with fail
            go_ret
            exact ⟨ret_i64 (by rw [HE.out]), r, rfl⟩
          | false =>
            have HE := hide (show p ≠ g from by
              intro e
              have h2 := (HDV.out p).2 (by rw [e]; exact Nat.dvd_refl _)
              rw [H1.out, hd] at h2
              cases h2)
            clear hd
            go_wp2_with fail
            go_roundw
            case rel => exact ⟨p - 1, r, by have := HE.out; omega, by omega, by first | go_num | (congr 1; omega), rfl⟩
            case measure => simp [intOf]; omega
    · have HE := hide (show g = 1 from by omega)
      go_wp2_with fail
      go_ret
      exact ⟨ret_i64 (by rw [HE.out]; rfl), q, rfl⟩
def mesV (xs : List Int) : Int := if errW xs = 0 then (gcdL xs : Nat) else 0
theorem mesV_ok {xs : List Int} (h : errW xs = 0) : mesV xs = (gcdL xs : Nat) := if_pos h
theorem mesV_no {xs : List Int} (h : errW xs ≠ 0) : mesV xs = 0 := if_neg h
set_option maxHeartbeats 400000 in
theorem Measure_any (A : Option Addr) (n c : Nat) (xs : List Int) (w : World) (h : R E1 w A n c xs) :
    Calls Try.prog 21 #[.slice A n c] w fun e w' => e = .returned (.tuple #[.int .i64 (mesV xs), .int .i64 (errW xs)]) ∧ ∃ q, w' = w.drewN q := by
  have H := hide h
  clear h
  by_cases he : errW xs = 0
  · have HE := hide he
    have HM := hide (mesV_ok he)
    have HW := hide (errW_vw.1 he).wt
    clear he
    go_enter Try.func21, Try.ntmps21
    go_wp2_with (first
      | (go_at_call 25; refine (Validate_any _ _ _ xs _ H.out).mono ?_; rintro e w1 ⟨rfl, rfl⟩; rw [HE.out])
      | (go_at_call 56; refine (measure_any _ _ _ xs _ H.out HW.out).mono ?_; rintro e w1 ⟨rfl, q, rfl⟩))
    go_ret2
    exact ⟨by rw [HE.out, HM.out]; rfl, q, rfl⟩
  · have HM := hide (mesV_no he)
    have hne : (errW xs != 0) = true := by simpa using he
    clear he
    go_enter Try.func21, Try.ntmps21
    go_wp2_with (go_at_call 25; refine (Validate_any _ _ _ xs _ H.out).mono ?_; rintro e w1 ⟨rfl, rfl⟩)
    go_ret2
    exact ⟨by rw [HM.out]; rfl, 0, rfl⟩
set_option maxHeartbeats 400000 in
theorem rMeasure_any (A : Option Addr) (n c : Nat) (xs : List Int) (w : World) (h : R E1 w A n c xs) :
    Calls Try.prog 22 #[.slice A n c] w fun e w' => e = .returned (.tuple #[.int .i64 (mesV xs), .int .i64 (errW xs)]) ∧ ∃ q, w' = w.drewN q := by
  have H := hide h
  clear h
  by_cases he : errW xs = 0
  · have HE := hide he
    have HM := hide (mesV_ok he)
    have HW := hide (errW_vw.1 he)
    clear he
    go_enter Try.func22, Try.ntmps22
    go_wp2_with (first
      | (go_at_call 26; refine (rValidate_any _ _ _ xs _ H.out).mono ?_; rintro e w1 ⟨rfl, q1, rfl⟩; rw [HE.out])
      | (go_at_call 57; refine (rmeasure_any _ _ _ xs _ (H.out.drewN _) HW.out.wt HW.out.ne).mono ?_; rintro e w1 ⟨rfl, q, rfl⟩))
    go_ret2
    exact ⟨by rw [HE.out, HM.out]; rfl, q1 + q, by first | rfl | (rw [World.drewN_drewN])⟩
  · have HM := hide (mesV_no he)
    have hne : (errW xs != 0) = true := by simpa using he
    clear he
    go_enter Try.func22, Try.ntmps22
    go_wp2_with (go_at_call 26; refine (rValidate_any _ _ _ xs _ H.out).mono ?_; rintro e w1 ⟨rfl, q1, rfl⟩)
    go_ret2
    exact ⟨by rw [HM.out]; rfl, q1, rfl⟩
end Go.Proofs.Ytlhlcchimammlaa
