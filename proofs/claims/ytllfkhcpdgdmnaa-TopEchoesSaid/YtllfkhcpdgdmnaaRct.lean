/- Contracts of the document's Normal, Mirror, Same, Alike; CheckCliffs on both sides. -/
import Derived.Test.YtllfkhcpdgdmnaaWkHomes
namespace Go.Proofs.Ytllfkhcpdgdmnaa
open Go.RowKit

theorem mir_at {L : List Int} {k : Nat} (hk : k < L.length) : (mir L).getD k 0 = mirE L - gi L (L.length - 1 - k) := by
  unfold mir
  rw [map_getD (by simpa using hk)]
  unfold gi
  rw [List.getD_eq_getElem?_getD, List.getElem?_reverse hk, ← List.getD_eq_getElem?_getD]
theorem mir_take {L : List Int} {k : Nat} (hk : k < L.length) : (mir L).take (k + 1) = (mir L).take k ++ [mirE L - gi L (L.length - 1 - k)] := by
  have hk' : k < (mir L).length := by rw [mir_len]; exact hk
  rw [List.take_succ_eq_append_getElem hk']
  congr 2
  have := mir_at hk
  rw [List.getD_eq_getElem?_getD, List.getElem?_eq_getElem hk'] at this
  exact this
set_option maxRecDepth 100000 in
set_option maxHeartbeats 4000000 in
theorem rmirror_any (A : Option Addr) (n c : Nat) (L : List Int) (w : World) (h : R E1 w A n c L) (hn1 : 1 ≤ n) (hn : n ≤ 10) (hb : ∀ k, k < n → -1000 ≤ L.getD k 0 ∧ L.getD k 0 ≤ 1000) :
    Calls Try.prog 69 #[.slice A n c] w (IntsPost (mir L) w) := by
  obtain ⟨g, off, hr⟩ := h
  obtain rfl := hr.at_ (by omega)
  have hgl := hr.lt (by omega)
  have hcap := hr.cap
  have hmax := hr.max
  have HR := hide hr
  have HB := hide hb
  have HL := hide hr.len
  have HE := hide (show mirE L = L.getD 0 0 + L.getD (n - 1) 0 from by unfold mirE gi; rw [hr.len])
  clear hr hb
  have i1 : (0 : Int) ≤ (n : Int) - 1 := by omega
  have i2 : (n : Int) - 1 < (n : Int) := by omega
  have i3 : ((n : Int) - 1).toNat = n - 1 := by omega
  have i0 : (0 : Int) < (n : Int) := by omega
  have i0n : 0 < n := by omega
  have i5n : (1 : Int) ≤ (n : Int) := by omega
  go_enter Try.func69, Try.ntmps69
  go_wp2_with fail
  go_loopw [3, 4] (fun v i wr => ∃ (k : Nat) (B : Option Addr) (q : Nat), k ≤ n ∧ i = .int .i64 ((n : Int) - 1 - k) ∧ v = .slice B k q ∧ Hid (Own E1 wr w.heap.size 3 B k q ((mir L).take k)) ∧ Hid (Below w.heap.size w wr)) (fun _ i _ => (intOf i + 1).toNat)
  case atStart => exact ⟨0, none, 0, Nat.zero_le _, by simp, rfl, hide (Own.nil E1 _ _ _), hide (Below.refl _ _)⟩
  case round =>
    obtain ⟨k, B, q, hk, rfl, rfl, HO, HD⟩ := hrel
    by_cases hlt : k < n
    · have hc0 : wr.drew.cell? ⟨g, off, none⟩ = some (.int .i64 (L.getD 0 0)) := by have := c1 (HR.out.under HD.out.drew fun _ => hgl) (k := 0) (by omega); rwa [Nat.add_zero] at this
      have hc1 : wr.drew.cell? ⟨g, off + (n - 1), none⟩ = some (.int .i64 (L.getD (n - 1) 0)) := c1 (HR.out.under HD.out.drew fun _ => hgl) (k := n - 1) (by omega)
      have hck : wr.drew.cell? ⟨g, off + (n - 1 - k), none⟩ = some (.int .i64 (L.getD (n - 1 - k) 0)) := c1 (HR.out.under HD.out.drew fun _ => hgl) (k := n - 1 - k) (by omega)
      have b0 := HB.out 0 (by omega)
      have b1 := HB.out (n - 1) (by omega)
      have bk := HB.out (n - 1 - k) (by omega)
      have HS := hide (show (mir L).take (k + 1) = (mir L).take k ++ [L.getD 0 0 + L.getD (n - 1) 0 - L.getD (n - 1 - k) 0] from by
        have := mir_take (L := L) (k := k) (by rw [HL.out]; exact hlt)
        rw [HE.out, HL.out] at this
        exact this)
      generalize L.getD 0 0 = x0 at hc0 b0 HS
      generalize L.getD (n - 1) 0 = x1 at hc1 b1 HS
      generalize L.getD (n - 1 - k) 0 = xk at hck bk HS
      have hsz := HD.out.size
      have HD2 := hide HD.out.drew
      have j1 : (0 : Int) ≤ (n : Int) - 1 - k := by omega
      have j1' : (k : Int) ≤ (n : Int) - 1 := by omega
      have j2 : (n : Int) - 1 - k < (n : Int) := by omega
      have j3 : ((n : Int) - 1 - (k : Int)).toNat = n - 1 - k := by omega
      have w1 : IntKind.i64.wrap ((n : Int) - 1) = (n : Int) - 1 := IntWalk.i64_in _ (by omega)
      have w2 : IntKind.i64.wrap (x0 + x1) = x0 + x1 := IntWalk.i64_in _ (by omega)
      have w3 : IntKind.i64.wrap (x0 + x1 - xk) = x0 + x1 - xk := IntWalk.i64_in _ (by omega)
      go_wp2_with fail
      go_region_law (refine step_app1 (E := E1) wr.drew (.int .i64 0) 8 rfl (.tmp 12) (.tmp 28) 22 3 rfl Try.underlying22 info_int rfl (by decide) (by omega) w.heap.size _ _ _ _ (x0 + x1 - xk) _ rfl rfl rfl (HO.out.drew) (by omega) hsz ?_; intro A2 c2 w5 o5 b5)
      all_goals
        go_wp2_with fail
        go_roundw
        case rel => exact ⟨k + 1, A2, c2, by omega, by go_num, rfl, hide (by rw [HS.out]; exact o5), hide (HD2.out.trans b5)⟩
        case measure => simp [intOf]; omega
    · obtain rfl : k = n := by omega
      have j1 : (k : Int) - 1 - k < 0 := by omega
      go_wp2_with fail
      go_ret
      exact ⟨B, k, q, rfl, by have := HO.out; rwa [List.take_of_length_le (by rw [mir_len, HL.out]; exact Nat.le_refl _)] at this, HD.out⟩
set_option maxHeartbeats 2000000 in
theorem before_any (A : Option Addr) (n c : Nat) (A' : Option Addr) (c' : Nat) (xs ys : List Int) (w : World) (h : R E1 w A n c xs) (h' : R E1 w A' n c' ys) (hn : n ≤ 1000) :
    Calls Try.prog 93 #[.slice A n c, .slice A' n c'] w fun e w' => e = .returned (.bool (befB xs ys)) ∧ Below w.heap.size w w' := by
  have H1 := hide h.length
  have H2 := hide h'.length
  obtain ⟨b, off, hr⟩ := h
  obtain ⟨b', off', hr'⟩ := h'
  have HR := hide hr
  have HR' := hide hr'
  have hcap := hr.cap
  have hmax := hr.max
  have hcap' := hr'.cap
  have hmax' := hr'.max
  clear hr hr'
  go_enter Try.func93, Try.ntmps93
  go_wp2_with fail
  go_loopw [5] (fun i wr => ∃ k : Nat, k ≤ n ∧ i = .int .i64 k ∧ Hid (Below w.heap.size w wr) ∧ Hid (∀ j, j < k → xs.getD j 0 = ys.getD j 0)) (fun i _ => n - (intOf i).toNat)
  case atStart => exact ⟨0, Nat.zero_le _, rfl, hide (Below.refl _ _), fun j hj => absurd hj (Nat.not_lt_zero j)⟩
  case round =>
    obtain ⟨k, hk, rfl, HD, HS⟩ := hrel
    by_cases hlt : k < n
    · obtain rfl := HR.out.at_ (by omega)
      obtain rfl := HR'.out.at_ (by omega)
      have hbl := HR.out.lt (by omega)
      have hbl' := HR'.out.lt (by omega)
      have a1 := c1 (HR.out.below HD.out (Nat.le_refl _)) hlt
      have d1 := c1 (HR'.out.below HD.out (Nat.le_refl _)) hlt
      have i1 : (k : Int) < (n : Int) := by omega
      by_cases hxy : xs.getD k 0 = ys.getD k 0
      · have HK := hide (fun j (hj : j < k + 1) => (show xs.getD j 0 = ys.getD j 0 from by
          by_cases e : j = k
          · subst e; exact hxy
          · exact HS.out j (by omega)))
        rw [← hxy] at d1
        clear hxy
        generalize xs.getD k 0 = x at a1 d1
        have hxx : (x != x) = false := by simp
        go_wp2_with fail
        go_quiet (fail)
        go_wp2_with fail
        go_roundw
        case rel => exact ⟨k + 1, by omega, by go_num, hide (below_drewN HD.out _), HK⟩
        case measure => simp [intOf]; omega
      · have HK := hide (bef_at k xs ys (by rw [H1.out]; exact hlt) (by rw [H2.out]; exact hlt) HS.out hxy)
        generalize xs.getD k 0 = x at a1 hxy HK
        generalize ys.getD k 0 = y at d1 hxy HK
        have hxx : (x != y) = true := by simp [hxy]
        clear hxy
        go_wp2_with fail
        go_quiet (fail)
        go_wp2_with fail
        go_quiet (fail)
        go_wp2_with fail
        go_ret
        exact ⟨ret_bool (by rw [HK.out]), below_drewN (below_drewN HD.out _) _⟩
    · obtain rfl : k = n := by omega
      go_wp2_with fail
      go_ret
      exact ⟨ret_bool (by rw [bef_all xs ys (fun j hj => HS.out j (by rw [H1.out] at hj; exact hj))]), HD.out⟩
set_option maxRecDepth 100000 in
set_option maxHeartbeats 4000000 in
theorem rnormal_any (A : Option Addr) (n c : Nat) (xs : List Int) (w : World) (h : R E1 w A n c xs) (hn1 : 1 ≤ n) (hn : n ≤ 6) (hv : OkTo xs n) :
    Calls Try.prog 64 #[.slice A n c] w (IntsPost (norF xs) w) := by
  have HL := hide h.length
  obtain ⟨g, off, hr⟩ := h
  obtain rfl := hr.at_ (by omega)
  have hgl := hr.lt (by omega)
  have hcap := hr.cap
  have hmax := hr.max
  have HR := hide hr
  have hvv : OkTo xs xs.length := by rw [HL.out]; exact hv
  have HB := hide (fun k (hk : k < n) => okTo_bd hv hk)
  have HSB := hide (sh0_bd hvv)
  clear hr hvv hv
  have i0 : (0 : Int) < (n : Int) := by omega
  have i0n : 0 < n := by omega
  have i5n : (1 : Int) ≤ (n : Int) := by omega
  go_enter Try.func64, Try.ntmps64
  go_wp2_with fail
  go_loopw [3, 4] (fun v i wr => ∃ (k : Nat) (B : Option Addr) (q : Nat), k ≤ n ∧ i = .int .i64 k ∧ v = .slice B k q ∧ Hid (Own E1 wr w.heap.size 3 B k q ((xs.take k).map fun x => x - gi xs 0)) ∧ Hid (Below w.heap.size w wr)) (fun _ i _ => n - (intOf i).toNat)
  case atStart => exact ⟨0, none, 0, Nat.zero_le _, rfl, rfl, hide (Own.nil E1 _ _ _), hide (Below.refl _ _)⟩
  case round =>
    obtain ⟨k, B, q, hk, rfl, rfl, HO, HD⟩ := hrel
    by_cases hlt : k < n
    · have hc0 : wr.drew.cell? ⟨g, off, none⟩ = some (.int .i64 (xs.getD 0 0)) := by have := c1 (HR.out.under HD.out.drew fun _ => hgl) (k := 0) (by omega); rwa [Nat.add_zero] at this
      have hck : wr.drew.cell? ⟨g, off + k, none⟩ = some (.int .i64 (xs.getD k 0)) := c1 (HR.out.under HD.out.drew fun _ => hgl) hlt
      have b0 := HB.out 0 (by omega)
      have bk := HB.out k hlt
      have HS := hide (show ((xs.take (k + 1)).map fun x => x - gi xs 0) = ((xs.take k).map fun x => x - gi xs 0) ++ [xs.getD k 0 - xs.getD 0 0] from take_step (f := fun x => x - gi xs 0) (by rw [HL.out]; exact hlt))
      generalize xs.getD 0 0 = x0 at hc0 b0 HS
      generalize xs.getD k 0 = xk at hck bk HS
      have hsz := HD.out.size
      have HD2 := hide HD.out.drew
      have i1 : (k : Int) < (n : Int) := by omega
      have w3 : IntKind.i64.wrap (xk - x0) = xk - x0 := IntWalk.i64_in _ (by omega)
      go_wp2_with fail
      go_region_law (refine step_app1 (E := E1) wr.drew (.int .i64 0) 8 rfl (.tmp 11) (.tmp 20) 22 3 rfl Try.underlying22 info_int rfl (by decide) (by omega) w.heap.size _ _ _ _ (xk - x0) _ rfl rfl rfl (HO.out.drew) (by omega) hsz ?_; intro A2 c2 w5 o5 b5)
      all_goals
        go_wp2_with fail
        go_roundw
        case rel => exact ⟨k + 1, A2, c2, by omega, by go_num, rfl, hide (by rw [HS.out]; exact o5), hide (HD2.out.trans b5)⟩
        case measure => simp [intOf]; omega
    · obtain rfl : k = n := by omega
      have HO2 := hide (show Own E1 wr w.heap.size 3 B k q (sh0 xs) from by have := HO.out; rwa [List.take_of_length_le (by rw [HL.out]; exact Nat.le_refl _)] at this)
      clear HO
      cases hnb : norB (sh0 xs) with
      | true =>
        have HN := hide (show befB (sh0 xs) (mir (sh0 xs)) = true from hnb)
        have HF := hide (show norF xs = sh0 xs from by unfold norF; rw [hnb]; rfl)
        clear hnb
        go_wp2_with (first
          | (go_at_call 69; refine (rmirror_any _ _ _ (sh0 xs) _ HO2.out.row hn1 (by omega) (fun j hj => HSB.out j (by rw [HL.out]; exact hj))).mono ?_; rintro e w1 ⟨A1, n1, c1', rfl, o1, b1⟩; obtain rfl : n1 = k := (by rw [← o1.len, mir_len, sh0_len, HL.out]); have HO1 := hide o1; have D1 := hide b1; clear o1 b1)
          | (go_at_call 93; refine (before_any _ _ _ _ _ (sh0 xs) (mir (sh0 xs)) _ (HO2.out.row.below D1.out (Nat.le_refl _)) HO1.out.row (by omega)).mono ?_; rintro e w2 ⟨rfl, b2⟩; rw [HN.out]; have D2 := hide b2; clear b2))
        go_ret
        exact ⟨B, _, q, rfl, by rw [HF.out]; exact (HO2.out.below D1.out (Nat.le_refl _)).below D2.out (Nat.le_refl _), le_call (le_call HD.out D1.out) D2.out⟩
      | false =>
        have HN := hide (show befB (sh0 xs) (mir (sh0 xs)) = false from hnb)
        have HF := hide (show norF xs = mir (sh0 xs) from by unfold norF; rw [hnb]; rfl)
        clear hnb
        have HMR := hide (fun (W : World) (hW : R E1 W B k q (sh0 xs)) => rmirror_any B k q (sh0 xs) W hW hn1 (by omega) (fun j hj => HSB.out j (by rw [HL.out]; exact hj)))
        go_wp2_with (first
          | (go_at_call 93; refine (before_any _ _ _ _ _ (sh0 xs) (mir (sh0 xs)) _ (HO2.out.row.below D1.out (Nat.le_refl _)) HO1.out.row (by omega)).mono ?_; rintro e w2 ⟨rfl, b2⟩; rw [HN.out]; have D2 := hide b2; clear b2; have HO3 := hide ((HO2.out.below D1.out (Nat.le_refl _)).below D2.out (Nat.le_refl _)); clear HO2)
          | (go_at_call 69; refine (HMR.out _ HO2.out.row).mono ?_; rintro e w1 ⟨A1, n1, c1', rfl, o1, b1⟩; obtain rfl : n1 = k := (by rw [← o1.len, mir_len, sh0_len, HL.out]); have HO1 := hide o1; have D1 := hide b1; clear o1 b1)
          | (go_at_call 69; refine (HMR.out _ HO3.out.row).mono ?_; rintro e w3 ⟨A3, n3, c3, rfl, o3, b3⟩; have HO4 := hide o3; have D3 := hide b3; clear o3 b3))
        go_ret
        exact ⟨A3, _, c3, rfl, by rw [HF.out]; exact HO4.out.more (le_call (le_call HD.out D1.out) D2.out).size, le_call (le_call (le_call HD.out D1.out) D2.out) D3.out⟩
set_option maxHeartbeats 1000000 in
theorem rMirror_any (A : Option Addr) (n c : Nat) (xs : List Int) (w : World) (h : R E1 w A n c xs) (hn : n ≤ 1000) :
    Calls Try.prog 34 #[.slice A n c] w (RowPost (errC xs) (mirV xs) w) := by
  have HX := hide h
  have HL := hide h.length
  clear h
  by_cases he : errC xs = 0
  · have h1 := errC_ok.1 he
    rw [HL.out] at h1
    have HE := hide he
    have HV := hide h1.2.2.1
    have hn6 := h1.2.1
    have hn1 := h1.1
    have HD := hide (mirV_ok he)
    clear h1 he
    go_enter Try.func34, Try.ntmps34
    go_wp2_with (first
      | (go_at_call 25; refine (rValidate_any _ _ _ xs _ HX.out (by omega)).mono ?_; rintro e w1 ⟨rfl, b1⟩; rw [HE.out]; have B1 := hide b1; clear b1)
      | (go_at_call 69; refine (rmirror_any _ _ _ xs _ (HX.out.below B1.out (Nat.le_refl _)) hn1 (by omega) (fun k hk => bd_of HV.out k hk)).mono ?_; rintro e w2 ⟨A2, n2, c2, rfl, o2, b2⟩))
    go_ret2
    exact ⟨A2, n2, c2, by rw [HE.out]; rfl, by rw [HD.out]; exact o2.more B1.out.size, B1.out.trans (b2.mono B1.out.size)⟩
  · have HE := hide he
    have hne : (errC xs != 0) = true := by simpa using he
    have HD := hide (mirV_no he)
    clear he
    go_enter Try.func34, Try.ntmps34
    go_wp2_with (go_at_call 25; refine (rValidate_any _ _ _ xs _ HX.out (by omega)).mono ?_; rintro e w1 ⟨rfl, b1⟩; have B1 := hide b1; clear b1)
    go_ret2
    exact ⟨none, 0, 0, rfl, by rw [HD.out]; exact Own.nil _ _ _ _, B1.out⟩
set_option maxHeartbeats 1000000 in
theorem rNormal_any (A : Option Addr) (n c : Nat) (xs : List Int) (w : World) (h : R E1 w A n c xs) (hn : n ≤ 1000) :
    Calls Try.prog 28 #[.slice A n c] w (RowPost (errC xs) (norV xs) w) := by
  have HX := hide h
  have HL := hide h.length
  clear h
  by_cases he : errC xs = 0
  · have h1 := errC_ok.1 he
    rw [HL.out] at h1
    have HE := hide he
    have HV := hide h1.2.2.1
    have hn6 := h1.2.1
    have hn1 := h1.1
    have HD := hide (norV_ok he)
    clear h1 he
    go_enter Try.func28, Try.ntmps28
    go_wp2_with (first
      | (go_at_call 25; refine (rValidate_any _ _ _ xs _ HX.out (by omega)).mono ?_; rintro e w1 ⟨rfl, b1⟩; rw [HE.out]; have B1 := hide b1; clear b1)
      | (go_at_call 64; refine (rnormal_any _ _ _ xs _ (HX.out.below B1.out (Nat.le_refl _)) hn1 hn6 HV.out).mono ?_; rintro e w2 ⟨A2, n2, c2, rfl, o2, b2⟩))
    go_ret2
    exact ⟨A2, n2, c2, by rw [HE.out]; rfl, by rw [HD.out]; exact o2.more B1.out.size, B1.out.trans (b2.mono B1.out.size)⟩
  · have HE := hide he
    have hne : (errC xs != 0) = true := by simpa using he
    have HD := hide (norV_no he)
    clear he
    go_enter Try.func28, Try.ntmps28
    go_wp2_with (go_at_call 25; refine (rValidate_any _ _ _ xs _ HX.out (by omega)).mono ?_; rintro e w1 ⟨rfl, b1⟩; have B1 := hide b1; clear b1)
    go_ret2
    exact ⟨none, 0, 0, rfl, by rw [HD.out]; exact Own.nil _ _ _ _, B1.out⟩
set_option maxHeartbeats 2000000 in
theorem rSame_any (A : Option Addr) (n c : Nat) (xs : List Int) (A' : Option Addr) (n' c' : Nat) (ys : List Int) (w : World) (h : R E1 w A n c xs) (h' : R E1 w A' n' c' ys) (hn : n ≤ 1000) (hn' : n' ≤ 1000) :
    Calls Try.prog 30 #[.slice A n c, .slice A' n' c'] w fun e w' => e = .returned (.tuple #[.bool (samV xs ys), .int .i64 (errB xs ys)]) ∧ Below w.heap.size w w' := by
  have HX := hide h
  have HY := hide h'
  have HL := hide h.length
  have HL' := hide h'.length
  clear h h'
  by_cases he : errB xs ys = 0
  · obtain ⟨e1, e2⟩ := errB_ok he
    have h1 := errC_ok.1 e1
    have h2 := errC_ok.1 e2
    rw [HL.out] at h1
    rw [HL'.out] at h2
    have HE := hide he
    have HV := hide h1.2.2.1
    have HV' := hide h2.2.2.1
    have hn6 := h1.2.1
    have hn1 := h1.1
    have hn6' := h2.2.1
    have hn1' := h2.1
    have HD := hide (samV_ok he)
    have HQ := hide (dif_len (xs := xs) (by rw [HL.out]; omega))
    have HQ' := hide (dif_len (xs := ys) (by rw [HL'.out]; omega))
    clear h1 h2 he e1 e2
    go_enter Try.func30, Try.ntmps30
    go_wp2_with (first
      | (go_at_call 67; refine (two_any _ _ _ xs _ _ _ ys _ HX.out HY.out (by omega) (by omega)).mono ?_; rintro e w1 ⟨rfl, b1⟩; rw [HE.out]; have D1 := hide b1; clear b1)
      | (go_at_call_of 59 (Value.slice A n c); refine (rdelays_any A n c xs _ (HX.out.below D1.out (Nat.le_refl _)) (by omega) HV.out).mono ?_; rintro e w2 ⟨A2, n2, c2, rfl, o2, b2⟩; have HO2 := hide o2; have HN2 := hide o2.len; have D2 := hide b2; clear o2 b2)
      | (go_at_call_of 59 (Value.slice A' n' c'); refine (rdelays_any A' n' c' ys _ ((HY.out.below D1.out (Nat.le_refl _)).below D2.out (Nat.le_refl _)) (by omega) HV'.out).mono ?_; rintro e w3 ⟨A3, n3, c3, rfl, o3, b3⟩; have HO3 := hide o3; have HN3 := hide o3.len; have D3 := hide b3; clear o3 b3)
      | (go_at_call 26; refine (SameInts_any A2 n2 c2 A3 n3 c3 (sortZ (dif xs)) (sortZ (dif ys)) _ (HO2.out.row.below D3.out (Nat.le_refl _)) HO3.out.row (by have h1 := HN2.out; rw [sortZ_len] at h1; have h2 := HQ.out; omega) (by have h1 := HN3.out; rw [sortZ_len] at h1; have h2 := HQ'.out; omega)).mono ?_; rintro e w4 ⟨rfl, q4, hw4⟩; have D4 := hide (show Below w3.heap.size w3 w4 from by rw [hw4]; exact below_drewN (Below.refl _ _) q4); clear hw4))
    go_ret2
    exact ⟨by rw [HD.out, HE.out]; rfl, le_call (le_call (le_call D1.out D2.out) D3.out) D4.out⟩
  · have HE := hide he
    have hne : (errB xs ys != 0) = true := by simpa using he
    have HD := hide (samV_no he)
    clear he
    go_enter Try.func30, Try.ntmps30
    go_wp2_with (go_at_call 67; refine (two_any _ _ _ xs _ _ _ ys _ HX.out HY.out (by omega) (by omega)).mono ?_; rintro e w1 ⟨rfl, b1⟩; have D1 := hide b1; clear b1)
    go_ret2
    exact ⟨by rw [HD.out]; rfl, D1.out⟩
set_option maxHeartbeats 2000000 in
theorem rAlike_any (A : Option Addr) (n c : Nat) (xs : List Int) (A' : Option Addr) (n' c' : Nat) (ys : List Int) (w : World) (h : R E1 w A n c xs) (h' : R E1 w A' n' c' ys) (hn : n ≤ 1000) (hn' : n' ≤ 1000) :
    Calls Try.prog 32 #[.slice A n c, .slice A' n' c'] w fun e w' => e = .returned (.tuple #[.bool (alkV xs ys), .int .i64 (errB xs ys)]) ∧ Below w.heap.size w w' := by
  have HX := hide h
  have HY := hide h'
  have HL := hide h.length
  have HL' := hide h'.length
  clear h h'
  by_cases he : errB xs ys = 0
  · obtain ⟨e1, e2⟩ := errB_ok he
    have h1 := errC_ok.1 e1
    have h2 := errC_ok.1 e2
    rw [HL.out] at h1
    rw [HL'.out] at h2
    have HE := hide he
    have HV := hide h1.2.2.1
    have HV' := hide h2.2.2.1
    have hn6 := h1.2.1
    have hn1 := h1.1
    have hn6' := h2.2.1
    have hn1' := h2.1
    have HD := hide (alkV_ok he)
    have HQ := hide (norF_len xs)
    have HQ' := hide (norF_len ys)
    clear h1 h2 he e1 e2
    go_enter Try.func32, Try.ntmps32
    go_wp2_with (first
      | (go_at_call 67; refine (two_any _ _ _ xs _ _ _ ys _ HX.out HY.out (by omega) (by omega)).mono ?_; rintro e w1 ⟨rfl, b1⟩; rw [HE.out]; have D1 := hide b1; clear b1)
      | (go_at_call_of 64 (Value.slice A n c); refine (rnormal_any A n c xs _ (HX.out.below D1.out (Nat.le_refl _)) hn1 hn6 HV.out).mono ?_; rintro e w2 ⟨A2, n2, c2, rfl, o2, b2⟩; have HO2 := hide o2; have HN2 := hide o2.len; have D2 := hide b2; clear o2 b2)
      | (go_at_call_of 64 (Value.slice A' n' c'); refine (rnormal_any A' n' c' ys _ ((HY.out.below D1.out (Nat.le_refl _)).below D2.out (Nat.le_refl _)) hn1' hn6' HV'.out).mono ?_; rintro e w3 ⟨A3, n3, c3, rfl, o3, b3⟩; have HO3 := hide o3; have HN3 := hide o3.len; have D3 := hide b3; clear o3 b3)
      | (go_at_call 26; refine (SameInts_any A2 n2 c2 A3 n3 c3 (norF xs) (norF ys) _ (HO2.out.row.below D3.out (Nat.le_refl _)) HO3.out.row (by have h1 := HN2.out; rw [HQ.out, HL.out] at h1; omega) (by have h1 := HN3.out; rw [HQ'.out, HL'.out] at h1; omega)).mono ?_; rintro e w4 ⟨rfl, q4, hw4⟩; have D4 := hide (show Below w3.heap.size w3 w4 from by rw [hw4]; exact below_drewN (Below.refl _ _) q4); clear hw4))
    go_ret2
    exact ⟨by rw [HD.out, HE.out]; rfl, le_call (le_call (le_call D1.out D2.out) D3.out) D4.out⟩
  · have HE := hide he
    have hne : (errB xs ys != 0) = true := by simpa using he
    have HD := hide (alkV_no he)
    clear he
    go_enter Try.func32, Try.ntmps32
    go_wp2_with (go_at_call 67; refine (two_any _ _ _ xs _ _ _ ys _ HX.out HY.out (by omega) (by omega)).mono ?_; rintro e w1 ⟨rfl, b1⟩; have D1 := hide b1; clear b1)
    go_ret2
    exact ⟨by rw [HD.out]; rfl, D1.out⟩
end Go.Proofs.Ytllfkhcpdgdmnaa
