/- Missing on both sides. -/
import Derived.Test.YtllfkhcpdgdmnaaWkHears
namespace Go.Proofs.Ytllfkhcpdgdmnaa
open Go.RowKit

/-- The numbers up to m that are no delays. -/
def misL (xs : List Int) (m : Nat) : List Int := ((List.range m).map fun i : Nat => (i : Int) + 1).filter fun d => !(sortZ (dif xs)).contains d
def misV (xs : List Int) : List Int := if errC xs = 0 then misL xs (ext xs).toNat else []
theorem misL_succ (xs : List Int) (k : Nat) : misL xs (k + 1) = misL xs k ++ (if (sortZ (dif xs)).contains ((k : Int) + 1) then [] else [(k : Int) + 1]) := by
  unfold misL
  rw [List.range_succ, List.map_append, List.filter_append]
  congr 1
  simp only [List.map_cons, List.map_nil, List.filter_cons, List.filter_nil]
  cases (sortZ (dif xs)).contains ((k : Int) + 1) <;> rfl
theorem misL_len (xs : List Int) (k : Nat) : (misL xs k).length ≤ k := by
  unfold misL
  refine Nat.le_trans (List.length_filter_le _ _) ?_
  simp
theorem ext_nonneg {xs : List Int} (h : errC xs = 0) : 0 ≤ ext xs := by
  obtain ⟨h1, h2, h3, h4⟩ := errC_ok.1 h
  have := okTo_le h3 (i := 0) (j := xs.length - 1) (by omega) (by omega)
  unfold ext
  unfold gi at this
  omega
theorem misV_len (xs : List Int) : (misV xs).length ≤ 60 := by
  unfold misV
  split
  · rename_i h
    have h1 := misL_len xs (ext xs).toNat
    have h2 := (errC_ok.1 h).2.2.2
    omega
  · simp
theorem ext_mem {xs : List Int} (h : errC xs = 0) (hx : 1 ≤ ext xs) : ext xs ∈ sortZ (dif xs) := by
  obtain ⟨h1, h2, h3, h4⟩ := errC_ok.1 h
  refine (sortZ_perm _).mem_iff.2 ?_
  have hl : 2 ≤ xs.length := by
    apply Classical.byContradiction
    intro hh
    have : xs.length = 1 := by omega
    unfold ext at hx
    rw [this] at hx
    simp at hx
  unfold dif difTo
  refine List.mem_flatMap.2 ⟨xs.length - 1, List.mem_range.2 (by omega), ?_⟩
  unfold rowD
  exact List.mem_map.2 ⟨0, List.mem_range.2 (by omega), rfl⟩
/-- The greatest number is a delay. -/
theorem mis_last {xs : List Int} (h : errC xs = 0) (k : Nat) (h1 : k + 1 ≤ (ext xs).toNat ∨ k = 0) (h2 : ¬ k + 1 < (ext xs).toNat) : misL xs k = misL xs (ext xs).toNat := by
  by_cases e : (ext xs).toNat = 0
  · rw [e]
    have : k = 0 := by omega
    rw [this]
  · have hk : (ext xs).toNat = k + 1 := by omega
    rw [hk, misL_succ]
    have hm := ext_mem h (by omega)
    have he : ((k : Int) + 1) = ext xs := by have := ext_nonneg h; omega
    rw [he, List.contains_iff_mem.2 hm]
    simp
set_option maxHeartbeats 1000000 in
theorem Has_any (A : Option Addr) (n c : Nat) (xs : List Int) (x : Int) (w : World) (h : R E1 w A n c xs) (hn : n ≤ 1000000) :
    Calls Try.prog 83 #[.slice A n c, .int .i64 x] w fun e w' => e = .returned (.bool (xs.contains x)) ∧ w' = w := by
  have HL := hide h.length
  obtain ⟨b, off, hr⟩ := h
  have HR := hide hr
  have hcap := hr.cap
  have hmax := hr.max
  clear hr
  go_enter Try.func83, Try.ntmps83
  go_wp2_with fail
  go_loopw [5] (fun i wr => ∃ k : Nat, k ≤ n ∧ i = .int .i64 k ∧ wr = w ∧ Hid (∀ j, j < k → xs.getD j 0 ≠ x)) (fun i _ => n - (intOf i).toNat)
  case atStart => exact ⟨0, Nat.zero_le _, rfl, rfl, fun j hj => absurd hj (Nat.not_lt_zero j)⟩
  case round =>
    obtain ⟨k, hk, rfl, rfl, HS⟩ := hrel
    by_cases hlt : k < n
    · obtain rfl := HR.out.at_ (by omega)
      have hbl := HR.out.lt (by omega)
      have a1 := c1 HR.out hlt
      have i1 : (k : Int) < (n : Int) := by omega
      by_cases hxy : xs.getD k 0 = x
      · have HM := hide (show xs.contains x = true from by
          rw [List.contains_iff_mem]
          have hk' : k < xs.length := by rw [HL.out]; exact hlt
          have e : xs[k] = x := by rw [← hxy]; simp [List.getD_eq_getElem?_getD, hk']
          rw [← e]
          exact List.getElem_mem hk')
        rw [hxy] at a1
        have hb : (x == x) = true := by simp
        clear hxy
        go_wp2_with fail
        go_ret
        exact ⟨ret_bool HM.out.symm, by trivial⟩
      · have HN := hide (fun j (hj : j < k + 1) => (show xs.getD j 0 ≠ x from by
          by_cases e : j = k
          · subst e; exact hxy
          · exact HS.out j (by omega)))
        have hb : (xs.getD k 0 == x) = false := by simpa using hxy
        clear hxy
        generalize xs.getD k 0 = y at a1 hb
        go_wp2_with fail
        go_roundw
        case rel => exact ⟨k + 1, by omega, by go_num, by trivial, HN⟩
        case measure => simp [intOf]; omega
    · obtain rfl : k = n := by omega
      have HM := hide (show xs.contains x = false from by
        rw [← Bool.not_eq_true]
        intro hh
        rw [List.contains_iff_mem] at hh
        obtain ⟨j, hj, e⟩ := List.getElem_of_mem hh
        refine HS.out j (by rw [HL.out] at hj; exact hj) ?_
        rw [List.getD_eq_getElem?_getD, List.getElem?_eq_getElem hj]
        exact e)
      go_wp2_with fail
      go_ret
      exact ⟨ret_bool HM.out.symm, by trivial⟩
set_option maxRecDepth 100000 in
set_option maxHeartbeats 4000000 in
theorem Missing_any (A : Option Addr) (n c : Nat) (xs : List Int) (w : World) (h : R E1 w A n c xs) (hn : n ≤ 1000) :
    Calls Try.prog 44 #[.slice A n c] w (RowPost (errC xs) (misV xs) w) := by
  have HX := hide h
  have HL := hide h.length
  by_cases he : errC xs = 0
  · have HE := hide he
    obtain ⟨hn1, hn6, hv, hx⟩ := errC_ok.1 he
    have HMV := hide (show misV xs = misL xs (ext xs).toNat from if_pos he)
    have HEX := hide (ext_nonneg he)
    have HLS := hide (mis_last he)
    rw [HL.out] at hn1 hn6 hv
    have HVV := hide hv
    have HQ := hide (dif_len (xs := xs) (by rw [HL.out]; omega))
    obtain ⟨g, off, hr⟩ := h
    obtain rfl := hr.at_ (by omega)
    have hgl := hr.lt (by omega)
    have hcap := hr.cap
    have hmax := hr.max
    have b0 := okTo_bd hv (i := 0) (by omega)
    have b1 := okTo_bd hv (i := n - 1) (by omega)
    have HC0 := hide (fun (W : World) (hW : Below w.heap.size w W) => (show W.cell? ⟨g, off, none⟩ = some (.int .i64 (xs.getD 0 0)) from by have := c1 (hr.under hW fun _ => hgl) (k := 0) (by omega); rwa [Nat.add_zero] at this))
    have HC1 := hide (fun (W : World) (hW : Below w.heap.size w W) => (show W.cell? ⟨g, off + (n - 1), none⟩ = some (.int .i64 (xs.getD (n - 1) 0)) from c1 (hr.under hW fun _ => hgl) (k := n - 1) (by omega)))
    have hxx : ext xs = xs.getD (n - 1) 0 - xs.getD 0 0 := by unfold ext; rw [HL.out]
    clear hr he hv
    rw [hxx] at hx HEX HMV HLS
    clear hxx
    generalize xs.getD 0 0 = x0 at *
    generalize xs.getD (n - 1) 0 = x1 at *
    obtain ⟨m, hm⟩ : ∃ m : Nat, (m : Int) = x1 - x0 := ⟨(x1 - x0).toNat, by have := HEX.out; omega⟩
    rw [← hm] at hx HEX HMV HLS
    simp only [Int.toNat_natCast] at HMV HLS
    have i0n : 0 < n := by omega
    have i5n : (1 : Int) ≤ (n : Int) := by omega
    have i1 : (0 : Int) ≤ (n : Int) - 1 := by omega
    have i2 : (n : Int) - 1 < (n : Int) := by omega
    have i3 : ((n : Int) - 1).toNat = n - 1 := by omega
    have i4 : IntKind.i64.wrap ((n : Int) - 1) = (n : Int) - 1 := IntWalk.i64_in _ (by omega)
    have v1 : IntKind.i64.wrap (x1 - x0) = x1 - x0 := IntWalk.i64_in _ (by omega)
    go_enter Try.func44, Try.ntmps44
    go_wp2_with (first
      | (go_at_call 24; refine (Validate_any _ _ _ xs _ HX.out (by omega)).mono ?_; rintro e w1 ⟨rfl, b1⟩; rw [HE.out]; have D1 := hide b1; clear b1)
      | (go_at_call 58; refine (differences_any _ n c xs _ (HX.out.below D1.out (Nat.le_refl _)) (by omega) HVV.out).mono ?_; rintro e w2 ⟨A2, n2, c2, rfl, o2, b2⟩; have HO2 := hide o2; have HN2 := hide o2.len; have D2 := hide b2; clear o2 b2))
    have hn2 : n2 ≤ 36 := by have h1 := HN2.out; rw [sortZ_len] at h1; have h2 := HQ.out; omega
    go_loopw [5, 7] (fun v i wr => ∃ (k : Nat) (B : Option Addr) (l q : Nat), k ≤ m ∧ i = .int .i64 ((k : Int) + 1) ∧ v = .slice B l q ∧ Hid (Own E1 wr w2.heap.size 3 B l q (misL xs k)) ∧ Hid (Below w2.heap.size w2 wr)) (fun _ i _ => (61 - intOf i).toNat)
    case atStart => exact ⟨0, none, 0, 0, Nat.zero_le _, rfl, rfl, hide (Own.nil E1 _ _ _), hide (Below.refl _ _)⟩
    case round =>
      obtain ⟨k, B, l, q, hk, rfl, rfl, HO, HD⟩ := hrel
      have T := hide (le_call (le_call D1.out D2.out) HD.out)
      have a0 := HC0.out wr T.out
      have a1 := HC1.out wr T.out
      have hll := HO.out.len
      have hml := misL_len xs k
      by_cases hlt : k + 1 ≤ m
      · have g1 : (k : Int) + 1 ≤ x1 - x0 := by omega
        have HS := hide (misL_succ xs k)
        have HD2 := hide (fun q => below_drewN HD.out q)
        have hsz := HD.out.size
        cases hct : (sortZ (dif xs)).contains ((k : Int) + 1) with
        | true =>
          have HCT := hide hct
          have HS2 := hide (show misL xs (k + 1) = misL xs k from by rw [HS.out, hct]; simp)
          clear hct
          go_wp2_with fail
          go_quiet (fail)
          have HDn := hide (HD2.out nq)
          have HOn := hide (HO.out.drewN nq)
          clear a0 a1 HD HO
          go_wp2_with (go_at_call 82; refine (Contains_any A2 n2 c2 (sortZ (dif xs)) ((k : Int) + 1) _ (HO2.out.row.below HDn.out (Nat.le_refl _)) (by omega)).mono ?_; rintro e w5 ⟨rfl, hw5⟩; rw [HCT.out]; obtain rfl := hw5)
          go_roundw
          case rel => exact ⟨k + 1, B, l, q, by omega, by go_num, rfl, hide (by rw [HS2.out]; exact HOn.out), HDn⟩
          case measure => simp [intOf]; omega
        | false =>
          have HCT := hide hct
          have HS2 := hide (show misL xs (k + 1) = misL xs k ++ [(k : Int) + 1] from by rw [HS.out, hct]; simp)
          clear hct
          go_wp2_with fail
          go_quiet (fail)
          have HDn := hide (HD2.out nq)
          have HOn := hide (HO.out.drewN nq)
          have hszn : w2.heap.size ≤ (wr.drewN nq).heap.size := hsz
          clear a0 a1 HD HO
          go_wp2_with (first
            | (go_at_call 82; refine (Contains_any A2 n2 c2 (sortZ (dif xs)) ((k : Int) + 1) _ (HO2.out.row.below HDn.out (Nat.le_refl _)) (by omega)).mono ?_; rintro e w5 ⟨rfl, hw5⟩; rw [HCT.out]; obtain rfl := hw5)
            | (at_builtin; refine wpList_app1 (E := E1) _ (.int .i64 0) 8 rfl (.tmp 33) (.tmp 35) 22 3 rfl Try.underlying22 info_int rfl (by decide) (by omega) _ _ _ _ _ ((k : Int) + 1) _ rfl rfl rfl HOn.out (by omega) hszn ?_; intro A6 c6 w6 o6 b6 g6))
          go_roundw
          case rel => exact ⟨k + 1, A6, l + 1, c6, by omega, by go_num, rfl, hide (by rw [HS2.out]; exact o6), hide (HDn.out.trans b6)⟩
          case measure => simp [intOf]; omega
      · have g1 : ¬ ((k : Int) + 1 ≤ x1 - x0) := by omega
        have hkm : misL xs k = misV xs := by
          rw [HMV.out]
          obtain rfl : k = m := by omega
          rfl
        go_wp2_with fail
        go_quiet (fail)
        go_wp2_with fail
        go_ret2
        exact ⟨B, l, q, by rw [HE.out]; rfl, by rw [← hkm]; exact (HO.out.drewN nq).more (le_call D1.out D2.out).size, below_drewN T.out nq⟩
  · have hne : (errC xs != 0) = true := by simpa using he
    have HV := hide (show misV xs = [] from if_neg he)
    clear he h
    go_enter Try.func44, Try.ntmps44
    go_wp2_with (go_at_call 24; refine (Validate_any _ _ _ xs _ HX.out (by omega)).mono ?_; rintro e w1 ⟨rfl, b1⟩; have D1 := hide b1; clear b1)
    go_ret2
    exact ⟨none, 0, 0, rfl, by rw [HV.out]; exact Own.nil _ _ _ _, D1.out⟩
set_option maxRecDepth 100000 in
set_option maxHeartbeats 4000000 in
theorem rMissing_any (A : Option Addr) (n c : Nat) (xs : List Int) (w : World) (h : R E1 w A n c xs) (hn : n ≤ 1000) :
    Calls Try.prog 45 #[.slice A n c] w (RowPost (errC xs) (misV xs) w) := by
  have HX := hide h
  have HL := hide h.length
  by_cases he : errC xs = 0
  · have HE := hide he
    obtain ⟨hn1, hn6, hv, hx⟩ := errC_ok.1 he
    have HMV := hide (show misV xs = misL xs (ext xs).toNat from if_pos he)
    have HEX := hide (ext_nonneg he)
    have HLS := hide (mis_last he)
    rw [HL.out] at hn1 hn6 hv
    have HVV := hide hv
    have HQ := hide (dif_len (xs := xs) (by rw [HL.out]; omega))
    obtain ⟨g, off, hr⟩ := h
    obtain rfl := hr.at_ (by omega)
    have hgl := hr.lt (by omega)
    have hcap := hr.cap
    have hmax := hr.max
    have b0 := okTo_bd hv (i := 0) (by omega)
    have b1 := okTo_bd hv (i := n - 1) (by omega)
    have HC0 := hide (fun (W : World) (hW : Below w.heap.size w W) => (show W.cell? ⟨g, off, none⟩ = some (.int .i64 (xs.getD 0 0)) from by have := c1 (hr.under hW fun _ => hgl) (k := 0) (by omega); rwa [Nat.add_zero] at this))
    have HC1 := hide (fun (W : World) (hW : Below w.heap.size w W) => (show W.cell? ⟨g, off + (n - 1), none⟩ = some (.int .i64 (xs.getD (n - 1) 0)) from c1 (hr.under hW fun _ => hgl) (k := n - 1) (by omega)))
    have hxx : ext xs = xs.getD (n - 1) 0 - xs.getD 0 0 := by unfold ext; rw [HL.out]
    clear hr he hv
    rw [hxx] at hx HEX HMV HLS
    clear hxx
    generalize xs.getD 0 0 = x0 at *
    generalize xs.getD (n - 1) 0 = x1 at *
    obtain ⟨m, hm⟩ : ∃ m : Nat, (m : Int) = x1 - x0 := ⟨(x1 - x0).toNat, by have := HEX.out; omega⟩
    rw [← hm] at hx HEX HMV HLS
    simp only [Int.toNat_natCast] at HMV HLS
    have i0n : 0 < n := by omega
    have i5n : (1 : Int) ≤ (n : Int) := by omega
    have i1 : (0 : Int) ≤ (n : Int) - 1 := by omega
    have i2 : (n : Int) - 1 < (n : Int) := by omega
    have i3 : ((n : Int) - 1).toNat = n - 1 := by omega
    have i4 : IntKind.i64.wrap ((n : Int) - 1) = (n : Int) - 1 := IntWalk.i64_in _ (by omega)
    have v1 : IntKind.i64.wrap (x1 - x0) = x1 - x0 := IntWalk.i64_in _ (by omega)
    go_enter Try.func45, Try.ntmps45
    go_wp2_with (first
      | (go_at_call 25; refine (rValidate_any _ _ _ xs _ HX.out (by omega)).mono ?_; rintro e w1 ⟨rfl, b1⟩; rw [HE.out]; have D1 := hide b1; clear b1)
      | (go_at_call 59; refine (rdelays_any _ n c xs _ (HX.out.below D1.out (Nat.le_refl _)) (by omega) HVV.out).mono ?_; rintro e w2 ⟨A2, n2, c2, rfl, o2, b2⟩; have HO2 := hide o2; have HN2 := hide o2.len; have D2 := hide b2; clear o2 b2))
    have hn2 : n2 ≤ 36 := by have h1 := HN2.out; rw [sortZ_len] at h1; have h2 := HQ.out; omega
    go_loopw [6, 7] (fun v i wr => ∃ (k : Nat) (B : Option Addr) (l q : Nat), (k + 1 ≤ m ∨ k = 0) ∧ i = .int .i64 ((k : Int) + 1) ∧ v = .slice B l q ∧ Hid (Own E1 wr w2.heap.size 3 B l q (misL xs k)) ∧ Hid (Below w2.heap.size w2 wr)) (fun _ i _ => (61 - intOf i).toNat)
    case atStart => exact ⟨0, none, 0, 0, .inr rfl, rfl, rfl, hide (Own.nil E1 _ _ _), hide (Below.refl _ _)⟩
    case round =>
      obtain ⟨k, B, l, q, hk, rfl, rfl, HO, HD⟩ := hrel
      have T := hide (le_call (le_call D1.out D2.out) HD.out)
      have a0 := HC0.out wr T.out
      have a1 := HC1.out wr T.out
      have hll := HO.out.len
      have hml := misL_len xs k
      by_cases hlt : k + 1 < m
      · have g1 : (k : Int) + 1 < x1 - x0 := by omega
        have HS := hide (misL_succ xs k)
        have HD2 := hide (fun q => below_drewN HD.out q)
        have hsz := HD.out.size
        cases hct : (sortZ (dif xs)).contains ((k : Int) + 1) with
        | true =>
          have HCT := hide hct
          have HS2 := hide (show misL xs (k + 1) = misL xs k from by rw [HS.out, hct]; simp)
          clear hct
          go_wp2_with fail
          go_quiet (fail)
          have HDn := hide (HD2.out nq)
          have HOn := hide (HO.out.drewN nq)
          clear a0 a1 HD HO
          go_wp2_with (go_at_call 83; refine (Has_any A2 n2 c2 (sortZ (dif xs)) ((k : Int) + 1) _ (HO2.out.row.below HDn.out (Nat.le_refl _)) (by omega)).mono ?_; rintro e w5 ⟨rfl, hw5⟩; rw [HCT.out]; obtain rfl := hw5)
          go_roundw
          case rel => exact ⟨k + 1, B, l, q, .inl (by omega), by go_num, rfl, hide (by rw [HS2.out]; exact HOn.out), HDn⟩
          case measure => simp [intOf]; omega
        | false =>
          have HCT := hide hct
          have HS2 := hide (show misL xs (k + 1) = misL xs k ++ [(k : Int) + 1] from by rw [HS.out, hct]; simp)
          clear hct
          go_wp2_with fail
          go_quiet (fail)
          have HDn := hide (HD2.out nq)
          have HOn := hide (HO.out.drewN nq)
          have hszn : w2.heap.size ≤ (wr.drewN nq).heap.size := hsz
          clear a0 a1 HD HO
          go_wp2_with (first
            | (go_at_call 83; refine (Has_any A2 n2 c2 (sortZ (dif xs)) ((k : Int) + 1) _ (HO2.out.row.below HDn.out (Nat.le_refl _)) (by omega)).mono ?_; rintro e w5 ⟨rfl, hw5⟩; rw [HCT.out]; obtain rfl := hw5)
            | (at_builtin; refine wpList_app1 (E := E1) _ (.int .i64 0) 8 rfl (.tmp 33) (.tmp 35) 22 3 rfl Try.underlying22 info_int rfl (by decide) (by omega) _ _ _ _ _ ((k : Int) + 1) _ rfl rfl rfl HOn.out (by omega) hszn ?_; intro A6 c6 w6 o6 b6 g6))
          go_roundw
          case rel => exact ⟨k + 1, A6, l + 1, c6, .inl (by omega), by go_num, rfl, hide (by rw [HS2.out]; exact o6), hide (HDn.out.trans b6)⟩
          case measure => simp [intOf]; omega
      · have g1 : ¬ ((k : Int) + 1 < x1 - x0) := by omega
        have hkm : misL xs k = misV xs := by
          rw [HMV.out]
          skip
          exact HLS.out k (by omega) (by omega)
        go_wp2_with fail
        go_quiet (fail)
        go_wp2_with fail
        go_ret2
        exact ⟨B, l, q, by rw [HE.out]; rfl, by rw [← hkm]; exact (HO.out.drewN nq).more (le_call D1.out D2.out).size, below_drewN T.out nq⟩
  · have hne : (errC xs != 0) = true := by simpa using he
    have HV := hide (show misV xs = [] from if_neg he)
    clear he h
    go_enter Try.func45, Try.ntmps45
    go_wp2_with (go_at_call 25; refine (rValidate_any _ _ _ xs _ HX.out (by omega)).mono ?_; rintro e w1 ⟨rfl, b1⟩; have D1 := hide b1; clear b1)
    go_ret2
    exact ⟨none, 0, 0, rfl, by rw [HV.out]; exact Own.nil _ _ _ _, D1.out⟩
end Go.Proofs.Ytllfkhcpdgdmnaa
