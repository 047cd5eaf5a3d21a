/- EchoMirrors: the walk. -/
import Derived.Test.YtllfkhcpdgdmnaaWkShifts
namespace Go.Proofs.Ytllfkhcpdgdmnaa
open Go.RowKit

section
variable {α : Type} {E : Enc α} {P : Program} (w : World) {ops : Array Oper} {rest : List Oper} {o : Oper} {a : Act} {Q : Exit → Act → World → Prop}
theorem wpList_appX (z : Value) (bytes : Nat) (hgd : o.guard = none) (s x : Operand) (t e : TypeId) (ho : o.op = .call { callee := .builtin .append, args := #[s, x], argTypes := #[t, t] })
    (hu : P.underlying t = some (.slice e)) (hinfo : (P.info? e).map (fun i => (i.zero, i.size, i.bytes)) = some (some z, E.size, bytes)) (hz : z.cells.size = E.size) (hE : 0 < E.size) (hby : bytes ≤ 64)
    (B g : Nat) (A2 : Option Addr) (m c2 : Nat) (ys : List α) (hs : a.eval s = .slice (some ⟨g, 0, none⟩) 0 0) (hx : a.eval x = .slice A2 m c2)
    (hown : Own E w B e (some ⟨g, 0, none⟩) 0 0 []) (hrow : R E w A2 m c2 ys) (hm2 : m ≤ 1000000) (hB : B ≤ w.heap.size)
    (h : ∀ A' c' w', Own E w' B e A' m c' ys → Below B w w' → wpList P ops Q rest (a.put o.dst (.slice A' m c')) w') :
    wpList P ops Q (o :: rest) a w := by
  by_cases hm : m = 0
  · subst hm
    obtain ⟨i0, hi, hz0, hz1, hz2⟩ := info_parts hinfo
    obtain rfl : ys = [] := List.eq_nil_of_length_eq_zero hrow.length
    have hrun : (Builtin.append_ #[t, t] o.type #[.slice (some ⟨g, 0, none⟩) 0 0, .slice A2 0 c2]).run P w = .ok (.slice (some ⟨g, 0, none⟩) 0 0) w := by
      cases A2 <;> simp [Builtin.append_, run_underlying hu, sizeOf, typeInfo, hi, Builtin.lenOf, Builtin.firstCells, loadCells, loadCellsFrom, storeCells]
    refine wpList_plain hgd fun K hK => ?_
    unfold Oper.wp
    simp [execOp, ho, resolve, invoke, builtin, hs, hx, hrun, Result.andThen]
    exact hK _ _ (h _ _ w hown (Below.refl _ _))
  · have hA : ∃ ad, A2 = some ad := by
      obtain ⟨b, off, hr⟩ := hrow
      exact ⟨_, hr.at_ (by omega)⟩
    obtain ⟨ad, rfl⟩ := hA
    refine wpList_appN w z bytes hgd s x t e ho hu hinfo hz hE hby B 0 0 _ [] ad m c2 ys hs hx hown hrow hm2 (by omega) hB fun A' c' w' h1 h2 _ => ?_
    rw [Nat.zero_add] at h1 ⊢
    exact h A' c' w' (by simpa using h1) h2
end
theorem own_above {α : Type} {E : Enc α} {w w' : World} {B n c g : Nat} {e : TypeId} {A : Option Addr} {l : List α} (h : Own E w B e A n c l) (hg : w.grownBy w' (some g)) (hgB : g < B) : Own E w' B e A n c l := by
  refine h.kept hg ?_
  rcases h.form with ⟨h1, _⟩ | ⟨g', h1, h2, _⟩
  · left; rw [h1]; rfl
  · right; rw [h1]; simp [Value.ownBlock]; omega
theorem okTo_lt {xs : List Int} (h : OkTo xs xs.length) {i j : Nat} (hij : i < j) (hj : j < xs.length) : gi xs i < gi xs j := by
  have := List.pairwise_iff_getElem.1 (okTo_sorted h) i j (by omega) hj hij
  simpa [gi, List.getD_eq_getElem?_getD, show i < xs.length by omega, hj] using this
theorem okTo_le {xs : List Int} (h : OkTo xs xs.length) {i j : Nat} (hij : i ≤ j) (hj : j < xs.length) : gi xs i ≤ gi xs j := by
  by_cases e : i = j
  · subst e; omega
  · have := okTo_lt h (i := i) (j := j) (by omega) hj
    omega
theorem mir_gi {L : List Int} {k : Nat} (hk : k < L.length) : gi (mir L) k = mirE L - gi L (L.length - 1 - k) := mir_at hk
theorem mirE_mir {L : List Int} (h : 1 ≤ L.length) : mirE (mir L) = mirE L := by
  unfold mirE
  rw [mir_len, mir_gi (by omega), mir_gi (by omega)]
  rw [show L.length - 1 - (L.length - 1) = 0 by omega, Nat.sub_zero]
  unfold mirE
  omega
theorem gi_ext {l m : List Int} (hl : l.length = m.length) (h : ∀ k, k < l.length → gi l k = gi m k) : l = m := sameTo_end hl h
theorem mir_mir {L : List Int} (h : 1 ≤ L.length) : mir (mir L) = L := by
  refine gi_ext (by rw [mir_len, mir_len]) fun k hk => ?_
  rw [mir_len, mir_len] at hk
  rw [mir_gi (by rw [mir_len]; exact hk), mirE_mir h, mir_len, mir_gi (by omega), show L.length - 1 - (L.length - 1 - k) = k by omega]
  omega
theorem sh0_gi {L : List Int} {k : Nat} (hk : k < L.length) : gi (sh0 L) k = gi L k - gi L 0 := by
  unfold gi sh0
  rw [map_getD hk]
  rfl
theorem sh0_mir {L : List Int} (h : 1 ≤ L.length) : sh0 (mir L) = mir (sh0 L) := by
  refine gi_ext (by rw [sh0_len, mir_len, mir_len, sh0_len]) fun k hk => ?_
  rw [sh0_len, mir_len] at hk
  rw [sh0_gi (by rw [mir_len]; exact hk), mir_gi hk, mir_gi (by omega), mir_gi (by rw [sh0_len]; exact hk)]
  unfold mirE
  rw [sh0_len, sh0_gi (by omega), sh0_gi (by omega), sh0_gi (by omega), Nat.sub_zero]
  omega
theorem bef_total : ∀ {a b : List Int}, befB a b = false → befB b a = true
  | [], _, h => by simp [befB] at h
  | x :: a, [], h => by simp [befB] at h
  | x :: a, y :: b, h => by
    unfold befB at h ⊢
    by_cases e : x = y
    · rw [if_pos e] at h
      rw [if_pos e.symm]
      exact bef_total h
    · rw [if_neg e] at h
      rw [if_neg (Ne.symm e)]
      simp at h ⊢
      omega
theorem bef_anti : ∀ {a b : List Int}, a.length = b.length → befB a b = true → befB b a = true → a = b
  | [], [], _, _, _ => rfl
  | x :: a, y :: b, hl, h1, h2 => by
    unfold befB at h1 h2
    by_cases e : x = y
    · rw [if_pos e] at h1
      rw [if_pos e.symm] at h2
      rw [e, bef_anti (by simpa using hl) h1 h2]
    · rw [if_neg e] at h1
      rw [if_neg (Ne.symm e)] at h2
      simp at h1 h2
      omega
/-- The mirror image has the same normal form. -/
theorem nor_mir {L : List Int} (h : 1 ≤ L.length) : norF (mir L) = norF L := by
  have ho : 1 ≤ (sh0 L).length := by rw [sh0_len]; exact h
  unfold norF norB
  rw [sh0_mir h, mir_mir ho]
  cases h1 : befB (sh0 L) (mir (sh0 L)) with
  | true =>
    cases h2 : befB (mir (sh0 L)) (sh0 L) with
    | true =>
      have := bef_anti (by rw [mir_len]) h1 h2
      simp
      exact this.symm
    | false => simp
  | false =>
    rw [bef_total h1]
    simp
theorem errC_mir {xs : List Int} (h : errC xs = 0) : errC (mir xs) = 0 := by
  obtain ⟨h1, h2, h3, h4⟩ := errC_ok.1 h
  refine errC_fine (by rw [mir_len]; exact h1) (by rw [mir_len]; exact h2) ?_ ?_
  · intro i hi
    rw [mir_len] at hi
    have b0 := okTo_bd h3 (i := 0) (by omega)
    have b1 := okTo_bd h3 (i := xs.length - 1) (by omega)
    have c0 := okTo_le h3 (i := 0) (j := xs.length - 1 - i) (by omega) (by omega)
    have c1 := okTo_le h3 (i := xs.length - 1 - i) (j := xs.length - 1) (by omega) (by omega)
    refine okB_iff.2 ?_
    rw [mir_at hi]
    unfold mirE
    refine ⟨?_, ?_, ?_⟩
    · unfold gi at c0 c1 ⊢; omega
    · unfold gi at c0 c1 ⊢; omega
    · by_cases e : i = 0
      · exact .inl e
      · right
        rw [mir_at (by omega)]
        have := okTo_lt h3 (i := xs.length - 1 - i) (j := xs.length - 1 - (i - 1)) (by omega) (by omega)
        unfold mirE
        omega
  · have e0 := mir_gi (L := xs) (k := 0) (by omega)
    have e1 := mir_gi (L := xs) (k := xs.length - 1) (by omega)
    rw [Nat.sub_zero] at e0
    rw [show xs.length - 1 - (xs.length - 1) = 0 by omega] at e1
    unfold ext at h4 ⊢
    rw [mir_len]
    unfold gi at e0 e1
    rw [e0, e1]
    omega
theorem mirV_len (xs : List Int) : (mirV xs).length ≤ 36 := by
  by_cases h : errC xs = 0
  · rw [mirV_ok h, mir_len]
    have := (errC_ok.1 h).2.1
    omega
  · rw [mirV_no h]
    simp
set_option maxRecDepth 100000 in
set_option maxHeartbeats 4000000 in
theorem EchoMirrors_walk (A : Option Addr) (n c : Nat) (xs : List Int) (w : World) (h : R E1 w A n c xs) :
    Calls Try.prog 5 #[.slice A n c] w fun e w' => e = .returned (.bool true) ∧ Below w.heap.size w w' := by
  have HX := hide h
  have HL := hide h.length
  have hm9 := h.le
  have HSL := hide (mirV_len xs)
  clear h
  by_cases hn : 100 < n
  · have HLn := hide (show decide (100 < n) = true from by simpa using hn)
    go_enter Try.func5, Try.ntmps5
    go_wp2_with (first
      | (go_at_call 18; refine (Long1_any A n c w hm9).mono ?_; rintro e w1 ⟨rfl, b1⟩; have D1 := hide b1; clear b1; rw [HLn.out])
      | (go_at_call 19; refine (sane_any _).mono ?_; rintro e w2 ⟨rfl, b2⟩; have D2 := hide b2; clear b2))
    go_ret
    exact ⟨rfl, (le_call D1.out D2.out)⟩
  · have HLn := hide (show decide (100 < n) = false from by simpa using hn)
    by_cases he : errC xs = 0
    · have HE := hide he
      have hn1 := (errC_ok.1 he).1
      have hn6 := (errC_ok.1 he).2.1
      rw [HL.out] at hn1 hn6
      have hv := mirV_ok he
      have HVL := hide (show (mirV xs).length = n from by rw [hv, mir_len, HL.out])
      have HME := hide (show errC (mirV xs) = 0 from by rw [hv]; exact errC_mir he)
      have HMM := hide (show mirV (mirV xs) = xs from by rw [mirV_ok HME.out, hv]; exact mir_mir (by rw [HL.out]; exact hn1))
      have HEB := hide (show errB xs (mirV xs) = 0 from by unfold errB; rw [if_pos he]; exact HME.out)
      have HAL := hide (show alkV xs (mirV xs) = true from by rw [alkV_ok HEB.out, hv, nor_mir (by rw [HL.out]; exact hn1)]; simp)
      have HSA := hide (show samV xs (mirV xs) = true from by
        have h1 := alike_same xs (mirV xs)
        rw [HAL.out] at h1
        simpa using h1)
      clear he hv
      go_enter Try.func5, Try.ntmps5
      go_wp2_with (first
        | (go_at_call 18; refine (Long1_any A n c w hm9).mono ?_; rintro e w1 ⟨rfl, b1⟩; have D1 := hide b1; clear b1; rw [HLn.out])
        | (at_builtin; refine wpList_appX (E := E1) _ (.int .i64 0) 8 rfl (.tmp 19) (.tmp 20) 22 3 rfl Try.underlying22 info_int rfl (by decide) (by omega) w1.heap.size w1.heap.size A n c xs rfl rfl (Own.lit w1 [] (Nat.le_refl _) (by simp)) ((HX.out.below D1.out (Nat.le_refl _)).below ((Below.refl _ w1).alloc (Nat.le_refl _) _) (Nat.le_refl _)) (by omega) (by simp) ?_; intro A2 c2 w2 o2 b2; have HO2 := hide o2; have D2 := hide (((Below.refl _ w1).alloc (Nat.le_refl _) _).trans b2); clear o2 b2)
        | (go_at_call_of 33 (Value.slice A2 n c2); refine (Mirror_any A2 n c2 xs _ HO2.out.row (by omega)).mono ?_; rw [HE.out]; rintro e w3 ⟨A3, n3, c3, rfl, o3, b3⟩; have D3 := hide b3; have O3 := hide o3; have HN3 := hide o3.len; clear o3 b3)
        | (go_at_call 34; refine (rMirror_any A n c xs _ (((HX.out.below D1.out (Nat.le_refl _)).below D2.out (Nat.le_refl _)).below D3.out (Nat.le_refl _)) (by omega)).mono ?_; rw [HE.out]; rintro e w4 ⟨A4, n4, c4, rfl, o4, b4⟩; have D4 := hide b4; have O4 := hide o4; have HN4 := hide o4.len; clear o4 b4)
        | (go_at_call_of 26 (Value.slice A3 n3 c3); refine (SameInts_any A3 n3 c3 A4 n4 c4 (mirV xs) (mirV xs) _ (O3.out.row.below D4.out (Nat.le_refl _)) O4.out.row (by have h1 := HN3.out; have h2 := HSL.out; omega) (by have h1 := HN4.out; have h2 := HSL.out; omega)).mono ?_; rintro e w5 ⟨rfl, q5, hw5⟩; have D5 := hide (show Below w4.heap.size w4 w5 from by rw [hw5]; exact below_drewN (Below.refl _ _) q5); clear hw5; rw [beq_self_eq_true])
        | (go_at_call_of 33 (Value.slice A3 n3 c3); refine (Mirror_any A3 n3 c3 (mirV xs) _ ((O3.out.row.below D4.out (Nat.le_refl _)).below D5.out (Nat.le_refl _)) (by have h1 := HN3.out; have h2 := HSL.out; omega)).mono ?_; rw [HME.out, HMM.out]; rintro e w6 ⟨A6, n6, c6, rfl, o6, b6⟩; have D6 := hide b6; have O6 := hide o6; have HN6 := hide o6.len; clear o6 b6)
        | (go_at_call 31; refine (Alike_any A n c xs A3 n3 c3 (mirV xs) _ ((((((HX.out.below D1.out (Nat.le_refl _)).below D2.out (Nat.le_refl _)).below D3.out (Nat.le_refl _)).below D4.out (Nat.le_refl _)).below D5.out (Nat.le_refl _)).below D6.out (Nat.le_refl _)) (((O3.out.row.below D4.out (Nat.le_refl _)).below D5.out (Nat.le_refl _)).below D6.out (Nat.le_refl _)) (by omega) (by have h1 := HN3.out; have h2 := HSL.out; omega)).mono ?_; rw [HAL.out, HEB.out]; rintro e w7 ⟨rfl, b7⟩; have D7 := hide b7; clear b7)
        | (go_at_call 29; refine (Same_any A n c xs A3 n3 c3 (mirV xs) _ (((((((HX.out.below D1.out (Nat.le_refl _)).below D2.out (Nat.le_refl _)).below D3.out (Nat.le_refl _)).below D4.out (Nat.le_refl _)).below D5.out (Nat.le_refl _)).below D6.out (Nat.le_refl _)).below D7.out (Nat.le_refl _)) ((((O3.out.row.below D4.out (Nat.le_refl _)).below D5.out (Nat.le_refl _)).below D6.out (Nat.le_refl _)).below D7.out (Nat.le_refl _)) (by omega) (by have h1 := HN3.out; have h2 := HSL.out; omega)).mono ?_; rw [HSA.out, HEB.out]; rintro e w8 ⟨rfl, b8⟩; have D8 := hide b8; clear b8))
      obtain rfl : n3 = n := by rw [← HN3.out, HVL.out]
      obtain ⟨ga, rfl, hga, hga', hnc, hcm⟩ := O3.out.addr hn1
      have hcm' : c3 ≤ 9223372036854775807 := hcm
      clear hcm
      have HO8 := hide (((((O3.out.below D4.out (Nat.le_refl _)).below D5.out (Nat.le_refl _)).below D6.out (Nat.le_refl _)).below D7.out (Nat.le_refl _)).below D8.out (Nat.le_refl _))
      have s1 := D1.out.size
      have s2 := D2.out.size
      have s3 := D3.out.size
      have s4 := D4.out.size
      have s5 := D5.out.size
      have s6 := D6.out.size
      have s7 := D7.out.size
      have s8 := D8.out.size
      have T0 := hide ((le_call (le_call (le_call (le_call (le_call (le_call (le_call D1.out D2.out) D3.out) D4.out) D5.out) D6.out) D7.out) D8.out))
      have T2 := hide ((le_call (le_call (le_call (le_call (le_call D3.out D4.out) D5.out) D6.out) D7.out) D8.out))
      go_loopw [14] (fun i wr => ∃ (k : Nat) (l : List Int), k ≤ n3 ∧ i = .int .i64 k ∧ Hid (Own E1 wr w2.heap.size 3 (some ⟨ga, 0, none⟩) n3 c3 l) ∧ Hid (w8.grownBy wr (some ga))) (fun i _ => n3 - (intOf i).toNat)
      case atStart => exact ⟨0, _, Nat.zero_le _, rfl, HO8, hide (gb_refl _ _)⟩
      case round =>
        obtain ⟨k, l, hk, rfl, HOw, HG⟩ := hrel
        by_cases hlt : k < n3
        · have a1 := own1 HOw.out hlt
          have f1 := HOw.out.frozen k
          have i1 : (k : Int) < (n3 : Int) := by omega
          have HST := hide (HOw.out.stored1 hlt 1000)
          have hkc : k < c3 := by omega
          generalize gi l k = x at a1
          go_wp2_with fail
          go_roundw
          case rel => exact ⟨k + 1, _, by omega, by go_num, HST, hide (gb_set HG.out k _)⟩
          case measure => simp [intOf]; omega
        · obtain rfl : k = n3 := by omega
          obtain ⟨w9, hw9⟩ : ∃ w9, w9 = wr := ⟨wr, rfl⟩
          subst hw9
          have U0 := hide (T0.out.trans (below_gb HG.out (b := w.heap.size) (by omega) (by omega)))
          have U2 := hide (T2.out.trans (below_gb HG.out (b := w2.heap.size) hga (by omega)))
          have HX9 := hide (HX.out.below U0.out (Nat.le_refl _))
          have HO9 := hide (HO2.out.row.below U2.out (Nat.le_refl _))
          have HA9 := hide (own_above ((O6.out.below D7.out (Nat.le_refl _)).below D8.out (Nat.le_refl _)) HG.out (by have := O3.out.live ga rfl; omega)).row
          clear HOw HG HO8
          go_wp2_with (first
            | (go_at_call_of 26 (Value.slice A6 n6 c6); refine (SameInts_any A6 n6 c6 A k c xs xs _ HA9.out HX9.out (by have h1 := HN6.out; have h2 := HL.out; omega) (by omega)).mono ?_; rintro e w10 ⟨rfl, q10, hw10⟩; have D10 := hide (show Below w9.heap.size w9 w10 from by rw [hw10]; exact below_drewN (Below.refl _ _) q10); clear hw10; rw [beq_self_eq_true])
            | (go_at_call_of 26 (Value.slice A2 k c2); refine (SameInts_any A2 k c2 A k c xs xs _ (HO9.out.below D10.out (Nat.le_refl _)) (HX9.out.below D10.out (Nat.le_refl _)) (by omega) (by omega)).mono ?_; rintro e w11 ⟨rfl, q11, hw11⟩; have D11 := hide (show Below w10.heap.size w10 w11 from by rw [hw11]; exact below_drewN (Below.refl _ _) q11); clear hw11; rw [beq_self_eq_true])
            | (go_at_call 19; refine (sane_any _).mono ?_; rintro e w12 ⟨rfl, b12⟩; have D12 := hide b12; clear b12))
          go_ret
          exact ⟨ret_bool (by simp), le_call U0.out (le_call (le_call D10.out D11.out) D12.out)⟩
    · have hne : (errC xs != 0) = true := by simpa using he
      clear he
      go_enter Try.func5, Try.ntmps5
      go_wp2_with (first
        | (go_at_call 18; refine (Long1_any A n c w hm9).mono ?_; rintro e w1 ⟨rfl, b1⟩; have D1 := hide b1; clear b1; rw [HLn.out])
        | (at_builtin; refine wpList_appX (E := E1) _ (.int .i64 0) 8 rfl (.tmp 19) (.tmp 20) 22 3 rfl Try.underlying22 info_int rfl (by decide) (by omega) w1.heap.size w1.heap.size A n c xs rfl rfl (Own.lit w1 [] (Nat.le_refl _) (by simp)) ((HX.out.below D1.out (Nat.le_refl _)).below ((Below.refl _ w1).alloc (Nat.le_refl _) _) (Nat.le_refl _)) (by omega) (by simp) ?_; intro A2 c2 w2 o2 b2; have HO2 := hide o2; have D2 := hide (((Below.refl _ w1).alloc (Nat.le_refl _) _).trans b2); clear o2 b2)
        | (go_at_call 33; refine (Mirror_any A2 n c2 xs _ HO2.out.row (by omega)).mono ?_; rintro e w3 ⟨A3, n3, c3, rfl, o3, b3⟩; have D3 := hide b3; have O3 := hide o3; have HN3 := hide o3.len; clear o3 b3)
        | (go_at_call 34; refine (rMirror_any A n c xs _ (((HX.out.below D1.out (Nat.le_refl _)).below D2.out (Nat.le_refl _)).below D3.out (Nat.le_refl _)) (by omega)).mono ?_; rintro e w4 ⟨A4, n4, c4, rfl, o4, b4⟩; have D4 := hide b4; have O4 := hide o4; have HN4 := hide o4.len; clear o4 b4)
        | (go_at_call_of 26 (Value.slice A3 n3 c3); refine (SameInts_any A3 n3 c3 A4 n4 c4 (mirV xs) (mirV xs) _ (O3.out.row.below D4.out (Nat.le_refl _)) O4.out.row (by have h1 := HN3.out; have h2 := HSL.out; omega) (by have h1 := HN4.out; have h2 := HSL.out; omega)).mono ?_; rintro e w5 ⟨rfl, q5, hw5⟩; have D5 := hide (show Below w4.heap.size w4 w5 from by rw [hw5]; exact below_drewN (Below.refl _ _) q5); clear hw5; rw [beq_self_eq_true])
        | (go_at_call 19; refine (sane_any _).mono ?_; rintro e w6 ⟨rfl, b6⟩; have D6 := hide b6; clear b6))
      go_ret
      exact ⟨rfl, (le_call (le_call (le_call (le_call (le_call D1.out D2.out) D3.out) D4.out) D5.out) D6.out)⟩
end Go.Proofs.Ytllfkhcpdgdmnaa
