/- Which rosters are right, and how many keepers they need. -/
import Derived.Test.YtpkjgnllkaafkaaReg
namespace Go.Proofs.Ytpkjgnllkaafkaa
open Go.RowKit Go.Shelf
attribute [local go_sem] Oper.semAt_some

theorem own_grown_below {α : Type} {E : Enc α} {w w' : World} {B n c : Nat} {e : TypeId} {A : Option Addr} {l : List α} (h : Own E w B e A n c l) (hB : B ≤ w.heap.size) (hg : w.grownBy w' (Value.slice A n c).ownBlock) : Below B w w' := by
  refine (Below.refl B w).grown hg hB fun k hk => ?_
  rcases h.form with ⟨rfl, _⟩ | ⟨g, rfl, hb, _⟩
  · simp [Value.ownBlock] at hk
  · simp [Value.ownBlock] at hk; omega
def RosPost (xs : Ls) (r : List Int) (w : World) (e : Ending) (w' : World) : Prop := e = .returned (.tuple #[.int .i64 (rosV xs r), .int .i64 (rosE xs r)]) ∧ Below w.heap.size w w'
set_option maxRecDepth 100000 in
set_option maxHeartbeats 4000000 in
theorem CheckRoster_any (A : Option Addr) (n c : Nat) (xs : Ls) (A' : Option Addr) (n' c' : Nat) (r : List Int) (w : World) (h : R E3 w A n c xs) (hn : n ≤ 1000) (h' : R E1 w A' n' c' r) (hn' : n' ≤ 1000) :
    Calls Try.prog 30 #[.slice A n c, .slice A' n' c'] w (RosPost xs r w) := by
  have HLX := hide h.length
  have HLR := hide h'.length
  have HX := hide h
  have HR := hide h'
  clear h h'
  by_cases he : errV xs = 0
  · have hn12 : n ≤ 12 := by have h1 := errV_le he; have := HLX.out; omega
    have HE := hide he
    by_cases hl : n' = n
    · obtain rfl := hl
      have HLL := hide (show r.length = xs.length by rw [HLR.out, HLX.out])
      by_cases hk : r.all kOk = true
      · have HK := hide hk
        clear hk he
        refine (callsIn_wide (n := 3)).1 ?_
        refine callsIn_of_wp_marks Try.func30 rfl trivial ?_ rfl
        simp only [Try.ntmps30, List.size_toArray, List.length_cons, List.length_nil, Nat.reduceAdd, Nat.reduceSub, Array.replicate_succ, Array.replicate_zero, List.push_toArray, List.append_toArray, List.nil_append, List.cons_append]
        gi_wp2_with (refine ⟨trivial, ?_⟩; gi_at_call 23; refine (callsIn_wide.2 (Validate_any _ _ _ xs _ (HX.out.below ((((Below.refl _ _).alloc (Nat.le_refl _) _).alloc (by simp) _).alloc (by simp; omega) _) (Nat.le_refl _)) hn)).mono ?_; rintro e w1 ⟨rfl, b1⟩; rw [HE.out]; have bR : Boxed w1 w.heap.size 30 (.slice A' n' c') := (b1.block _ (by simp <;> omega)).trans (((Boxed.new w 30 (.slice A' n' c')).alloc (.cells #[.int .i64 0] 3)).alloc (.cells #[.int .i64 0] 25)); have bV : Boxed w1 (w.heap.size + 1) 3 (.int .i64 0) := (b1.block _ (by simp <;> omega)).trans (by have h := (Boxed.new (w.alloc (.cells #[.slice A' n' c'] 30)) 3 (.int .i64 0)).alloc (.cells #[.int .i64 0] 25); rwa [World.size_alloc] at h); have bE : Boxed w1 (w.heap.size + 1 + 1) 25 (.int .i64 0) := (b1.block _ (by simp <;> omega)).trans (by have h := Boxed.new ((w.alloc (.cells #[.slice A' n' c'] 30)).alloc (.cells #[.int .i64 0] 3)) 25 (.int .i64 0); simp only [World.size_alloc] at h; exact h); have cR := bR.cell; have cV := bV.cell; have cE := bE.cell; have fV := bV.frozen; have fE := bE.frozen; have HBR := hide bR; have HBV := hide bV; have HBE := hide bE; have HB1 := hide ((((((Below.refl _ w).alloc (Nat.le_refl _) _).alloc (by simp) _).alloc (by simp; omega) _).trans (b1.mono (by simp; omega))) : Below w.heap.size w w1); have hz1 : w.heap.size + 3 ≤ w1.heap.size := (by have := b1.size; simp at this; omega); clear b1 bR bV bE)
        gi_loopw [24] (fun i wr => ∃ k : Nat, k ≤ n' ∧ i = .int .i64 k ∧ w1 = wr) (fun i _ => n' - (intOf i).toNat)
        case atStart => exact ⟨0, Nat.zero_le _, rfl, rfl⟩
        case round =>
          obtain ⟨k, hk, rfl, rfl⟩ := hrel
          by_cases hlt : k < n'
          · obtain ⟨b', off', hr⟩ := HR.out.below HB1.out (Nat.le_refl _)
            obtain rfl := hr.at_ (by omega)
            have hbl := hr.lt (by omega)
            have a1 := c1 hr hlt
            have hcap := hr.cap
            have hmax := hr.max
            clear hr
            have hx1 := kOk_iff.1 (List.all_eq_true.1 HK.out _ (gi_mem (I := r) (k := k) (by rw [HLR.out]; exact hlt)))
            have hx' : r.getD k 0 = gi r k := rfl
            rw [hx'] at a1
            clear hx'
            generalize gi r k = x at *
            obtain ⟨hb1, hb2⟩ := hx1
            gi_wp2
            go_roundw
            case rel => exact ⟨k + 1, by omega, by go_num, trivial⟩
            case measure => simp [intOf]; omega
          · obtain rfl : k = n' := by omega
            gi_wp2_with (refine ⟨trivial, ?_⟩; gi_at_call 68; refine (callsIn_wide.2 (overlaps_any _ _ _ _)).mono ?_; rintro e w2 ⟨rfl, rfl⟩)
            obtain ⟨b, off, hrx, hb0⟩ : ∃ b off, RAt E3 w A k c xs b off ∧ (b < w.heap.size ∨ b = w1.heap.size) := by
              obtain ⟨b, off, hr⟩ := HX.out
              by_cases h0 : k = 0
              · subst h0
                exact ⟨w1.heap.size, 0, ⟨hr.len, hr.cap, hr.max, fun h => by omega, fun h => by omega, fun k hk => by omega⟩, .inr rfl⟩
              · exact ⟨b, off, hr, .inl (hr.lt (by omega))⟩
            have hB2 : Below w.heap.size w (w1.alloc (.cells #[.slice A k c] 22)) := HB1.out.alloc HB1.out.size _
            have bS := Boxed.new w1 22 (.slice A k c)
            have bR := HBR.out.alloc (.cells #[.slice A k c] 22)
            have bV := HBV.out.alloc (.cells #[.slice A k c] 22)
            have bE := HBE.out.alloc (.cells #[.slice A k c] 22)
            have hsz : (w1.alloc (.cells #[.slice A k c] 22)).heap.size = w1.heap.size + 1 := by simp
            have hrx2 := hrx.below hB2 (Nat.le_refl _)
            obtain ⟨w2, hw2⟩ : ∃ w2, w1.alloc (.cells #[.slice A k c] 22) = w2 := ⟨_, rfl⟩
            rw [hw2] at hB2 bS bR bV bE hsz hrx2 ⊢
            clear hw2 hrx
            have hs2 : w1.heap.size + 1 ≤ w2.heap.size := by omega
            have hs3 : w2.heap.size ≤ w1.heap.size + 1 := by omega
            clear hsz
            refine wpIn_rangeFunc_ownG rfl (by omega) (gf := 91) (lb := #[.pointer (some ⟨w1.heap.size, 0, none⟩)]) rfl trivial (enters_of Try.func91 (by kernel_rfl) rfl)
              (overlaps_stops w1.heap.size b off k c A xs hn12 w2 (by omega) bS.cell hrx2) KB2.trans (fun W l o o' hl h1 h2 h3 => ⟨KB.putObj (B := w2.heap.size) (by omega) W l o o' hl h1 h2 h3, KB.putObj (B := w2.heap.size) (by omega) W l o o' hl h1 h2 h3⟩) (Below.refl _ _) (fun _ => rfl)
              (fun pre W => (∀ q ∈ vals pre, gi r q.1 ≠ gi r q.2) ∧ (Boxed W (w.heap.size + 1) 3 (.int .i64 0) ∧ (Boxed W (w.heap.size + 1 + 1) 25 (.int .i64 0) ∧ (Boxed W w.heap.size 30 (.slice A' k c') ∧ Below w.heap.size w W))))
              (fun cd pre W => (cd = .ret ∧ ∃ ini q, vals pre = ini ++ [q] ∧ gi r q.1 = gi r q.2) ∧ (Boxed W (w.heap.size + 1) 3 (.int .i64 0) ∧ (Boxed W (w.heap.size + 1 + 1) 25 (.int .i64 6) ∧ Below w.heap.size w W)))
              (OwnFrom.and (ownFrom_pure _ _) (OwnFrom.and (Go.Own.from (boxed_own _ _ _) _) (OwnFrom.and (Go.Own.from (boxed_own _ _ _) _) (OwnFrom.and (Go.Own.from (boxed_own _ _ _) _) (ownFrom_below (Nat.le_refl _) (by omega))))))
              (fun cd => OwnFrom.and (ownFrom_pure _ _) (OwnFrom.and (Go.Own.from (boxed_own _ _ _) _) (OwnFrom.and (Go.Own.from (boxed_own _ _ _) _) (ownFrom_below (Nat.le_refl _) (by omega)))))
              ⟨by intro q hq; simp [vals] at hq, bV, bE, bR, hB2⟩
              (fun x => { tmps := #[.slice A k c, .slice A' k c', undef, .pointer (some ⟨w.heap.size, 0, none⟩), .pointer (some ⟨w.heap.size + 1, 0, none⟩), .pointer (some ⟨w.heap.size + 1 + 1, 0, none⟩), .int .i64 0, undef, u8, .int .i64 x.1.1, .int .i64 x.1.2, undef, .slice A k c, .int .i64 0, .int .i64 0, .bool false, undef, .slice A' k c', .int .i64 k, .slice A k c, .int .i64 k, .bool false, .slice A' k c', .int .i64 k, .int .i64 k, .bool false, u26, u27, u28, u29, u30, u31, u32, u33, u34, .slice A k c, .func (.func 91) #[] #[.pointer (some ⟨w1.heap.size, 0, none⟩)], .int .i64 x.1.1, .int .i64 x.1.2, undef, undef, undef, undef, undef, undef, undef, undef, undef, undef, undef, undef, undef, undef, undef, undef], defers := [] })
              ?assign ?body ?done ?stop
            case assign =>
              intro l x W K hK
              dsimp only [epE]
              gi_wp2
              exact hK
            case body =>
              rintro l pre x W ⟨hq, bV1, bE1, bR1, hB1⟩ _
              obtain ⟨⟨i, j⟩, hij1, hij2⟩ := x
              have hR2 := HR.out.below hB1 (Nat.le_refl _)
              obtain ⟨b', off', hr'⟩ := hR2
              obtain rfl := hr'.at_ (by omega)
              have hbl := hr'.lt (by omega)
              have a1 := c1 hr' hij1
              have d1 := c1 hr' hij2
              have e1 : r.getD i 0 = gi r i := rfl
              have e2 : r.getD j 0 = gi r j := rfl
              rw [e1] at a1
              rw [e2] at d1
              have hcap := hr'.cap
              have hmax := hr'.max
              clear e1 e2 hr'
              have hx : ∃ y, gi r i = y := ⟨_, rfl⟩
              obtain ⟨y, hx⟩ := hx
              have hy : ∃ z, gi r j = z := ⟨_, rfl⟩
              obtain ⟨z, hy⟩ := hy
              rw [hx] at a1
              rw [hy] at d1
              have HXI := hide hx
              have HYJ := hide hy
              have HQ := hide hq
              have cR1 := bR1.cell
              have cV1 := bV1.cell
              have cE1 := bE1.cell
              have fV1 := bV1.frozen
              have fE1 := bE1.frozen
              have HBV1 := hide bV1
              have HBE1 := hide bE1
              have HBR1 := hide bR1
              have HB1' := hide hB1
              have HVS := hide (vals_snoc pre ⟨(i, j), hij1, hij2⟩)
              have i1 : (i : Int) < (k : Int) := by omega
              have i2 : (j : Int) < (k : Int) := by omega
              have hmix : Try.prog.follows .mixedOrders = true := by kernel_rfl
              clear hx hy hq bV1 bE1 bR1 hB1
              dsimp only at *
              gi_wp2
              by_cases hyz : y = z
              · have HSEM := hide (show ¬ ∀ q ∈ vals (pre ++ [⟨(i, j), hij1, hij2⟩]), gi r q.1 ≠ gi r q.2 from fun hh => hh (i, j) (by rw [HVS.out]; simp) (by rw [HXI.out, HYJ.out, hyz]))
                subst hyz
                refine wpIn_region_any (by kernel_rfl) (reg15_in l _ _ _ _ _ _ _ _ _ W cR1 a1 d1 i1 i2 hcap hmax ?_)
                gi_wp2
                exact ⟨(((KeepsOthers.setCell _ _ _).trans (KeepsOthers.setCell _ _ _)).trans (KeepsOthers.drew _)).from _, ⟨rfl, vals pre, (i, j), HVS.out, HXI.out.trans HYJ.out.symm⟩, (HBV1.out.set _).other (by omega) _, (HBE1.out.other (by omega) _).set _, ((HB1'.out.setCell (p := ⟨w.heap.size + 1, 0, none⟩) (by simp) _).setCell (p := ⟨w.heap.size + 1 + 1, 0, none⟩) (by simp; omega) _).drew⟩
              · have hne : (y == z) = false := by simpa using hyz
                refine wpIn_region_any (by kernel_rfl) (reg15_in l _ _ _ _ _ _ _ _ _ W cR1 a1 d1 i1 i2 hcap hmax ?_)
                gi_wp2
                refine ⟨(KeepsOthers.drew _).from _, ⟨⟨Nat.le_refl _, rfl⟩, ⟨Nat.le_refl _, rfl⟩⟩, ?_, HBV1.out, HBE1.out, HBR1.out, HB1'.out.drew⟩
                intro q hq
                rw [HVS.out] at hq
                rcases List.mem_append.1 hq with hq | hq
                · exact HQ.out q hq
                · simp at hq
                  subst hq
                  show gi r i ≠ gi r j
                  rw [HXI.out, HYJ.out]
                  exact hyz
            case done =>
              rintro D ys W hD hys ⟨hq, bV1, bE1, bR1, hB1⟩ hK
              have hright : rgtB xs r = true := by
                unfold rgtB
                rw [List.all_eq_true]
                intro p hp
                rw [HLX.out, ← hys] at hp
                simpa using hq p hp
              have HC := hide (rosE_ok HE.out HLL.out HK.out hright)
              have HV := hide (rosV_ok HC.out)
              have cR1 := bR1.cell
              have HBV1 := hide bV1
              have HBE1 := hide bE1
              have HB1' := hide hB1
              have HKD := hide hK
              have hDW : D < W.heap.size := (Array.getElem?_eq_some_iff.1 hK).1
              clear hright hq hys bV1 bE1 bR1 hB1 hK
              have hpW : w.heap.size + 1 + 1 < W.heap.size := HBE1.out.lt
              gi_wp2_with (first
                | (refine ⟨trivial, ?_⟩; gi_at_call 69; refine (callsIn_wide.2 (CloneI_any _ _ _ r _ (HR.out.below HB1'.out (Nat.le_refl _)) (by omega))).mono ?_; rintro e w4 ⟨A4, c4, rfl, o4, b4⟩; have HO4 := hide o4; have HB4 := hide b4; clear o4 b4)
                | (refine ⟨trivial, ?_⟩; gi_at_call 70; refine (callsIn_wide.2 (SortI_any A4 k c4 r _ _ HO4.out hn12)).mono ?_; rintro e w5 ⟨I, rfl, o5, hp5, hu5, g5⟩; have HO5 := hide o5; have HP5 := hide hp5; have HU5 := hide hu5; have HB5 := hide (own_grown_below HO4.out HB4.out.size g5); have HS5 := hide g5.size; clear o5 hp5 hu5 g5)
                | (refine ⟨trivial, ?_⟩; gi_at_call 71; refine (callsIn_wide.2 (Compact_any A4 k c4 I _ _ HO5.out hn12)).mono ?_; rintro e w6 ⟨A6, m6, c6, rfl, hm6, g6⟩; have HM6 := hide hm6; have HB6 := hide ((HB4.out.trans HB5.out).trans (own_grown_below HO5.out (Nat.le_trans HB4.out.size HS5.out) g6)); have kV := (HB6.out.block _ (by omega)).trans HBV1.out; have kE := (HB6.out.block _ hpW).trans HBE1.out; have HKV := hide (show Boxed w6 (w.heap.size + 1) 3 (.int .i64 0) from kV); have HKE := hide (show Boxed w6 (w.heap.size + 1 + 1) 25 (.int .i64 0) from kE); have cV6 := HKV.out.cell; have fV6 := HKV.out.frozen; have cE6 := HKE.out.cell; have fE6 := HKE.out.frozen; clear hm6 g6 kV kE))
              have hK6 : w6.heap[D]? = some (.deferred (some [])) := (HB6.out.block D hDW).trans HKD.out
              have hKF := ((KeepsOthers.setCell w6 ⟨w.heap.size + 1, 0, none⟩ (.int .i64 (m6 : Nat))).trans (KeepsOthers.setCell _ ⟨w.heap.size + 1 + 1, 0, none⟩ (.int .i64 0))).same D _ hK6 rfl
              have kV2 := (HKV.out.set (.int .i64 (m6 : Nat))).other (B' := w.heap.size + 1 + 1) (by omega) (.int .i64 0)
              have kE2 := (HKE.out.other (B' := w.heap.size + 1) (by omega) (.int .i64 (m6 : Nat))).set (.int .i64 0)
              have hcV := cell_kept kV2.cell (grownBy_putObj' _ D (.deferred none)) (fun r e => by cases e; exact ⟨_, hKF, rfl⟩)
              have hcE := cell_kept kE2.cell (grownBy_putObj' _ D (.deferred none)) (fun r e => by cases e; exact ⟨_, hKF, rfl⟩)
              have hmm : m6 = dst r := by
                rw [HM6.out, cmpL_dst I (uptoi_sorted (by rw [HO5.out.len]; exact HU5.out)), dst_perm HP5.out]
              refine ⟨by simp, .inl ⟨_, _, rfl, run_takeDeferred hKF, ?_⟩⟩
              refine ⟨.tuple #[.int .i64 (m6 : Nat), .int .i64 0], by simp [results, Try.f30, go_sem, hcV, hcE], by rw [HC.out, HV.out, hmm], ?_⟩
              exact (((HB1'.out.trans (HB6.out.mono HB1'.out.size)).setCell (p := ⟨w.heap.size + 1, 0, none⟩) (by simp) _).setCell (p := ⟨w.heap.size + 1 + 1, 0, none⟩) (by simp; omega) _).trans (belowK_b (w := w) (Nat.le_refl _) _ D _ _ (by omega) hKF rfl rfl)
            case stop =>
              rintro D cd pre W hD ⟨q, hpre⟩ ⟨⟨rfl, ini, z, hz1, hz2⟩, bV1, bE1, hB1⟩ hK
              have hno : ¬ rgtB xs r = true := by
                rw [rgtB_iff]
                refine right_not (p := z) ?_ hz2
                rw [HLX.out, ← hpre, hz1]
                simp
              have HC := hide (rosE_no HE.out HLL.out HK.out hno)
              have HV := hide (rosV_no HC.out (by decide))
              have hcV := cell_kept bV1.cell (grownBy_putObj' _ D (.deferred none)) (fun r e => by cases e; exact ⟨_, hK, rfl⟩)
              have hcE := cell_kept bE1.cell (grownBy_putObj' _ D (.deferred none)) (fun r e => by cases e; exact ⟨_, hK, rfl⟩)
              have hb0 := belowK_b (w := w) (Nat.le_refl _) W D (.deferred (some [])) (.deferred none) (by omega) hK rfl rfl
              have HB1' := hide hB1
              clear hno hz2 hz1 hpre bV1 bE1 hB1
              gi_wp2
              refine ⟨by simp, .inl ⟨_, _, rfl, run_takeDeferred hK, ?_⟩⟩
              exact ⟨.tuple #[.int .i64 0, .int .i64 6], by simp [results, Try.f30, go_sem, hcV, hcE], by rw [HC.out, HV.out], HB1'.out.trans hb0⟩
      · have HC := hide (rosE_k he HLL.out hk)
        have HV := hide (rosV_no HC.out (by decide))
        have HK := hide hk
        clear he hk
        go_enter Try.func30, Try.ntmps30
        go_wp2_with (go_at_call 23; refine (Validate_any _ _ _ xs _ (HX.out.below ((((Below.refl _ _).alloc (Nat.le_refl _) _).alloc (by simp) _).alloc (by simp; omega) _) (Nat.le_refl _)) hn).mono ?_; rintro e w1 ⟨rfl, b1⟩; rw [HE.out]; have bR : Boxed w1 w.heap.size 30 (.slice A' n' c') := (b1.block _ (by simp <;> omega)).trans (((Boxed.new w 30 (.slice A' n' c')).alloc (.cells #[.int .i64 0] 3)).alloc (.cells #[.int .i64 0] 25)); have bV : Boxed w1 (w.heap.size + 1) 3 (.int .i64 0) := (b1.block _ (by simp <;> omega)).trans (by have h := (Boxed.new (w.alloc (.cells #[.slice A' n' c'] 30)) 3 (.int .i64 0)).alloc (.cells #[.int .i64 0] 25); rwa [World.size_alloc] at h); have bE : Boxed w1 (w.heap.size + 1 + 1) 25 (.int .i64 0) := (b1.block _ (by simp <;> omega)).trans (by have h := Boxed.new ((w.alloc (.cells #[.slice A' n' c'] 30)).alloc (.cells #[.int .i64 0] 3)) 25 (.int .i64 0); simp only [World.size_alloc] at h; exact h); have cR := bR.cell; have cV := bV.cell; have cE := bE.cell; have fV := bV.frozen; have fE := bE.frozen; have HBR := hide bR; have HBV := hide bV; have HBE := hide bE; have HB1 := hide ((((((Below.refl _ w).alloc (Nat.le_refl _) _).alloc (by simp) _).alloc (by simp; omega) _).trans (b1.mono (by simp; omega))) : Below w.heap.size w w1); have hz1 : w.heap.size + 3 ≤ w1.heap.size := (by have := b1.size; simp at this; omega); clear b1 bR bV bE)
        go_loopw [24] (fun i wr => ∃ k : Nat, k ≤ n' ∧ i = .int .i64 k ∧ w1 = wr ∧ Hid (KTo r k)) (fun i _ => n' - (intOf i).toNat)
        case atStart => exact ⟨0, Nat.zero_le _, rfl, rfl, hide (fun i hi => by omega)⟩
        case round =>
          obtain ⟨k, hk, rfl, rfl, HT⟩ := hrel
          by_cases hlt : k < n'
          · obtain ⟨b', off', hr⟩ := HR.out.below HB1.out (Nat.le_refl _)
            obtain rfl := hr.at_ (by omega)
            have hbl := hr.lt (by omega)
            have a1 := c1 hr hlt
            have hcap := hr.cap
            have hmax := hr.max
            clear hr
            have HX1 : ∃ x, gi r k = x := ⟨_, rfl⟩
            obtain ⟨x, hx⟩ := HX1
            have hx' : r.getD k 0 = x := hx
            rw [hx'] at a1
            have HXX := hide hx
            clear hx hx'
            by_cases hb : 0 ≤ x ∧ x < 12
            · obtain ⟨hb1, hb2⟩ := hb
              go_wp2_with fail
              go_roundw
              case rel => exact ⟨k + 1, by omega, by go_num, trivial, hide (kTo_succ HT.out (by rw [HXX.out]; exact kOk_iff.2 ⟨hb1, hb2⟩))⟩
              case measure => simp [intOf]; omega
            · by_cases hb1 : x < 0
              all_goals
                go_wp2_with fail
                all_goals first
                  | omega
                  | skip
                have kV := (HBV.out.set (.int .i64 0)).other (B' := w.heap.size + 1 + 1) (by omega) (.int .i64 1)
                have kE := (HBE.out.other (B' := w.heap.size + 1) (by omega) (.int .i64 0)).set (.int .i64 1)
                have kV2 := kV.cell
                have kE2 := kE.cell
                all_goals
                  refine bodyPost_ret (v := .tuple #[.int .i64 0, .int .i64 1]) (by simp [results, Try.f30, go_sem, kV2, kE2]) rfl ⟨by rw [HC.out, HV.out], (HB1.out.setCell (p := ⟨w.heap.size + 1, 0, none⟩) (by simp) _).setCell (p := ⟨w.heap.size + 1 + 1, 0, none⟩) (by simp; omega) _⟩
          · obtain rfl : k = n' := by omega
            exact absurd (kTo_all (by rw [HLR.out]; exact HT.out)) HK.out
    · have HC := hide (rosE_len (r := r) he (by rw [HLR.out, HLX.out]; exact hl))
      have HV := hide (rosV_no HC.out (by decide))
      have hl2 : ((n' : Int) != (n : Int)) = true := by simp; omega
      clear he
      go_enter Try.func30, Try.ntmps30
      go_wp2_with (go_at_call 23; refine (Validate_any _ _ _ xs _ (HX.out.below ((((Below.refl _ _).alloc (Nat.le_refl _) _).alloc (by simp) _).alloc (by simp; omega) _) (Nat.le_refl _)) hn).mono ?_; rintro e w1 ⟨rfl, b1⟩; rw [HE.out]; have bR : Boxed w1 w.heap.size 30 (.slice A' n' c') := (b1.block _ (by simp <;> omega)).trans (((Boxed.new w 30 (.slice A' n' c')).alloc (.cells #[.int .i64 0] 3)).alloc (.cells #[.int .i64 0] 25)); have bV : Boxed w1 (w.heap.size + 1) 3 (.int .i64 0) := (b1.block _ (by simp <;> omega)).trans (by have h := (Boxed.new (w.alloc (.cells #[.slice A' n' c'] 30)) 3 (.int .i64 0)).alloc (.cells #[.int .i64 0] 25); rwa [World.size_alloc] at h); have bE : Boxed w1 (w.heap.size + 1 + 1) 25 (.int .i64 0) := (b1.block _ (by simp <;> omega)).trans (by have h := Boxed.new ((w.alloc (.cells #[.slice A' n' c'] 30)).alloc (.cells #[.int .i64 0] 3)) 25 (.int .i64 0); simp only [World.size_alloc] at h; exact h); have cR := bR.cell; have cV := bV.cell; have cE := bE.cell; have fV := bV.frozen; have fE := bE.frozen; have HBR := hide bR; have HBV := hide bV; have HBE := hide bE; have HB1 := hide ((((((Below.refl _ w).alloc (Nat.le_refl _) _).alloc (by simp) _).alloc (by simp; omega) _).trans (b1.mono (by simp; omega))) : Below w.heap.size w w1); have hz1 : w.heap.size + 3 ≤ w1.heap.size := (by have := b1.size; simp at this; omega); clear b1 bR bV bE)
      have kV := (HBV.out.set (.int .i64 0)).other (B' := w.heap.size + 1 + 1) (by omega) (.int .i64 1)
      have kE := (HBE.out.other (B' := w.heap.size + 1) (by omega) (.int .i64 0)).set (.int .i64 1)
      have kV2 := kV.cell
      have kE2 := kE.cell
      exact bodyPost_ret (v := .tuple #[.int .i64 0, .int .i64 1]) (by simp [results, Try.f30, go_sem, kV2, kE2]) rfl ⟨by rw [HC.out, HV.out], (HB1.out.setCell (p := ⟨w.heap.size + 1, 0, none⟩) (by simp) _).setCell (p := ⟨w.heap.size + 1 + 1, 0, none⟩) (by simp; omega) _⟩
  · have HNE := hide (rosE_v (r := r) he)
    have HN0 := hide (rosV_no HNE.out he)
    have hne : (errV xs != 0) = true := by simpa using he
    clear he
    go_enter Try.func30, Try.ntmps30
    go_wp2_with (go_at_call 23; refine (Validate_any _ _ _ xs _ (HX.out.below ((((Below.refl _ _).alloc (Nat.le_refl _) _).alloc (by simp) _).alloc (by simp; omega) _) (Nat.le_refl _)) hn).mono ?_; rintro e w1 ⟨rfl, b1⟩; have bR : Boxed w1 w.heap.size 30 (.slice A' n' c') := (b1.block _ (by simp <;> omega)).trans (((Boxed.new w 30 (.slice A' n' c')).alloc (.cells #[.int .i64 0] 3)).alloc (.cells #[.int .i64 0] 25)); have bV : Boxed w1 (w.heap.size + 1) 3 (.int .i64 0) := (b1.block _ (by simp <;> omega)).trans (by have h := (Boxed.new (w.alloc (.cells #[.slice A' n' c'] 30)) 3 (.int .i64 0)).alloc (.cells #[.int .i64 0] 25); rwa [World.size_alloc] at h); have bE : Boxed w1 (w.heap.size + 1 + 1) 25 (.int .i64 0) := (b1.block _ (by simp <;> omega)).trans (by have h := Boxed.new ((w.alloc (.cells #[.slice A' n' c'] 30)).alloc (.cells #[.int .i64 0] 3)) 25 (.int .i64 0); simp only [World.size_alloc] at h; exact h); have cR := bR.cell; have cV := bV.cell; have cE := bE.cell; have fV := bV.frozen; have fE := bE.frozen; have HBR := hide bR; have HBV := hide bV; have HBE := hide bE; have HB1 := hide ((((((Below.refl _ w).alloc (Nat.le_refl _) _).alloc (by simp) _).alloc (by simp; omega) _).trans (b1.mono (by simp; omega))) : Below w.heap.size w w1); have hz1 : w.heap.size + 3 ≤ w1.heap.size := (by have := b1.size; simp at this; omega); clear b1 bR bV bE)
    have kV := (HBV.out.set (.int .i64 0)).other (B' := w.heap.size + 1 + 1) (by omega) (.int .i64 (errV xs))
    have kE := (HBE.out.other (B' := w.heap.size + 1) (by omega) (.int .i64 0)).set (.int .i64 (errV xs))
    have kV2 := kV.cell
    have kE2 := kE.cell
    exact bodyPost_ret (v := .tuple #[.int .i64 0, .int .i64 (errV xs)]) (by simp [results, Try.f30, go_sem, kV2, kE2]) rfl ⟨by rw [HNE.out, HN0.out], (HB1.out.setCell (p := ⟨w.heap.size + 1, 0, none⟩) (by simp) _).setCell (p := ⟨w.heap.size + 1 + 1, 0, none⟩) (by simp; omega) _⟩
end Go.Proofs.Ytpkjgnllkaafkaa
