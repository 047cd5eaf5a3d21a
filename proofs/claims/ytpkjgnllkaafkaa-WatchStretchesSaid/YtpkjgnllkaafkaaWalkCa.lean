/- CheckAlone of the program. -/
import Derived.Test.YtpkjgnllkaafkaaWalkAl
namespace Go.Proofs.Ytpkjgnllkaafkaa
open Go.RowKit Go.Shelf
attribute [local go_sem] Oper.semAt_some

def inL (I : List Int) (x : Int) : Bool := decide (x ∈ I)
theorem inL_iff {I : List Int} {x : Int} : inL I x = true ↔ x ∈ I := by simp [inL]
theorem mem_gi {I : List Int} {x : Int} (h : x ∈ I) : ∃ k, k < I.length ∧ gi I k = x := by
  obtain ⟨i, hi, rfl⟩ := List.getElem_of_mem h
  exact ⟨i, hi, by simp [gi, List.getD_eq_getElem?_getD, hi]⟩
set_option maxHeartbeats 1000000 in
theorem Index_any (A : Option Addr) (n c : Nat) (I : List Int) (x : Int) (w : World) (h : R E1 w A n c I) (hn : n ≤ 1000) :
    Calls Try.prog 94 #[.slice A n c, .int .i64 x] w fun e w' => (∃ v : Int, e = .returned (.int .i64 v) ∧ (0 ≤ v ↔ x ∈ I)) ∧ w = w' := by
  have HL := hide h.length
  obtain ⟨b, off, hr⟩ := h
  have HR := hide hr
  have hcap := hr.cap
  have hmax := hr.max
  clear hr
  go_enter Try.func94, Try.ntmps94
  go_wp2_with fail
  go_loopw [8] (fun i wr => ∃ k : Nat, k ≤ n ∧ i = .int .i64 k ∧ w = wr ∧ Hid (∀ j, j < k → gi I j ≠ x)) (fun i _ => n - (intOf i).toNat)
  case atStart => exact ⟨0, Nat.zero_le _, rfl, rfl, hide (fun j hj => by omega)⟩
  case round =>
    obtain ⟨k, hk, rfl, rfl, HT⟩ := hrel
    by_cases hlt : k < n
    · obtain rfl := HR.out.at_ (by omega)
      have hbl := HR.out.lt (by omega)
      have a1 := c1 HR.out hlt
      have HM := hide (gi_mem (I := I) (k := k) (by rw [HL.out]; exact hlt))
      have hy : ∃ y, gi I k = y := ⟨_, rfl⟩
      obtain ⟨y, hy⟩ := hy
      have hy' : I.getD k 0 = y := hy
      rw [hy'] at a1
      rw [hy] at HM
      have HY := hide hy
      clear hy hy'
      by_cases hxy : x = y
      · subst hxy
        have hxx : (x == x) = true := by simp
        go_wp2_with fail
        go_ret
        exact ⟨⟨(k : Int), rfl, ⟨fun _ => HM.out, fun _ => by omega⟩⟩, rfl⟩
      · have hxx : (x == y) = false := by simpa using hxy
        have HT2 := hide (show ∀ j, j < k + 1 → gi I j ≠ x from fun j hj => by
          by_cases e : j = k
          · subst e; rw [HY.out]; exact fun h => hxy h.symm
          · exact HT.out j (by omega))
        go_wp2_with fail
        go_roundw
        case rel => exact ⟨k + 1, by omega, by go_num, trivial, HT2⟩
        case measure => simp [intOf]; omega
    · obtain rfl : k = n := by omega
      go_wp2_with fail
      go_ret
      refine ⟨⟨-1, rfl, ⟨fun h => by omega, fun h => ?_⟩⟩, rfl⟩
      obtain ⟨j, hj, e⟩ := mem_gi h
      exact absurd e (HT.out j (by rw [HL.out] at hj; exact hj))
set_option maxHeartbeats 400000 in
theorem Contains_any (A : Option Addr) (n c : Nat) (I : List Int) (x : Int) (w : World) (h : R E1 w A n c I) (hn : n ≤ 1000) :
    Calls Try.prog 73 #[.slice A n c, .int .i64 x] w fun e w' => e = .returned (.bool (inL I x)) ∧ w = w' := by
  by_cases hx : x ∈ I
  · have HT := hide (inL_iff.2 hx)
    go_enter Try.func73, Try.ntmps73
    go_wp2_with (go_at_call 94; refine (Index_any _ _ _ I x _ h hn).mono ?_; rintro e w1 ⟨⟨v, rfl, hv⟩, rfl⟩; have hv2 : 0 ≤ v := hv.2 hx; clear hv)
    go_ret
    exact ⟨ret_bool HT.out.symm, rfl⟩
  · have HT := hide (show inL I x = false by rw [Bool.eq_false_iff]; intro hh; exact hx (inL_iff.1 hh))
    go_enter Try.func73, Try.ntmps73
    go_wp2_with (go_at_call 94; refine (Index_any _ _ _ I x _ h hn).mono ?_; rintro e w1 ⟨⟨v, rfl, hv⟩, rfl⟩; have hv2 : v < 0 := (by have : ¬ 0 ≤ v := fun h0 => hx (hv.1 h0); omega); clear hv)
    go_ret
    exact ⟨ret_bool (by rw [HT.out]; simp; omega), rfl⟩
theorem alB_ov {xs : Ls} {I : List Int} (hs : STo I ((xs.length : Int) - 1) I.length) : alB xs I = true ↔ ∀ p ∈ allp xs xs.length, ¬ ((p.1 : Int) ∈ I ∧ (p.2 : Int) ∈ I) := by
  rw [alB_iff]
  have hup : ∀ i j, i < j → j < I.length → gi I i < gi I j := by
    intro i j hij
    induction j with
    | zero => omega
    | succ j ih =>
      intro hj
      have h1 := (hs (j + 1) hj).2 (by omega)
      rw [show j + 1 - 1 = j from rfl] at h1
      by_cases e : i = j
      · subst e; exact h1
      · have := ih (by omega) (by omega); omega
  constructor
  · intro h p hp ⟨m1, m2⟩
    obtain ⟨h1, h2, h3⟩ := mem_allp.1 hp
    obtain ⟨a, ha, ea⟩ := mem_gi m1
    obtain ⟨b, hb, eb⟩ := mem_gi m2
    have hab : a < b := by
      rcases Nat.lt_trichotomy a b with h | h | h
      · exact h
      · subst h; omega
      · have := hup b a h ha; omega
    have := h b hb a hab
    rw [ea, eb, shAt_nat, shAt_nat, ovB_comm] at this
    rw [this] at h3
    cases h3
  · intro h i hi k hk
    rw [Bool.eq_false_iff]
    intro ho
    have b1 := (hs i hi).1
    have b2 := (hs k (by omega)).1
    have b3 := hup k i hk hi
    refine h ((gi I k).toNat, (gi I i).toNat) (mem_allp.2 ⟨?_, ?_, ?_⟩) ⟨?_, ?_⟩
    · simp only; omega
    · simp only; omega
    · rw [ovB_comm]; exact ho
    · have : (((gi I k).toNat : Nat) : Int) = gi I k := by omega
      rw [this]; exact gi_mem (by omega)
    · have : (((gi I i).toNat : Nat) : Int) = gi I i := by omega
      rw [this]; exact gi_mem hi

set_option maxRecDepth 100000 in
set_option maxHeartbeats 4000000 in
theorem CheckAlone_any (A : Option Addr) (n c : Nat) (xs : Ls) (A' : Option Addr) (n' c' : Nat) (r : List Int) (w : World) (h : R E3 w A n c xs) (hn : n ≤ 1000) (h' : R E1 w A' n' c' r) (hn' : n' ≤ 1000) :
    Calls Try.prog 33 #[.slice A n c, .slice A' n' c'] w (CaPost xs r w) := by
  have HLX := hide h.length
  have HLR := hide h'.length
  have HX := hide h
  have HR := hide h'
  clear h h'
  have hwn : IntKind.i64.wrap ((n : Int) - 1) = (n : Int) - 1 := IntWalk.i64_in _ (by omega)
  by_cases he : errV xs = 0
  · have hn12 : n ≤ 12 := by have h1 := errV_le he; have := HLX.out; omega
    have HE := hide he
    cases hk : isB r ((n : Int) - 1) with
    | true =>
      have HK := hide hk
      clear hk he
      refine (callsIn_wide (n := 3)).1 ?_
      refine callsIn_of_wp_marks Try.func33 rfl trivial ?_ rfl
      simp only [Try.ntmps33, List.size_toArray, List.length_cons, List.length_nil, Nat.reduceAdd, Nat.reduceSub, Array.replicate_succ, Array.replicate_zero, List.push_toArray, List.append_toArray, List.nil_append, List.cons_append]
      gi_wp2_with (first
        | (refine ⟨trivial, ?_⟩; gi_at_call 23; refine (callsIn_wide.2 (Validate_any _ _ _ xs _ (HX.out.below ((((Below.refl _ _).alloc (Nat.le_refl _) _).alloc (by simp) _).alloc (by simp; omega) _) (Nat.le_refl _)) hn)).mono ?_; rintro e w1 ⟨rfl, b1⟩; rw [HE.out]; have bR : Boxed w1 w.heap.size 30 (.slice A' n' c') := (b1.block _ (by simp <;> omega)).trans (((Boxed.new w 30 (.slice A' n' c')).alloc (.cells #[.int .i64 0] 3)).alloc (.cells #[.int .i64 0] 25)); have bV : Boxed w1 (w.heap.size + 1) 3 (.int .i64 0) := (b1.block _ (by simp <;> omega)).trans (by have h := (Boxed.new (w.alloc (.cells #[.slice A' n' c'] 30)) 3 (.int .i64 0)).alloc (.cells #[.int .i64 0] 25); rwa [World.size_alloc] at h); have bE : Boxed w1 (w.heap.size + 1 + 1) 25 (.int .i64 0) := (b1.block _ (by simp <;> omega)).trans (by have h := Boxed.new ((w.alloc (.cells #[.slice A' n' c'] 30)).alloc (.cells #[.int .i64 0] 3)) 25 (.int .i64 0); simp only [World.size_alloc] at h; exact h); have cR := bR.cell; have cV := bV.cell; have cE := bE.cell; have fV := bV.frozen; have fE := bE.frozen; have HBR := hide bR; have HBV := hide bV; have HBE := hide bE; have HB1 := hide ((((((Below.refl _ w).alloc (Nat.le_refl _) _).alloc (by simp) _).alloc (by simp; omega) _).trans (b1.mono (by simp; omega))) : Below w.heap.size w w1); have hz1 : w.heap.size + 3 ≤ w1.heap.size := (by have := b1.size; simp at this; omega); clear b1 bR bV bE)
        | (refine ⟨trivial, ?_⟩; gi_at_call 72; refine (callsIn_wide.2 (isSet_any _ _ _ r _ _ (HR.out.below HB1.out (Nat.le_refl _)) hn')).mono ?_; rintro e w' ⟨rfl, rfl⟩; rw [HK.out])
        | (refine ⟨trivial, ?_⟩; gi_at_call 68; refine (callsIn_wide.2 (overlaps_any _ _ _ _)).mono ?_; rintro e w2 ⟨rfl, rfl⟩))
      obtain ⟨b, off, hrx, hb0⟩ : ∃ b off, RAt E3 w A n c xs b off ∧ (b < w.heap.size ∨ b = w1.heap.size) := by
        obtain ⟨b, off, hr⟩ := HX.out
        by_cases h0 : n = 0
        · subst h0
          exact ⟨w1.heap.size, 0, ⟨hr.len, hr.cap, hr.max, fun h => by omega, fun h => by omega, fun k hk => by omega⟩, .inr rfl⟩
        · exact ⟨b, off, hr, .inl (hr.lt (by omega))⟩
      have hB2 : Below w.heap.size w (w1.alloc (.cells #[.slice A n c] 22)) := HB1.out.alloc HB1.out.size _
      have bS := Boxed.new w1 22 (.slice A n c)
      have bR := HBR.out.alloc (.cells #[.slice A n c] 22)
      have bV := HBV.out.alloc (.cells #[.slice A n c] 22)
      have bE := HBE.out.alloc (.cells #[.slice A n c] 22)
      have hsz : (w1.alloc (.cells #[.slice A n c] 22)).heap.size = w1.heap.size + 1 := by simp
      have hrx2 := hrx.below hB2 (Nat.le_refl _)
      obtain ⟨w2, hw2⟩ : ∃ w2, w1.alloc (.cells #[.slice A n c] 22) = w2 := ⟨_, rfl⟩
      rw [hw2] at hB2 bS bR bV bE hsz hrx2 ⊢
      clear hw2 hrx
      have hs2 : w1.heap.size + 1 ≤ w2.heap.size := by omega
      have hs3 : w2.heap.size ≤ w1.heap.size + 1 := by omega
      clear hsz
      refine wpIn_rangeFunc_ownG rfl (by omega) (gf := 91) (lb := #[.pointer (some ⟨w1.heap.size, 0, none⟩)]) rfl trivial (enters_of Try.func91 (by kernel_rfl) rfl)
        (overlaps_stops w1.heap.size b off n c A xs hn12 w2 (by omega) bS.cell hrx2) KB2.trans (fun W l o o' hl h1 h2 h3 => ⟨KB.putObj (B := w2.heap.size) (by omega) W l o o' hl h1 h2 h3, KB.putObj (B := w2.heap.size) (by omega) W l o o' hl h1 h2 h3⟩) (Below.refl _ _) (fun _ => rfl)
        (fun pre W => (∀ q ∈ vals pre, ¬ ((q.1 : Int) ∈ r ∧ (q.2 : Int) ∈ r)) ∧ (Boxed W (w.heap.size + 1) 3 (.int .i64 0) ∧ (Boxed W (w.heap.size + 1 + 1) 25 (.int .i64 0) ∧ (Boxed W w.heap.size 30 (.slice A' n' c') ∧ Below w.heap.size w W))))
        (fun cd pre W => (cd = .ret ∧ ∃ ini q, vals pre = ini ++ [q] ∧ (q.1 : Int) ∈ r ∧ (q.2 : Int) ∈ r) ∧ (Boxed W (w.heap.size + 1) 3 (.int .i64 0) ∧ (Boxed W (w.heap.size + 1 + 1) 25 (.int .i64 6) ∧ Below w.heap.size w W)))
        (OwnFrom.and (ownFrom_pure _ _) (OwnFrom.and (Go.Own.from (boxed_own _ _ _) _) (OwnFrom.and (Go.Own.from (boxed_own _ _ _) _) (OwnFrom.and (Go.Own.from (boxed_own _ _ _) _) (ownFrom_below (Nat.le_refl _) (by omega))))))
        (fun cd => OwnFrom.and (ownFrom_pure _ _) (OwnFrom.and (Go.Own.from (boxed_own _ _ _) _) (OwnFrom.and (Go.Own.from (boxed_own _ _ _) _) (ownFrom_below (Nat.le_refl _) (by omega)))))
        ⟨by intro q hq; simp [vals] at hq, bV, bE, bR, hB2⟩
        (fun x => { tmps := #[.slice A n c, .slice A' n' c', undef, .pointer (some ⟨w.heap.size, 0, none⟩), .pointer (some ⟨w.heap.size + 1, 0, none⟩), .pointer (some ⟨w.heap.size + 1 + 1, 0, none⟩), .int .i64 0, .int .i64 x.1.1, .int .i64 x.1.2, .slice A n c, .int .i64 0, .int .i64 0, .bool false, undef, .slice A' n' c', .slice A n c, .int .i64 n, .int .i64 ((n : Int) - 1), .bool true, .bool false, .slice A n c, .func (.func 91) #[] #[.pointer (some ⟨w1.heap.size, 0, none⟩)], .int .i64 x.1.1, .int .i64 x.1.2, undef, undef, undef, undef, undef, undef, undef, undef, undef, undef], defers := [] })
        ?assign ?body ?done ?stop
      case assign =>
        intro l x W K hK
        dsimp only [epE]
        gi_wp2
        exact hK
      case body =>
        rintro l pre x W ⟨hq, bV1, bE1, bR1, hB1⟩ _
        obtain ⟨⟨i, j⟩, hij1, hij2⟩ := x
        have HRW := hide (HR.out.below hB1 (Nat.le_refl _))
        have HQ := hide hq
        have cR1 := bR1.cell
        have cV1 := bV1.cell
        have cE1 := bE1.cell
        have fV1 := bV1.frozen
        have fE1 := bE1.frozen
        have HBV1 := hide bV1
        have HBE1 := hide bE1
        have HBR1 := hide bR1
        have HB1' := hide hB1
        have HVS := hide (vals_snoc pre ⟨(i, j), hij1, hij2⟩)
        clear hq bV1 bE1 bR1 hB1
        dsimp only at *
        have hno : inL r (i : Int) = false ∨ inL r (j : Int) = false → (∀ q ∈ vals (pre ++ [⟨(i, j), hij1, hij2⟩]), ¬ ((q.1 : Int) ∈ r ∧ (q.2 : Int) ∈ r)) := by
          intro h0 q hq
          rw [HVS.out] at hq
          rcases List.mem_append.1 hq with hq | hq
          · exact HQ.out q hq
          · simp at hq
            subst hq
            rintro ⟨m1, m2⟩
            rcases h0 with h0 | h0
            · rw [inL_iff.2 m1] at h0; cases h0
            · rw [inL_iff.2 m2] at h0; cases h0
        have HNO := hide hno
        clear hno
        cases hi : inL r (i : Int) with
        | true =>
          have HI := hide hi
          cases hj : inL r (j : Int) with
          | true =>
            have HJ := hide hj
            have HMI := hide (inL_iff.1 hi)
            have HMJ := hide (inL_iff.1 hj)
            clear hi hj
            gi_wp2_with (refine ⟨trivial, ?_⟩; gi_at_call 73; refine (CallsIn.inRound l (callsIn_wide.2 (Contains_any _ _ _ r _ _ HRW.out hn'))).mono ?_; rintro e w' ⟨rfl, rfl⟩; first | rw [HI.out] | rw [HJ.out])
            exact ⟨((KeepsOthers.setCell _ _ _).trans (KeepsOthers.setCell _ _ _)).from _, ⟨rfl, vals pre, (i, j), HVS.out, HMI.out, HMJ.out⟩, (HBV1.out.set _).other (by omega) _, (HBE1.out.other (by omega) _).set _, (HB1'.out.setCell (p := ⟨w.heap.size + 1, 0, none⟩) (by simp) _).setCell (p := ⟨w.heap.size + 1 + 1, 0, none⟩) (by simp; omega) _⟩
          | false =>
            have HJ := hide hj
            have HQ2 := hide (HNO.out (.inr hj))
            clear hi hj
            gi_wp2_with (refine ⟨trivial, ?_⟩; gi_at_call 73; refine (CallsIn.inRound l (callsIn_wide.2 (Contains_any _ _ _ r _ _ HRW.out hn'))).mono ?_; rintro e w' ⟨rfl, rfl⟩; first | rw [HI.out] | rw [HJ.out])
            exact ⟨(KeepsOthers.refl _).from _, ⟨⟨Nat.le_refl _, rfl⟩, ⟨Nat.le_refl _, rfl⟩⟩, HQ2.out, HBV1.out, HBE1.out, HBR1.out, HB1'.out⟩
        | false =>
          have HI := hide hi
          have HQ2 := hide (HNO.out (.inl hi))
          clear hi
          gi_wp2_with (first | (refine ⟨trivial, ?_⟩; gi_at_call 73; refine (CallsIn.inRound l (callsIn_wide.2 (Contains_any _ _ _ r _ _ HRW.out hn'))).mono ?_; rintro e w' ⟨rfl, rfl⟩; rw [HI.out]) | (refine And.intro trivial ?_))
          exact ⟨(KeepsOthers.refl _).from _, ⟨⟨Nat.le_refl _, rfl⟩, ⟨Nat.le_refl _, rfl⟩⟩, HQ2.out, HBV1.out, HBE1.out, HBR1.out, HB1'.out⟩
      case done =>
        rintro D ys W hD hys ⟨hq, bV1, bE1, bR1, hB1⟩ hK
        have hal : alB xs r = true := by
          rw [alB_ov (isB_iff.1 (by rw [HLX.out]; exact HK.out))]
          intro p hp
          rw [HLX.out, ← hys] at hp
          exact hq p hp
        have HC := hide (errS_ok HE.out (by rw [HLX.out]; exact HK.out) hal)
        have HV := hide (show lenS xs r = (n' : Int) by rw [lenS_ok HC.out, HLR.out])
        have cR1 := bR1.cell
        have cV1 := bV1.cell
        have cE1 := bE1.cell
        have fV1 := bV1.frozen
        have fE1 := bE1.frozen
        have HBV1 := hide bV1
        have HBE1 := hide bE1
        have HB1' := hide hB1
        have HKD := hide hK
        clear hal hq hys bV1 bE1 bR1 hB1 hK
        gi_wp2
        have hKF := ((KeepsOthers.setCell W ⟨w.heap.size + 1, 0, none⟩ (.int .i64 (n' : Nat))).trans (KeepsOthers.setCell _ ⟨w.heap.size + 1 + 1, 0, none⟩ (.int .i64 0))).same D _ HKD.out rfl
        have kV2 := (HBV1.out.set (.int .i64 (n' : Nat))).other (B' := w.heap.size + 1 + 1) (by omega) (.int .i64 0)
        have kE2 := (HBE1.out.other (B' := w.heap.size + 1) (by omega) (.int .i64 (n' : Nat))).set (.int .i64 0)
        have hcV := cell_kept kV2.cell (grownBy_putObj' _ D (.deferred none)) (fun r e => by cases e; exact ⟨_, hKF, rfl⟩)
        have hcE := cell_kept kE2.cell (grownBy_putObj' _ D (.deferred none)) (fun r e => by cases e; exact ⟨_, hKF, rfl⟩)
        refine ⟨by simp, .inl ⟨_, _, rfl, run_takeDeferred hKF, ?_⟩⟩
        refine ⟨.tuple #[.int .i64 (n' : Nat), .int .i64 0], by simp [results, Try.f33, go_sem, hcV, hcE], by rw [HC.out, HV.out], ?_⟩
        exact ((HB1'.out.setCell (p := ⟨w.heap.size + 1, 0, none⟩) (by simp) _).setCell (p := ⟨w.heap.size + 1 + 1, 0, none⟩) (by simp; omega) _).trans (belowK_b (w := w) (Nat.le_refl _) _ D _ _ (by omega) hKF rfl rfl)
      case stop =>
        rintro D cd pre W hD ⟨q, hpre⟩ ⟨⟨rfl, ini, z, hz1, hz2, hz3⟩, bV1, bE1, hB1⟩ hK
        have hno : ¬ alB xs r = true := by
          rw [alB_ov (isB_iff.1 (by rw [HLX.out]; exact HK.out))]
          intro hh
          refine hh z ?_ ⟨hz2, hz3⟩
          rw [HLX.out, ← hpre, hz1]
          simp
        have HC := hide (errS_no HE.out (by rw [HLX.out]; exact HK.out) hno)
        have HV := hide (lenS_no HC.out (by decide))
        have hcV := cell_kept bV1.cell (grownBy_putObj' _ D (.deferred none)) (fun r e => by cases e; exact ⟨_, hK, rfl⟩)
        have hcE := cell_kept bE1.cell (grownBy_putObj' _ D (.deferred none)) (fun r e => by cases e; exact ⟨_, hK, rfl⟩)
        have hb0 := belowK_b (w := w) (Nat.le_refl _) W D (.deferred (some [])) (.deferred none) (by omega) hK rfl rfl
        have HB1' := hide hB1
        clear hno hz2 hz1 hpre bV1 bE1 hB1
        gi_wp2
        refine ⟨by simp, .inl ⟨_, _, rfl, run_takeDeferred hK, ?_⟩⟩
        exact ⟨.tuple #[.int .i64 0, .int .i64 6], by simp [results, Try.f33, go_sem, hcV, hcE], by rw [HC.out, HV.out], HB1'.out.trans hb0⟩
    | false =>
      have HC := hide (errS_set (I := r) he (by rw [HLX.out, hk]; simp))
      have HV := hide (lenS_no HC.out (by decide))
      have HK := hide hk
      clear he hk
      go_enter Try.func33, Try.ntmps33
      go_wp2_with (first
        | (go_at_call 23; refine (Validate_any _ _ _ xs _ (HX.out.below ((((Below.refl _ _).alloc (Nat.le_refl _) _).alloc (by simp) _).alloc (by simp; omega) _) (Nat.le_refl _)) hn).mono ?_; rintro e w1 ⟨rfl, b1⟩; rw [HE.out]; have bR : Boxed w1 w.heap.size 30 (.slice A' n' c') := (b1.block _ (by simp <;> omega)).trans (((Boxed.new w 30 (.slice A' n' c')).alloc (.cells #[.int .i64 0] 3)).alloc (.cells #[.int .i64 0] 25)); have bV : Boxed w1 (w.heap.size + 1) 3 (.int .i64 0) := (b1.block _ (by simp <;> omega)).trans (by have h := (Boxed.new (w.alloc (.cells #[.slice A' n' c'] 30)) 3 (.int .i64 0)).alloc (.cells #[.int .i64 0] 25); rwa [World.size_alloc] at h); have bE : Boxed w1 (w.heap.size + 1 + 1) 25 (.int .i64 0) := (b1.block _ (by simp <;> omega)).trans (by have h := Boxed.new ((w.alloc (.cells #[.slice A' n' c'] 30)).alloc (.cells #[.int .i64 0] 3)) 25 (.int .i64 0); simp only [World.size_alloc] at h; exact h); have cR := bR.cell; have cV := bV.cell; have cE := bE.cell; have fV := bV.frozen; have fE := bE.frozen; have HBR := hide bR; have HBV := hide bV; have HBE := hide bE; have HB1 := hide ((((((Below.refl _ w).alloc (Nat.le_refl _) _).alloc (by simp) _).alloc (by simp; omega) _).trans (b1.mono (by simp; omega))) : Below w.heap.size w w1); have hz1 : w.heap.size + 3 ≤ w1.heap.size := (by have := b1.size; simp at this; omega); clear b1 bR bV bE)
        | (go_at_call 72; refine (isSet_any _ _ _ r _ _ (HR.out.below HB1.out (Nat.le_refl _)) hn').mono ?_; rintro e w' ⟨rfl, rfl⟩; rw [HK.out]))
      have kV := (HBV.out.set (.int .i64 0)).other (B' := w.heap.size + 1 + 1) (by omega) (.int .i64 1)
      have kE := (HBE.out.other (B' := w.heap.size + 1) (by omega) (.int .i64 0)).set (.int .i64 1)
      have kV2 := kV.cell
      have kE2 := kE.cell
      exact bodyPost_ret (v := .tuple #[.int .i64 0, .int .i64 1]) (by simp [results, Try.f33, go_sem, kV2, kE2]) rfl ⟨by rw [HC.out, HV.out], (HB1.out.setCell (p := ⟨w.heap.size + 1, 0, none⟩) (by simp) _).setCell (p := ⟨w.heap.size + 1 + 1, 0, none⟩) (by simp; omega) _⟩
  · have HC := hide (errS_v (I := r) he)
    have HV := hide (lenS_no HC.out he)
    have hne : (errV xs != 0) = true := by simpa using he
    clear he
    go_enter Try.func33, Try.ntmps33
    go_wp2_with (go_at_call 23; refine (Validate_any _ _ _ xs _ (HX.out.below ((((Below.refl _ _).alloc (Nat.le_refl _) _).alloc (by simp) _).alloc (by simp; omega) _) (Nat.le_refl _)) hn).mono ?_; rintro e w1 ⟨rfl, b1⟩; have bR : Boxed w1 w.heap.size 30 (.slice A' n' c') := (b1.block _ (by simp <;> omega)).trans (((Boxed.new w 30 (.slice A' n' c')).alloc (.cells #[.int .i64 0] 3)).alloc (.cells #[.int .i64 0] 25)); have bV : Boxed w1 (w.heap.size + 1) 3 (.int .i64 0) := (b1.block _ (by simp <;> omega)).trans (by have h := (Boxed.new (w.alloc (.cells #[.slice A' n' c'] 30)) 3 (.int .i64 0)).alloc (.cells #[.int .i64 0] 25); rwa [World.size_alloc] at h); have bE : Boxed w1 (w.heap.size + 1 + 1) 25 (.int .i64 0) := (b1.block _ (by simp <;> omega)).trans (by have h := Boxed.new ((w.alloc (.cells #[.slice A' n' c'] 30)).alloc (.cells #[.int .i64 0] 3)) 25 (.int .i64 0); simp only [World.size_alloc] at h; exact h); have cR := bR.cell; have cV := bV.cell; have cE := bE.cell; have fV := bV.frozen; have fE := bE.frozen; have HBR := hide bR; have HBV := hide bV; have HBE := hide bE; have HB1 := hide ((((((Below.refl _ w).alloc (Nat.le_refl _) _).alloc (by simp) _).alloc (by simp; omega) _).trans (b1.mono (by simp; omega))) : Below w.heap.size w w1); have hz1 : w.heap.size + 3 ≤ w1.heap.size := (by have := b1.size; simp at this; omega); clear b1 bR bV bE)
    have kV := (HBV.out.set (.int .i64 0)).other (B' := w.heap.size + 1 + 1) (by omega) (.int .i64 (errV xs))
    have kE := (HBE.out.other (B' := w.heap.size + 1) (by omega) (.int .i64 0)).set (.int .i64 (errV xs))
    have kV2 := kV.cell
    have kE2 := kE.cell
    exact bodyPost_ret (v := .tuple #[.int .i64 0, .int .i64 (errV xs)]) (by simp [results, Try.f33, go_sem, kV2, kE2]) rfl ⟨by rw [HC.out, HV.out], (HB1.out.setCell (p := ⟨w.heap.size + 1, 0, none⟩) (by simp) _).setCell (p := ⟨w.heap.size + 1 + 1, 0, none⟩) (by simp; omega) _⟩
end Go.Proofs.Ytpkjgnllkaafkaa
