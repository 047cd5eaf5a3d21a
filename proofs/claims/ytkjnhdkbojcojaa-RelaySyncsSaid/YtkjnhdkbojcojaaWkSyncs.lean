/- What RelaySyncs does at any box. -/
import Derived.Test.YtkjnhdkbojcojaaWkRuns
import Derived.Test.YtkjnhdkbojcojaaWalkRs
namespace Go.Proofs.Ytkjnhdkbojcojaa
open Go.RowKit Go.Shelf
attribute [local go_sem] Oper.semAt_some

theorem oneS_uniqB : ∀ m, m < 64 → ∀ s, s < 6 → ∀ t, t < 6 → (!(oneS m && (bt m s && bt m t)) || s == t) = true := by decide +kernel
theorem oneS_uniq (m : Nat) (hm : m < 64) (s : Nat) (hs : s < 6) (t : Nat) (ht : t < 6) (h1 : oneS m = true) (h2 : bt m s = true) (h3 : bt m t = true) : s = t := by
  have := oneS_uniqB m hm s hs t ht
  rw [h1, h2, h3] at this
  simpa using this
theorem inp_errW {b : Bx} (h : Okx b) {l : List Int} (hl : l.length ≤ 40) (hi : Inp l) : errW b l = 0 :=
  errW_fine (errX_ok h) (by omega) fun i hil => by
    rw [List.getD_eq_getElem?_getD, List.getElem?_eq_getElem hil]
    rcases hi _ (List.getElem_mem hil) with e | e <;> (simp only [Option.getD_some]; rw [e]; decide)
/-- A word that is found leads from all states to one. -/
theorem sync_one {b : Bx} (hb : Okx b) {u : List Int} (h : syncW b = some u) : Inp u ∧ ∃ q, q < b.2.length ∧ ∀ j, j < b.2.length → endV b j u = q := by
  have hl : allS b.2.length < 2 ^ b.2.length := allS_lt (Nat.le_refl _)
  have hbd := plN_bound (f := aftS b) (P := fun m => m < 2 ^ b.2.length) (x0 := allS b.2.length) (fun m => m) (N := 64) hl (fun x k hx => aftTo_lt hb k hx 6) (fun x hx => lt64 hx hb.n6) (fun x y _ _ e => e) 64
  obtain ⟨h1, h2, _⟩ := first_short (f := aftS b) (x0 := allS b.2.length) hbd h
  obtain ⟨h3, h4⟩ := fold_or hb _ u rfl
  rw [h3] at h2 h4
  have h6 := hb.n6
  refine ⟨h1, endV b 0 u, hb.end_lt u hb.n1, fun j hj => ?_⟩
  have e1 := hb.end_lt u hj
  have e2 := hb.end_lt u (s := 0) hb.n1
  exact oneS_uniq _ (lt64 h4 h6) _ (by omega) _ (by omega) h2 ((orTo_bit b u _ _).2 ⟨j, hj, rfl⟩) ((orTo_bit b u _ _).2 ⟨0, hb.n1, rfl⟩)
theorem sync_len {b : Bx} {u : List Int} (h : syncW b = some u) : u.length ≤ 64 := by
  unfold syncW firstW at h
  obtain ⟨e, he, rfl⟩ := Option.map_eq_some_iff.1 h
  exact plN_wlen _ _ 64 e (List.mem_of_find?_eq_some he)
def atV (q : Nat) : Nat → Int
  | 0 => -1
  | _ + 1 => q
theorem from_word {b : Bx} (hb : Okx b) {u : List Int} (hl : u.length ≤ 40) (hi : Inp u) {k q : Nat} (hk : k < b.2.length) (hq : endV b k u = q) : errS b (k : Int) = 0 ∧ fromF b (k : Int) = fromB b k ∧ errW (fromB b k) u = 0 ∧ endF (fromB b k) u = (swpN k q : Nat) := by
  have e1 : errS b (k : Int) = 0 := errS_fine (errX_ok hb) (inB_iff.2 ⟨by omega, by omega⟩)
  have e3 := inp_errW (from_ok hb hk) hl hi
  refine ⟨e1, by rw [fromF_ok e1, Int.toNat_natCast], e3, ?_⟩
  rw [endF_ok e3]
  have := from_end hb hk u (s := k) hk
  rw [show swpN k k = 0 from if_pos rfl, hq] at this
  rw [this]
set_option maxRecDepth 100000 in
set_option maxHeartbeats 8000000 in
theorem RelaySyncs_walk (A : Option Addr) (n c : Nat) (A' : Option Addr) (n' c' : Nat) (b : Bx) (w : World) (h : BxR w A n c A' n' c' b) :
    Calls Try.prog 11 #[bV A n c A' n' c'] w fun e w' => e = .returned (.bool true) ∧ Below w.heap.size w w' := by
  have D0 := hide ((Below.refl w.heap.size w).alloc (Nat.le_refl _) (.cells #[.slice A n c, .slice A' n' c'] 25))
  have K0 := hide (Bk.born w 25 #[.slice A n c, .slice A' n' c'])
  have HB := hide (h.below D0.out (Nat.le_refl _))
  have H0 := hide (Below.refl (w.alloc (.cells #[.slice A n c, .slice A' n' c'] 25)).heap.size (w.alloc (.cells #[.slice A n c, .slice A' n' c'] 25)))
  have hle := h.nx.le
  have hle' := h.ou.le
  have HOL := hide h.ou.length
  clear h
  cases hlg : longB n n' [] with
  | true =>
    have HLG := hide hlg
    clear hlg
    go_enter Try.func11, Try.ntmps11
    go_wp2_with (first
      | (have hgd := H1; clear hgd; go_at_call 20; refine (sane_any _).mono ?_; rintro e2 w2 ⟨rfl, b2⟩; have H2 := hide (le_call H1.out b2); have f0_2 := bk_two (K0.out.keep H2.out K0.out.in_); clear b2)
      | (have hgd := H0; clear hgd; go_at_call 19; refine (Long_any A n c A' n' c' none 0 0 [] _ (R.nil EH _) hle hle').mono ?_; rintro e1 w1 ⟨rfl, b1⟩; rw [HLG.out]; have H1 := hide (le_call H0.out b1); have f0_1 := bk_two (K0.out.keep H1.out K0.out.in_); clear b1))
    go_ret
    exact ⟨rfl, le_call D0.out H2.out⟩
  | false =>
    have HLG := hide hlg
    clear hlg
    have q1 : (errX b != errX b) = false := bne_self_eq_false _
    cases ht : syncF b with
    | none =>
      have HT := hide ht
      clear ht
      go_enter Try.func11, Try.ntmps11
      go_wp2_with (first
        | (have hgd := H4; clear hgd; go_at_call 20; refine (sane_any _).mono ?_; rintro e5 w5 ⟨rfl, b5⟩; have H5 := hide (le_call H4.out b5); have R2_5 := hide (le_call R2_4.out b5); have R3_5 := hide (le_call R3_4.out b5); have f0_5 := bk_two (K0.out.keep H5.out K0.out.in_); clear b5)
        | (have hgd := H3; clear hgd; go_at_call 27; refine (SameInts_any A2 n2 c2 A3 n3 c3 [] [] _ (O2.out.row.below R2_3.out (Nat.le_refl _)) O3.out.row (by have h1 := LN2.out; have h2 := HLG; (try simp only [Option.getD_none, List.length_nil] at h1); omega) (by have h1 := LN3.out; have h2 := HLG; (try simp only [Option.getD_none, List.length_nil] at h1); omega)).mono ?_; rintro e4 w4 ⟨rfl, qq, hqq⟩; have b4 := (show Below w3.heap.size w3 w4 from (by rw [hqq]; exact below_drewN (Below.refl _ _) qq)); clear hqq; rw [beq_self_eq_true]; have H4 := hide (le_call H3.out b4); have R2_4 := hide (le_call R2_3.out b4); have R3_4 := hide (le_call R3_3.out b4); have f0_4 := bk_two (K0.out.keep H4.out K0.out.in_); clear b4)
        | (have hgd := H2; clear hgd; go_at_call 44; refine (rSync_any A n c A' n' c' b _ (HB.out.below H2.out (Nat.le_refl _))).mono ?_; rw [HT.out]; rintro e3 w3 ⟨A3, n3, c3, rfl, o3, b3⟩; have H3 := hide (le_call H2.out b3); have R2_3 := hide (le_call R2_2.out b3); have f0_3 := bk_two (K0.out.keep H3.out K0.out.in_); have O3 := hide o3; have LN3 := hide o3.len; have R3_3 := hide (Below.refl w3.heap.size w3); clear o3; clear b3)
        | (have hgd := H1; clear hgd; go_at_call 43; refine (Sync_any A n c A' n' c' b _ (HB.out.below H1.out (Nat.le_refl _))).mono ?_; rw [HT.out]; rintro e2 w2 ⟨A2, n2, c2, rfl, o2, b2⟩; have H2 := hide (le_call H1.out b2); have f0_2 := bk_two (K0.out.keep H2.out K0.out.in_); have O2 := hide o2; have LN2 := hide o2.len; have R2_2 := hide (Below.refl w2.heap.size w2); clear o2; clear b2)
        | (have hgd := H0; clear hgd; go_at_call 19; refine (Long_any A n c A' n' c' none 0 0 [] _ (R.nil EH _) hle hle').mono ?_; rintro e1 w1 ⟨rfl, b1⟩; rw [HLG.out]; have H1 := hide (le_call H0.out b1); have f0_1 := bk_two (K0.out.keep H1.out K0.out.in_); clear b1))
      go_ret
      exact ⟨rfl, le_call D0.out H5.out⟩
    | some u =>
      have het : errX b = 0 := by
        rcases Classical.em (errX b = 0) with e | e
        · exact e
        · rw [syncF_no e] at ht; cases ht
      have HTV : syncW b = some u := by rw [← syncF_ok het]; exact ht
      have HU64 := hide (sync_len HTV)
      have HT := hide ht
      have ok := okx_of het
      have hu64 := sync_len HTV
      by_cases hl : u.length ≤ 40
      · have hlb : (u.length : Int) ≤ 40 := by omega
        have HL40 := hide hl
        obtain ⟨hin, q, hqn, hq⟩ := sync_one ok HTV
        have HIN := hide hin
        have HQ := hide hq
        have HOK := hide ok
        have hn6 : n' ≤ 6 := by rw [← HOL.out]; exact ok.n6
        have hq0 : (0 : Int) ≤ (q : Int) := by omega
        clear ht het HTV ok hin hq hqn hl
        go_enter Try.func11, Try.ntmps11
        go_wp2_with (first
          | (have hgd := H3; clear hgd; go_at_call 27; refine (SameInts_any A2 u.length c2 A3 n3 c3 u u _ (O2.out.row.below R2_3.out (Nat.le_refl _)) O3.out.row (by have h1 := LN2.out; have h2 := HU64.out; (try simp only [Option.getD_some] at h1); omega) (by have h1 := LN3.out; have h2 := HU64.out; (try simp only [Option.getD_some] at h1); omega)).mono ?_; rintro e4 w4 ⟨rfl, qq, hqq⟩; have b4 := (show Below w3.heap.size w3 w4 from (by rw [hqq]; exact below_drewN (Below.refl _ _) qq)); clear hqq; rw [beq_self_eq_true]; have H4 := hide (le_call H3.out b4); have R2_4 := hide (le_call R2_3.out b4); have R3_4 := hide (le_call R3_3.out b4); have f0_4 := bk_two (K0.out.keep H4.out K0.out.in_); clear b4)
          | (have hgd := H2; clear hgd; go_at_call 44; refine (rSync_any A n c A' n' c' b _ (HB.out.below H2.out (Nat.le_refl _))).mono ?_; rw [HT.out]; rintro e3 w3 ⟨A3, n3, c3, rfl, o3, b3⟩; have H3 := hide (le_call H2.out b3); have R2_3 := hide (le_call R2_2.out b3); have f0_3 := bk_two (K0.out.keep H3.out K0.out.in_); have O3 := hide o3; have LN3 := hide o3.len; have R3_3 := hide (Below.refl w3.heap.size w3); clear o3; clear b3)
          | (have hgd := H1; clear hgd; go_at_call 43; refine (Sync_any A n c A' n' c' b _ (HB.out.below H1.out (Nat.le_refl _))).mono ?_; rw [HT.out]; rintro e2 w2 ⟨A2, n2, c2, rfl, o2, b2⟩; have H2 := hide (le_call H1.out b2); have f0_2 := bk_two (K0.out.keep H2.out K0.out.in_); have O2 := hide o2; have LN2 := hide o2.len; obtain rfl : u.length = n2 := o2.len; have R2_2 := hide (Below.refl w2.heap.size w2); clear o2; clear b2)
          | (have hgd := H0; clear hgd; go_at_call 19; refine (Long_any A n c A' n' c' none 0 0 [] _ (R.nil EH _) hle hle').mono ?_; rintro e1 w1 ⟨rfl, b1⟩; rw [HLG.out]; have H1 := hide (le_call H0.out b1); have f0_1 := bk_two (K0.out.keep H1.out K0.out.in_); clear b1))
        have HSB := hide (fun z (hz : Below w4.heap.size w4 z) => bk_two (K0.out.keep (le_call H4.out hz) K0.out.in_))
        have HBX := hide (HB.out.below H4.out (Nat.le_refl _))
        have HWD := hide (O2.out.row.below R2_4.out (Nat.le_refl _))
        go_loopw [10, 9] (fun kv av wr => ∃ k : Nat, k ≤ n' ∧ kv = .int .i64 k ∧ av = .int .i64 (atV q k) ∧ Hid (Below w4.heap.size w4 wr)) (fun kv _ _ => n' - (intOf kv).toNat)
        case atStart => exact ⟨0, Nat.zero_le _, rfl, rfl, hide (Below.refl _ _)⟩
        case round =>
          obtain ⟨k, hk, rfl, rfl, HBL⟩ := hrel
          have hcb := HSB.out _ HBL.out
          by_cases hlt : k < n'
          · have i1 : (k : Int) < (n' : Int) := by omega
            obtain ⟨e1, e2, e3, e4⟩ := from_word HOK.out HL40.out HIN.out (show k < b.2.length by rw [HOL.out]; exact hlt) (HQ.out k (by rw [HOL.out]; exact hlt))
            have HE2 := hide e2
            have HFR := hide (From_any A n c A' n' c' b (k : Int) wr (HBX.out.below HBL.out (Nat.le_refl _)))
            rw [e1, e2] at HFR
            have HST := hide (fun A5 n5 c5 B5 m5 d5 z hz (hw : Below w4.heap.size w4 z) => State_any A5 n5 c5 B5 m5 d5 (fromB b k) A2 u.length c2 u z hz (HWD.out.below hw (Nat.le_refl _)))
            rw [e3, e4] at HST
            clear e1 e2 e3 e4
            have hback : swpN k (swpN k q) = q := swpN_swpN k q
            generalize swpN k q = v at *
            have HNX := hide (show atV q (k + 1) = (q : Int) from rfl)
            cases k with
            | zero =>
              by_cases hv0 : v = 0
              · have c1 : ((v : Int) == 0) = true := by rw [beq_iff_eq]; omega
                have HEND := hide (show (q : Int) = ((0 : Nat) : Int) from by rw [← hback]; unfold swpN; split <;> (try split) <;> omega)
                have c3 : (((0 : Nat) : Int) != (q : Int)) = false := by rw [HEND.out]; exact bne_self_eq_false _
                have av0 : atV q 0 = -1 := rfl
                clear hback hv0
                go_wp2_with (first
                  | (go_at_call 45; refine HFR.out.mono ?_; rintro e5 w5 ⟨A5, n5, c5, B5, m5, d5, rfl, o5, b5⟩; have O5 := hide o5; have B5z := hide (le_call HBL.out b5); have BQ := hide (le_two B5z.out (.cells #[.slice A5 n5 c5, .slice B5 m5 d5] 25)); have K5 := hide (Bk.born w5 25 #[.slice A5 n5 c5, .slice B5 m5 d5]); have f5 := bk_two K5.out; clear o5 b5)
                  | (go_at_call 23; refine (HST.out A5 n5 c5 B5 m5 d5 _ (O5.out.below (le_two (Below.refl _ _) (.cells #[.slice A5 n5 c5, .slice B5 m5 d5] 25)) (Nat.le_refl _)).row BQ.out).mono ?_; rintro e6 w6 ⟨rfl, b6⟩; have B6 := hide (le_call BQ.out b6); clear b6))
                go_roundw
                case rel => exact ⟨0 + 1, by omega, by go_num, by (first | (rw [HNX.out, HEND.out]; done) | (rw [HNX.out, HEND.out]; rfl)), B6⟩
                case measure => simp [intOf]; omega
              by_cases hvk : v = 0
              · exact absurd hvk hv0
              · have c1 : ((v : Int) == 0) = false := by rw [beq_eq_false_iff_ne]; omega
                have c2 : ((v : Int) == ((0 : Nat) : Int)) = false := by rw [beq_eq_false_iff_ne]; omega
                have HEND := hide (show (q : Int) = (v : Int) from by rw [← hback]; unfold swpN; split <;> (try split) <;> omega)
                have c3 : ((v : Int) != (q : Int)) = false := by rw [HEND.out]; exact bne_self_eq_false _
                have av0 : atV q 0 = -1 := rfl
                clear hback hv0 hvk
                go_wp2_with (first
                  | (go_at_call 45; refine HFR.out.mono ?_; rintro e5 w5 ⟨A5, n5, c5, B5, m5, d5, rfl, o5, b5⟩; have O5 := hide o5; have B5z := hide (le_call HBL.out b5); have BQ := hide (le_two B5z.out (.cells #[.slice A5 n5 c5, .slice B5 m5 d5] 25)); have K5 := hide (Bk.born w5 25 #[.slice A5 n5 c5, .slice B5 m5 d5]); have f5 := bk_two K5.out; clear o5 b5)
                  | (go_at_call 23; refine (HST.out A5 n5 c5 B5 m5 d5 _ (O5.out.below (le_two (Below.refl _ _) (.cells #[.slice A5 n5 c5, .slice B5 m5 d5] 25)) (Nat.le_refl _)).row BQ.out).mono ?_; rintro e6 w6 ⟨rfl, b6⟩; have B6 := hide (le_call BQ.out b6); clear b6))
                go_roundw
                case rel => exact ⟨0 + 1, by omega, by go_num, by (first | (rw [HNX.out, HEND.out]; done) | (rw [HNX.out, HEND.out]; rfl)), B6⟩
                case measure => simp [intOf]; omega
            | succ k =>
              by_cases hv0 : v = 0
              · have c1 : ((v : Int) == 0) = true := by rw [beq_iff_eq]; omega
                have HEND := hide (show (q : Int) = ((k + 1 : Nat) : Int) from by rw [← hback]; unfold swpN; split <;> (try split) <;> omega)
                have c3 : (((k + 1 : Nat) : Int) != (q : Int)) = false := by rw [HEND.out]; exact bne_self_eq_false _
                have av0 : atV q (k + 1) = (q : Int) := rfl
                clear hback hv0
                go_wp2_with (first
                  | (go_at_call 45; refine HFR.out.mono ?_; rintro e5 w5 ⟨A5, n5, c5, B5, m5, d5, rfl, o5, b5⟩; have O5 := hide o5; have B5z := hide (le_call HBL.out b5); have BQ := hide (le_two B5z.out (.cells #[.slice A5 n5 c5, .slice B5 m5 d5] 25)); have K5 := hide (Bk.born w5 25 #[.slice A5 n5 c5, .slice B5 m5 d5]); have f5 := bk_two K5.out; clear o5 b5)
                  | (go_at_call 23; refine (HST.out A5 n5 c5 B5 m5 d5 _ (O5.out.below (le_two (Below.refl _ _) (.cells #[.slice A5 n5 c5, .slice B5 m5 d5] 25)) (Nat.le_refl _)).row BQ.out).mono ?_; rintro e6 w6 ⟨rfl, b6⟩; have B6 := hide (le_call BQ.out b6); clear b6))
                go_roundw
                case rel => exact ⟨k + 1 + 1, by omega, by go_num, by (first | (rw [HNX.out, HEND.out]; done) | (rw [HNX.out, HEND.out]; rfl)), B6⟩
                case measure => simp [intOf]; omega
              by_cases hvk : v = k + 1
              · have c1 : ((v : Int) == 0) = false := by rw [beq_eq_false_iff_ne]; omega
                have c2 : ((v : Int) == ((k + 1 : Nat) : Int)) = true := by rw [beq_iff_eq]; omega
                have HEND := hide (show (q : Int) = 0 from by rw [← hback]; unfold swpN; split <;> (try split) <;> omega)
                have c3 : ((0 : Int) != (q : Int)) = false := by rw [HEND.out]; rfl
                have av0 : atV q (k + 1) = (q : Int) := rfl
                clear hback hv0 hvk
                go_wp2_with (first
                  | (go_at_call 45; refine HFR.out.mono ?_; rintro e5 w5 ⟨A5, n5, c5, B5, m5, d5, rfl, o5, b5⟩; have O5 := hide o5; have B5z := hide (le_call HBL.out b5); have BQ := hide (le_two B5z.out (.cells #[.slice A5 n5 c5, .slice B5 m5 d5] 25)); have K5 := hide (Bk.born w5 25 #[.slice A5 n5 c5, .slice B5 m5 d5]); have f5 := bk_two K5.out; clear o5 b5)
                  | (go_at_call 23; refine (HST.out A5 n5 c5 B5 m5 d5 _ (O5.out.below (le_two (Below.refl _ _) (.cells #[.slice A5 n5 c5, .slice B5 m5 d5] 25)) (Nat.le_refl _)).row BQ.out).mono ?_; rintro e6 w6 ⟨rfl, b6⟩; have B6 := hide (le_call BQ.out b6); clear b6))
                go_roundw
                case rel => exact ⟨k + 1 + 1, by omega, by go_num, by (first | (rw [HNX.out, HEND.out]; done) | (rw [HNX.out, HEND.out]; rfl)), B6⟩
                case measure => simp [intOf]; omega
              · have c1 : ((v : Int) == 0) = false := by rw [beq_eq_false_iff_ne]; omega
                have c2 : ((v : Int) == ((k + 1 : Nat) : Int)) = false := by rw [beq_eq_false_iff_ne]; omega
                have HEND := hide (show (q : Int) = (v : Int) from by rw [← hback]; unfold swpN; split <;> (try split) <;> omega)
                have c3 : ((v : Int) != (q : Int)) = false := by rw [HEND.out]; exact bne_self_eq_false _
                have av0 : atV q (k + 1) = (q : Int) := rfl
                clear hback hv0 hvk
                go_wp2_with (first
                  | (go_at_call 45; refine HFR.out.mono ?_; rintro e5 w5 ⟨A5, n5, c5, B5, m5, d5, rfl, o5, b5⟩; have O5 := hide o5; have B5z := hide (le_call HBL.out b5); have BQ := hide (le_two B5z.out (.cells #[.slice A5 n5 c5, .slice B5 m5 d5] 25)); have K5 := hide (Bk.born w5 25 #[.slice A5 n5 c5, .slice B5 m5 d5]); have f5 := bk_two K5.out; clear o5 b5)
                  | (go_at_call 23; refine (HST.out A5 n5 c5 B5 m5 d5 _ (O5.out.below (le_two (Below.refl _ _) (.cells #[.slice A5 n5 c5, .slice B5 m5 d5] 25)) (Nat.le_refl _)).row BQ.out).mono ?_; rintro e6 w6 ⟨rfl, b6⟩; have B6 := hide (le_call BQ.out b6); clear b6))
                go_roundw
                case rel => exact ⟨k + 1 + 1, by omega, by go_num, by (first | (rw [HNX.out, HEND.out]; done) | (rw [HNX.out, HEND.out]; rfl)), B6⟩
                case measure => simp [intOf]; omega
          · obtain rfl : k = n' := by omega
            go_wp2_with (go_at_call 20; refine (sane_any _).mono ?_; rintro e9 w9 ⟨rfl, b9⟩; have B9 := hide (le_call HBL.out b9); clear b9)
            go_ret
            exact ⟨rfl, le_call (le_call D0.out H4.out) B9.out⟩
      · have hlb : ¬ (u.length : Int) ≤ 40 := by omega
        have hlc : (40 : Int) < (u.length : Int) := by omega
        clear ht het HTV ok hl
        go_enter Try.func11, Try.ntmps11
        go_wp2_with (first
          | (have hgd := H4; clear hgd; go_at_call 20; refine (sane_any _).mono ?_; rintro e5 w5 ⟨rfl, b5⟩; have H5 := hide (le_call H4.out b5); have R2_5 := hide (le_call R2_4.out b5); have R3_5 := hide (le_call R3_4.out b5); have f0_5 := bk_two (K0.out.keep H5.out K0.out.in_); clear b5)
          | (have hgd := H3; clear hgd; go_at_call 27; refine (SameInts_any A2 u.length c2 A3 n3 c3 u u _ (O2.out.row.below R2_3.out (Nat.le_refl _)) O3.out.row (by have h1 := LN2.out; have h2 := HU64.out; (try simp only [Option.getD_some] at h1); omega) (by have h1 := LN3.out; have h2 := HU64.out; (try simp only [Option.getD_some] at h1); omega)).mono ?_; rintro e4 w4 ⟨rfl, qq, hqq⟩; have b4 := (show Below w3.heap.size w3 w4 from (by rw [hqq]; exact below_drewN (Below.refl _ _) qq)); clear hqq; rw [beq_self_eq_true]; have H4 := hide (le_call H3.out b4); have R2_4 := hide (le_call R2_3.out b4); have R3_4 := hide (le_call R3_3.out b4); have f0_4 := bk_two (K0.out.keep H4.out K0.out.in_); clear b4)
          | (have hgd := H2; clear hgd; go_at_call 44; refine (rSync_any A n c A' n' c' b _ (HB.out.below H2.out (Nat.le_refl _))).mono ?_; rw [HT.out]; rintro e3 w3 ⟨A3, n3, c3, rfl, o3, b3⟩; have H3 := hide (le_call H2.out b3); have R2_3 := hide (le_call R2_2.out b3); have f0_3 := bk_two (K0.out.keep H3.out K0.out.in_); have O3 := hide o3; have LN3 := hide o3.len; have R3_3 := hide (Below.refl w3.heap.size w3); clear o3; clear b3)
          | (have hgd := H1; clear hgd; go_at_call 43; refine (Sync_any A n c A' n' c' b _ (HB.out.below H1.out (Nat.le_refl _))).mono ?_; rw [HT.out]; rintro e2 w2 ⟨A2, n2, c2, rfl, o2, b2⟩; have H2 := hide (le_call H1.out b2); have f0_2 := bk_two (K0.out.keep H2.out K0.out.in_); have O2 := hide o2; have LN2 := hide o2.len; obtain rfl : u.length = n2 := o2.len; have R2_2 := hide (Below.refl w2.heap.size w2); clear o2; clear b2)
          | (have hgd := H0; clear hgd; go_at_call 19; refine (Long_any A n c A' n' c' none 0 0 [] _ (R.nil EH _) hle hle').mono ?_; rintro e1 w1 ⟨rfl, b1⟩; rw [HLG.out]; have H1 := hide (le_call H0.out b1); have f0_1 := bk_two (K0.out.keep H1.out K0.out.in_); clear b1))
        go_ret
        exact ⟨rfl, le_call D0.out H5.out⟩
end Go.Proofs.Ytkjnhdkbojcojaa
