/- Walks of Begin on both sides, and of HazeBegins. -/
import Derived.Test.YtlmmkaadoicogaaWalkJ
import Derived.Test.YtlmmkaadoicogaaWalkP
namespace Go.Proofs.Ytlmmkaadoicogaa
open Go.RowKit

/-- What a function returns that returns readings and a code. -/
def ListPost (B : Nat) (ys : Rd) (er : Int) (w : World) (e : Ending) (w' : World) : Prop :=
  ∃ A' n' c', e = .returned (.tuple #[.slice A' n' c', .int .i64 er]) ∧ Own w' B 51 A' n' c' (if er = 0 then ys else []) ∧ Below B w w'
def errB (xs : Rd) (k : Int) : Int := if errH xs = 0 then (if 1 ≤ k ∧ k ≤ xs.length then 0 else 1) else errH xs
theorem errB_bad {xs : Rd} {k : Int} (h : errH xs ≠ 0) : errB xs k = errH xs := by unfold errB; rw [if_neg h]
theorem errB_zero {xs : Rd} {k : Int} (h : errB xs k = 0) : errH xs = 0 ∧ 1 ≤ k ∧ k ≤ xs.length := by
  unfold errB at h
  split at h
  · rename_i h0
    split at h
    · rename_i h1; exact ⟨h0, h1⟩
    · omega
  · contradiction
theorem Row.take {w : World} {A : Option Addr} {n c : Nat} {xs : Rd} (h : Row w A n c xs) {m : Nat} (hm : m ≤ n) : Row w A m c (xs.take m) := by
  obtain ⟨b, off, h1, hcap, hmax, h2, h3, h4⟩ := h
  refine ⟨b, off, by rw [List.length_take]; omega, by omega, hmax, fun h => h2 (by omega), fun h => h3 (by omega), fun k hk => ?_⟩
  have e : (xs.take m).getD k (0, 0) = xs.getD k (0, 0) := by simp [List.getD_eq_getElem?_getD, hk]
  rw [e]
  exact h4 k (by omega)

set_option maxHeartbeats 1000000 in
theorem Begin_any (A : Option Addr) (n c : Nat) (xs : Rd) (k : Int) (w : World) (h : Row w A n c xs) (hn2 : n ≤ 1000) :
    Calls Try.prog 56 #[.slice A n c, .int .i64 k] w (ListPost w.heap.size (xs.take k.toNat) (errB xs k) w) := by
  have HR := hide h
  have hl := h.length
  by_cases he : errH xs = 0
  · obtain ⟨e1, e2, e3⟩ := errH_zero he
    have hn1 : 1 ≤ n := by omega
    have HE := hide he
    obtain ⟨bl, off, hr⟩ := h
    obtain rfl := hr.at_ (by omega)
    have hcap := hr.cap
    have hmax := hr.max
    clear hr he
    by_cases hk : 1 ≤ k ∧ k ≤ n
    · have hb : errB xs k = 0 := by unfold errB; rw [if_pos HE.out, if_pos (by rw [hl]; exact hk)]
      rw [hb]
      obtain ⟨k1, k2⟩ := hk
      obtain ⟨m, rfl⟩ : ∃ m : Nat, k = m := ⟨k.toNat, by omega⟩
      simp only [Int.toNat_natCast]
      have hm2 : m ≤ n := by omega
      have HL := hide hl
      clear hb hl
      go_enter Try.func56, Try.ntmps56
      go_wp2_with fail
      refine (Validate_any _ _ _ xs _ HR.out (by omega)).mono ?_
      rw [HE.out]
      rintro e w1 ⟨rfl, hb1⟩
      have HT := hide ((HR.out.below hb1 (Nat.le_refl _)).take hm2)
      go_wp2_with fail
      refine (Clone_any _ _ _ _ _ HT.out (by omega) (by omega)).mono ?_
      rintro e w2 ⟨A', c', rfl, hown, hb2⟩
      go_wp2_with fail
      go_ret2
      refine ⟨A', m, c', rfl, ?_, hb1.trans (hb2.mono hb1.size)⟩
      rw [if_pos rfl]
      exact hown.more hb1.size
    · have hb : errB xs k = 1 := by unfold errB; rw [if_pos HE.out, if_neg (by rw [hl]; exact hk)]
      rw [hb]
      have HL := hide hl
      clear hb hl
      go_enter Try.func56, Try.ntmps56
      go_wp2_with fail
      refine (Validate_any _ _ _ xs _ HR.out (by omega)).mono ?_
      rw [HE.out]
      rintro e w1 ⟨rfl, hb1⟩
      go_wp2_with fail
      all_goals first
        | (exfalso; omega)
        | (go_ret2; exact ⟨none, 0, 0, rfl, Own.nil _ _ _, hb1⟩)
  · have he' := errH_ne he
    rw [errB_bad he]
    have HE := hide he
    clear h hl
    go_enter Try.func56, Try.ntmps56
    go_wp2_with fail
    refine (Validate_any _ _ _ xs _ HR.out (by omega)).mono ?_
    rintro e w1 ⟨rfl, hb1⟩
    go_wp2_with fail
    go_ret2
    refine ⟨none, 0, 0, rfl, ?_, hb1⟩
    rw [if_neg HE.out]
    exact Own.nil _ _ _

set_option maxHeartbeats 1000000 in
theorem rBegin_any (A : Option Addr) (n c : Nat) (xs : Rd) (k : Int) (w : World) (h : Row w A n c xs) (hn2 : n ≤ 1000) :
    Calls Try.prog 57 #[.slice A n c, .int .i64 k] w (ListPost w.heap.size (xs.take k.toNat) (errB xs k) w) := by
  have HR := hide h
  have hl := h.length
  by_cases he : errH xs = 0
  · obtain ⟨e1, e2, e3⟩ := errH_zero he
    have hn1 : 1 ≤ n := by omega
    have HE := hide he
    obtain ⟨bl, off, hr⟩ := h
    obtain rfl := hr.at_ (by omega)
    have hcap := hr.cap
    have hmax := hr.max
    clear hr he
    by_cases hk : 1 ≤ k ∧ k ≤ n
    · have hb : errB xs k = 0 := by unfold errB; rw [if_pos HE.out, if_pos (by rw [hl]; exact hk)]
      rw [hb]
      obtain ⟨k1, k2⟩ := hk
      have hw : withinB k 1 (n : Int) = true := withinB_true k1 k2
      obtain ⟨m, rfl⟩ : ∃ m : Nat, k = m := ⟨k.toNat, by omega⟩
      simp only [Int.toNat_natCast]
      have hm2 : m ≤ n := by omega
      have HL := hide hl
      clear hb hl
      have HT := hide (HR.out.take hm2)
      go_enter Try.func57, Try.ntmps57
      go_wp2_with (first | (go_at_call 25; refine (rValidate_any _ _ _ xs _ HR.out (by omega)).mono ?_; rw [HE.out]; rintro e w1 ⟨rfl, rfl⟩) | (go_at_call 64; refine (within_any _ _ _ _).mono ?_; rintro e w' ⟨rfl, rfl⟩))
      refine (Copy_any _ _ _ _ _ HT.out (by omega)).mono ?_
      rintro e w2 ⟨A', c', rfl, hown, hb2⟩
      go_wp2_with fail
      go_ret2
      refine ⟨A', m, c', rfl, ?_, hb2⟩
      rw [if_pos rfl]
      exact hown
    · have hb : errB xs k = 1 := by unfold errB; rw [if_pos HE.out, if_neg (by rw [hl]; exact hk)]
      have hw : withinB k 1 (n : Int) = false := withinB_false (by omega)
      rw [hb]
      have HL := hide hl
      clear hb hl
      go_enter Try.func57, Try.ntmps57
      go_wp2_with (first | (go_at_call 25; refine (rValidate_any _ _ _ xs _ HR.out (by omega)).mono ?_; rw [HE.out]; rintro e w1 ⟨rfl, rfl⟩) | (go_at_call 64; refine (within_any _ _ _ _).mono ?_; rintro e w' ⟨rfl, rfl⟩))
      go_ret2
      exact ⟨none, 0, 0, rfl, Own.nil _ _ _, Below.refl _ _⟩
  · have he' := errH_ne he
    rw [errB_bad he]
    have HE := hide he
    clear h hl
    go_enter Try.func57, Try.ntmps57
    go_wp2_with (first | (go_at_call 25; refine (rValidate_any _ _ _ xs _ HR.out (by omega)).mono ?_; rintro e w1 ⟨rfl, rfl⟩))
    go_ret2
    refine ⟨none, 0, 0, rfl, ?_, Below.refl _ _⟩
    rw [if_neg HE.out]
    exact Own.nil _ _ _

theorem okH_take {xs : Rd} (o : okH xs = true) (m : Nat) : okH (xs.take m) = true := List.all_eq_true.2 fun x hx => List.all_eq_true.1 o x (List.mem_of_mem_take hx)
theorem take_get (xs : Rd) {m k : Nat} (hk : k < m) : (xs.take m).getD k (0, 0) = xs.getD k (0, 0) := by
  simp [List.getD_eq_getElem?_getD, hk]
theorem rr_begin {xs : Rd} (o : okH xs = true) {m k : Nat} (hm : m ≤ xs.length) (hk : k < m) : rr (xs.take m) k ≤ rr xs k := by
  have kk := best_kkt (okH_take o m)
  have hlen : (xs.take m).length = m := by rw [List.length_take]; omega
  rw [hlen] at kk
  have k2 := kk.congr (v' := vq xs) (w' := wq xs) (r' := fun i => (bestR (xs.take m)).getD i 0) (fun i hi => by unfold vq vI; rw [take_get xs hi]) (fun i hi => by unfold wq wI; rw [take_get xs hi]) (fun i _ => rfl)
  have e1 := k2.mm (fun i hi => wq_pos o i (by omega)) hk
  have e2 := rr_mm xs (i := k) (by omega)
  have e3 := mm_begin (v := vq xs) (w := wq xs) hk hm
  rw [e2]
  unfold rr
  rw [e1]
  exact e3
theorem lessB_false {p q : Rat} (h : q ≤ p) : lessB p q = false := by unfold lessB; simp; grind
theorem fair_best {xs : Rd} (o : okH xs = true) (hl : xs.length ≤ 12) {n : Nat} (hn : xs.length = n) : ∀ k, k < n → 0 ≤ ((best xs).getD k (0, 0)).1 ∧ ((best xs).getD k (0, 0)).1 ≤ 1000000 ∧ 1 ≤ ((best xs).getD k (0, 0)).2 ∧ ((best xs).getD k (0, 0)).2 ≤ 1000 := by
  intro k hk
  have s := small_rr o hl (i := k) (by omega)
  rw [best_get xs (by omega)]
  obtain ⟨s1, s2, s3, s4⟩ := s
  exact ⟨s1, by simp only; omega, s3, by simp only; omega⟩
theorem errH_nil : errH [] = 3 := rfl

set_option maxRecDepth 100000 in
set_option maxHeartbeats 4000000 in
theorem HazeBegins_walk (A : Option Addr) (n c : Nat) (xs : Rd) (k : Int) (w : World) (h : Row w A n c xs) :
    Calls Try.prog 16 #[.slice A n c, .int .i64 k] w fun e w' => e = .returned (.bool true) ∧ Below w.heap.size w w' := by
  have HR := hide h
  have hl := h.length
  by_cases hn : 100 < n
  · clear h hl
    go_enter Try.func16, Try.ntmps16
    go_wp2_with (first | (go_at_call 18; refine (Long_yes _ _ _ _ hn).mono ?_; rintro e w' ⟨rfl, rfl⟩) | (go_at_call 19; refine (known_any _).mono ?_; rintro e w1 ⟨rfl, hb⟩))
    go_ret
    exact ⟨rfl, hb⟩
  · have hn' : n ≤ 100 := by omega
    have HL := hide hl
    clear h hl hn
    go_enter Try.func16, Try.ntmps16
    go_wp2_with fail
    refine (Long_no _ _ _ _ hn').mono ?_
    rintro e w' ⟨rfl, rfl⟩
    go_wp2_with fail
    refine (Begin_any _ _ _ xs k _ HR.out (by omega)).mono ?_
    rintro e w1 ⟨A1, n1, c1, rfl, o1, b1⟩
    have O1 := hide o1
    have HR1 := hide (HR.out.below b1 (Nat.le_refl _))
    clear o1
    go_wp2_with fail
    refine (rBegin_any _ _ _ xs k _ HR1.out (by omega)).mono ?_
    rintro e w2 ⟨A2, n2, c2, rfl, o2, b2⟩
    have O2 := hide o2
    have O1' := hide (O1.out.below b2 (Nat.le_refl _))
    have HR2 := hide (HR1.out.below b2 (Nat.le_refl _))
    have B2 := b1.trans (b2.mono b1.size)
    clear o2 b1 b2 O1 HR1
    go_wp2_with fail
    refine (SameReadings_any _ _ _ _ _ _ _ _ _ O1'.out.row O2.out.row).mono ?_
    rw [eqL_self]
    rintro e w3 ⟨rfl, m3, rfl⟩
    have O1 := hide (O1'.out.drewN m3)
    have HR3 := hide (HR2.out.drewN m3)
    have B3 := below_drewN B2 m3
    generalize w2.drewN m3 = w3 at *
    clear O1' O2 HR2 B2
    go_wp2_with fail
    refine (Best_any _ _ _ xs _ HR3.out (by omega)).mono ?_
    rintro e w4 ⟨A4, n4, c4, rfl, o4, b4⟩
    have O4 := hide o4
    have O1' := hide (O1.out.below b4 (Nat.le_refl _))
    have B4 := B3.trans (b4.mono B3.size)
    clear o4 b4 B3 HR3
    go_wp2_with fail
    have hn1 : n1 ≤ 1000 := by
      have := O1'.out.len
      split at this
      · rw [List.length_take, HL.out] at this; omega
      · simp at this; omega
    refine (Best_any _ _ _ _ _ O1'.out.row hn1).mono ?_
    rintro e w5 ⟨A5, n5, c5, rfl, o5, b5⟩
    have O5 := hide o5
    have O4' := hide (O4.out.below b5 (Nat.le_refl _))
    have B5 := B4.trans (b5.mono B4.size)
    have z5 := B5.size
    clear o5 b5 B4 O4
    by_cases hB : errB xs k = 0
    · obtain ⟨he, hk1, hk2⟩ := errB_zero hB
      obtain ⟨e1, e2, e3⟩ := errH_zero he
      rw [HL.out] at hk2 e1 e2
      obtain ⟨m, rfl⟩ : ∃ m : Nat, k = m := ⟨k.toNat, by omega⟩
      have hm1 : 1 ≤ m := by omega
      have hm2 : m ≤ n := by omega
      have hlt : (xs.take m).length = m := by rw [List.length_take, HL.out]; omega
      have het : errH (xs.take m) = 0 := errH_ok (by omega) (by omega) (okH_take e3 m)
      have hys : (if errB xs (m : Int) = 0 then xs.take (m : Int).toNat else []) = xs.take m := by rw [if_pos hB, Int.toNat_natCast]
      rw [hys, het, if_pos rfl] at O5
      rw [he, if_pos rfl] at O4'
      rw [hys, het, hB, he]
      have hn4 : n4 = n := by have := O4'.out.len; rw [best_len, HL.out] at this; exact this.symm
      have hn5 : n5 = m := by have := O5.out.len; rw [best_len, hlt] at this; exact this.symm
      subst hn4 hn5
      have hdn : decide (n4 < n5) = false := by simp; omega
      clear hk2
      have HF4 := hide (fair_best e3 (by rw [HL.out]; exact e2) HL.out)
      have HF5 := hide (fair_best (okH_take e3 n5) (by omega) hlt)
      have HX := hide O4'.out.row
      have HY := hide O5.out.row
      have HLT := hide hlt
      have HO := hide e3
      clear hB he het hlt O1 O1' e3 hys
      go_wp2_with (first | (go_at_call_of 35 (Value.slice A4 n4 c4); refine (fair_any _ _ _ _ _ HX.out (by omega) HF4.out).mono ?_; rintro e w6 ⟨rfl, rfl⟩) | (go_at_call_of 35 (Value.slice A5 n5 c5); refine (fair_any _ _ _ _ _ HY.out (by omega) HF5.out).mono ?_; rintro e w6 ⟨rfl, rfl⟩))
      clear hdn
      have hwf : Hid (Row w5 A4 n4 c4 (best xs) ∧ Row w5 A5 n5 c5 (best (xs.take n5))) := hide ⟨HX.out, HY.out⟩
      obtain ⟨bx, ox, rx⟩ := HX.out
      obtain ⟨by', oy, ry⟩ := HY.out
      obtain rfl := rx.at_ (by omega)
      obtain rfl := ry.at_ (by omega)
      have hcx := rx.cap
      have hcy := ry.cap
      have hmx := rx.max
      have hmy := ry.max
      have RX := hide rx
      have RY := hide ry
      clear rx ry HX HY hwf O4' O5
      go_loopw [13] (fun t wr => ∃ i : Nat, i ≤ n5 ∧ t = .int .i64 i ∧ RowAt wr (some ⟨bx, ox, none⟩) n4 c4 (best xs) bx ox ∧ RowAt wr (some ⟨by', oy, none⟩) n5 c5 (best (xs.take n5)) by' oy ∧ Below w.heap.size w wr) (fun t _ => n5 - (intOf t).toNat)
      case atStart => exact ⟨0, Nat.zero_le _, rfl, RX.out, RY.out, B5⟩
      case round =>
        obtain ⟨i, hi, rfl, ra, rb, hbel⟩ := hrel
        have RA := hide ra
        have RB := hide rb
        by_cases hlt : i < n5
        · obtain ⟨c1, c2⟩ := ra.cell i (by omega)
          obtain ⟨d1, d2⟩ := rb.cell i hlt
          rw [best_get xs (by rw [HL.out]; omega)] at c1 c2
          rw [best_get (xs.take n5) (by rw [HLT.out]; exact hlt)] at d1 d2
          simp only at c1 c2 d1 d2
          have hle := rr_begin HO.out (m := n5) (k := i) (by rw [HL.out]; omega) hlt
          obtain ⟨s1, s2, s3, s4⟩ := small_rr HO.out (by rw [HL.out]; omega) (i := i) (by rw [HL.out]; omega)
          obtain ⟨t1, t2, t3, t4⟩ := small_rr (okH_take HO.out n5) (by rw [HLT.out]; omega) (i := i) (by rw [HLT.out]; exact hlt)
          have HLS := hide fun W => Less_any (rr xs i) (rr (xs.take n5) i) W s1 (by omega) (by omega) t1 (by omega) (by omega)
          rw [lessB_false hle] at HLS
          clear hle ra rb
          generalize nu (rr xs i) = a1 at *
          generalize de (rr xs i) = a2 at *
          generalize nu (rr (xs.take n5) i) = a3 at *
          generalize de (rr (xs.take n5) i) = a4 at *
          have l0 : (0 : Int) ≤ i := by omega
          have l1 : (i : Int) < n4 := by omega
          have l2 : (i : Int) < n5 := by omega
          have f1 : World.cell? { heap := wr.heap, tape := wr.tape, drawn := wr.drawn + 1, os := wr.os, output := wr.output } ⟨bx, ox + i * 2, none⟩ = some (.int .i64 a1) := c1
          have f2 : World.cell? { heap := wr.heap, tape := wr.tape, drawn := wr.drawn + 1, os := wr.os, output := wr.output } ⟨bx, ox + i * 2 + 1, none⟩ = some (.int .i64 a2) := c2
          have f3 : World.cell? { heap := wr.heap, tape := wr.tape, drawn := wr.drawn + 1, os := wr.os, output := wr.output } ⟨by', oy + i * 2, none⟩ = some (.int .i64 a3) := d1
          have f4 : World.cell? { heap := wr.heap, tape := wr.tape, drawn := wr.drawn + 1, os := wr.os, output := wr.output } ⟨by', oy + i * 2 + 1, none⟩ = some (.int .i64 a4) := d2
          go_wp2_with fail
          go_still_tail 8, (by kernel_rfl)
          clear c1 c2 d1 d2 f1 f2 f3 f4
          change wpList _ _ _ _ _ wr.drew
          have RA4 := hide (RA.out.below ((Below.refl wr.heap.size wr).drew) (Nat.le_refl _))
          have RB4 := hide (RB.out.below ((Below.refl wr.heap.size wr).drew) (Nat.le_refl _))
          have hbel4 := hbel.drew
          generalize wr.drew = w7 at *
          clear RA RB hbel
          go_wp2_with fail
          refine (HLS.out _).mono ?_
          rintro e w8 ⟨rfl, hb8⟩
          go_wp2_with fail
          go_roundw
          case rel => exact ⟨i + 1, by omega, by go_num, RA4.out.below hb8 (Nat.le_refl _), RB4.out.below hb8 (Nat.le_refl _), hbel4.trans (hb8.mono hbel4.size)⟩
          case measure => simp [intOf]; omega
        · go_wp2_with (first | (go_at_call 19; refine (known_any _).mono ?_; rintro e w7 ⟨rfl, hb7⟩))
          go_ret
          exact ⟨rfl, hbel.trans (hb7.mono hbel.size)⟩
    · have hb' : (errB xs k != 0) = true := by simp [hB]
      rw [if_neg hB]
      clear hB O1 O1' O4' O5
      go_wp2_with (first | (go_at_call 19; refine (known_any _).mono ?_; rintro e w7 ⟨rfl, hb7⟩))
      go_ret
      exact ⟨rfl, B5.trans (hb7.mono z5)⟩

end Go.Proofs.Ytlmmkaadoicogaa
