/- Walks of Mean and IsFalling, on both sides. -/
import Derived.Test.YtlmmkaadoicogaaWalkG
namespace Go.Proofs.Ytlmmkaadoicogaa
open Go.RowKit

def inH (n : Nat) (i : Int) : Bool := decide (0 ≤ i) && decide (i < n)
theorem inH_iff {n : Nat} {i : Int} : inH n i = true ↔ 0 ≤ i ∧ i < n := by simp [inH]
def errV (xs : Rd) (l : List Int) : Int := if errH xs = 0 then (if l.all (inH xs.length) then 0 else 4) else errH xs
theorem errV_bad {xs : Rd} {l : List Int} (h : errH xs ≠ 0) : errV xs l = errH xs := by unfold errV; rw [if_neg h]
theorem errV_none {xs : Rd} {l : List Int} (h : errH xs = 0) {i : Int} (hi : i ∈ l) (e : ¬ (0 ≤ i ∧ i < xs.length)) : errV xs l = 4 := by
  unfold errV
  rw [if_pos h, if_neg]
  intro hh
  exact e (inH_iff.1 (List.all_eq_true.1 hh i hi))
theorem errV_ok {xs : Rd} {l : List Int} (h : errH xs = 0) (hl : ∀ k, k < l.length → inH xs.length (l.getD k 0) = true) : errV xs l = 0 := by
  unfold errV
  rw [if_pos h, if_pos]
  refine List.all_eq_true.2 fun x hx => ?_
  obtain ⟨k, hk, rfl⟩ := List.getElem_of_mem hx
  have := hl k hk
  simpa [List.getD_eq_getElem?_getD, hk] using this
def ints (l : List Int) : List Value := l.map (Value.int .i64)
theorem ints_at {w : World} {g : Nat} {t : TypeId} {l : List Int} (h : Bk w g t (ints l).toArray) {k : Nat} (hk : k < l.length) : w.cell? ⟨g, k, none⟩ = some (.int .i64 (l.getD k 0)) := by
  rw [h.at_]
  simp [ints, List.getD_eq_getElem?_getD, hk]
theorem mem_getD {xs : List Int} {k : Nat} (h : k < xs.length) : xs.getD k 0 ∈ xs := by
  rw [List.getD_eq_getElem?_getD, List.getElem?_eq_getElem h]; exact List.getElem_mem h

set_option maxHeartbeats 1000000 in
theorem validateHours_any (A : Option Addr) (n c : Nat) (xs : Rd) (g m : Nat) (t : TypeId) (l : List Int) (w : World) (h : Row w A n c xs) (hn2 : n ≤ 1000) (hb : Bk w g t (ints l).toArray) (hm : l.length = m) (hm2 : m ≤ 1000) :
    Calls Try.prog 59 #[.slice A n c, .slice (some ⟨g, 0, none⟩) m m] w fun e w' => e = .returned (.int .i64 (errV xs l)) ∧ Below w.heap.size w w' := by
  have HR := hide h
  have HL := hide h.length
  have hcap : n ≤ 9223372036854775807 := by omega
  have HB := hide hb
  have hgl := hb.in_
  have HM := hide hm
  clear h hb hm
  by_cases he : errH xs = 0
  · have HE := hide he
    clear he
    go_enter Try.func59, Try.ntmps59
    go_wp2_with fail
    refine (Validate_any _ _ _ xs _ HR.out (by omega)).mono ?_
    rw [HE.out]
    rintro e w1 ⟨rfl, hb1⟩
    have HB1 := hide (HB.out.keep hb1 hgl)
    go_wp2_with fail
    go_loop [15] (fun s => ∃ k : Nat, k ≤ m ∧ s = .int .i64 k ∧ Hid (∀ j, j < k → inH xs.length (l.getD j 0) = true)) (fun s => m - (intOf s).toNat)
    case atStart => exact ⟨0, Nat.zero_le _, rfl, hide fun j hj => absurd hj (Nat.not_lt_zero _)⟩
    case round =>
      obtain ⟨k, hk, rfl, hin⟩ := hrel
      by_cases hlt : k < m
      · have hc := ints_at HB1.out (k := k) (by rw [HM.out]; exact hlt)
        have HMEM := hide (mem_getD (xs := l) (k := k) (by rw [HM.out]; exact hlt))
        generalize hx : l.getD k 0 = x at *
        have HX := hide hx
        clear hx
        by_cases h0 : 0 ≤ x ∧ x < n
        · obtain ⟨h0, h1⟩ := h0
          go_wp2_with fail
          go_round
          case rel =>
            refine ⟨k + 1, by omega, by go_num, hide fun j hj => ?_⟩
            by_cases hjk : j = k
            · subst hjk; rw [HX.out, inH_iff, HL.out]; exact ⟨h0, h1⟩
            · exact hin.out j (by omega)
          case measure => simp [intOf]; omega
        · have HN := hide (errV_none HE.out HMEM.out (by rw [HL.out]; exact h0))
          go_wp2_with fail
          all_goals first
            | (exfalso; omega)
            | (go_ret; exact ⟨ret_i64 HN.out.symm, hb1⟩)
      · have HN := hide (errV_ok HE.out (l := l) fun j hj => hin.out j (by rw [HM.out] at hj; omega))
        go_wp2_with fail
        go_ret
        exact ⟨ret_i64 HN.out.symm, hb1⟩
  · have he' := errH_ne he
    have HE := hide he
    go_enter Try.func59, Try.ntmps59
    go_wp2_with fail
    refine (Validate_any _ _ _ xs _ HR.out (by omega)).mono ?_
    rintro e w1 ⟨rfl, hb1⟩
    go_wp2_with fail
    go_ret
    exact ⟨ret_i64 (errV_bad HE.out).symm, hb1⟩

set_option maxHeartbeats 1000000 in
theorem houred_any (A : Option Addr) (n c : Nat) (xs : Rd) (a b : Int) (w : World) (h : Row w A n c xs) (hn2 : n ≤ 1000) :
    Calls Try.prog 62 #[.slice A n c, .int .i64 a, .int .i64 b] w fun e w' => e = .returned (.int .i64 (errV xs [a, b])) ∧ w = w' := by
  have HR := hide h
  have hl := h.length
  clear h
  by_cases he : errH xs = 0
  · have hn1 := (errH_zero he).1
    have hn12 := (errH_zero he).2.1
    rw [hl] at hn1 hn12
    have HE := hide he
    have HL := hide hl
    have hV : errV xs [a, b] = if (0 ≤ a ∧ a < n) ∧ (0 ≤ b ∧ b < n) then 0 else 4 := by
      unfold errV
      rw [if_pos HE.out, HL.out]
      congr 1
      simp [inH]
    have HV := hide hV
    clear he hl hV
    rcases withinB_dec a 0 ((n : Int) - 1) with ⟨h5, h6, h7⟩ | ⟨h5, h6⟩
    · rcases withinB_dec b 0 ((n : Int) - 1) with ⟨h8, h9, h10⟩ | ⟨h8, h9⟩
      · have hv : errV xs [a, b] = 0 := by rw [HV.out, if_pos (by omega)]
        have HV2 := hide hv
        clear hv
        go_enter Try.func62, Try.ntmps62
        go_wp2_with (first | (go_at_call 25; refine (rValidate_any _ _ _ xs _ HR.out (by omega)).mono ?_; rw [HE.out]; rintro e w1 ⟨rfl, rfl⟩) | (go_at_call 64; refine (within_any _ _ _ _).mono ?_; rintro e w' ⟨rfl, rfl⟩))
        go_ret
        exact ⟨ret_i64 HV2.out.symm, rfl⟩
      · have hv : errV xs [a, b] = 4 := by rw [HV.out, if_neg (by omega)]
        have HV2 := hide hv
        clear hv
        go_enter Try.func62, Try.ntmps62
        go_wp2_with (first | (go_at_call 25; refine (rValidate_any _ _ _ xs _ HR.out (by omega)).mono ?_; rw [HE.out]; rintro e w1 ⟨rfl, rfl⟩) | (go_at_call 64; refine (within_any _ _ _ _).mono ?_; rintro e w' ⟨rfl, rfl⟩))
        go_ret
        exact ⟨ret_i64 HV2.out.symm, rfl⟩
    · have hv : errV xs [a, b] = 4 := by rw [HV.out, if_neg (by omega)]
      have HV2 := hide hv
      clear hv
      go_enter Try.func62, Try.ntmps62
      go_wp2_with (first | (go_at_call 25; refine (rValidate_any _ _ _ xs _ HR.out (by omega)).mono ?_; rw [HE.out]; rintro e w1 ⟨rfl, rfl⟩) | (go_at_call 64; refine (within_any _ _ _ _).mono ?_; rintro e w' ⟨rfl, rfl⟩))
      go_ret
      exact ⟨ret_i64 HV2.out.symm, rfl⟩
  · have he' := errH_ne he
    have HE := hide he
    go_enter Try.func62, Try.ntmps62
    go_wp2_with (first | (go_at_call 25; refine (rValidate_any _ _ _ xs _ HR.out (by omega)).mono ?_; rintro e w1 ⟨rfl, rfl⟩))
    go_ret
    exact ⟨ret_i64 (errV_bad HE.out).symm, rfl⟩


/-- What Mean returns, both sides: the code, and the mean if it is OK. -/
def errM (xs : Rd) (a b : Int) : Int := if errV xs [a, b] = 0 then (if b < a then 1 else 0) else errV xs [a, b]
def meanOr (xs : Rd) (a b : Int) : Int × Int := if errM xs a b = 0 then rq (mq xs a.toNat b.toNat) else (0, 0)
theorem errV_zero {xs : Rd} {l : List Int} (h : errV xs l = 0) : errH xs = 0 ∧ ∀ i ∈ l, 0 ≤ i ∧ i < xs.length := by
  unfold errV at h
  split at h
  · rename_i h0
    split at h
    · rename_i h1
      exact ⟨h0, fun i hi => inH_iff.1 (List.all_eq_true.1 h1 i hi)⟩
    · omega
  · contradiction
theorem errM_zero {xs : Rd} {a b : Int} (h : errM xs a b = 0) : errH xs = 0 ∧ 0 ≤ a ∧ a ≤ b ∧ b < xs.length ∧ errV xs [a, b] = 0 := by
  unfold errM at h
  split at h
  · rename_i h0
    obtain ⟨h1, h2⟩ := errV_zero h0
    have := h2 a (by simp)
    have := h2 b (by simp)
    split at h
    · omega
    · exact ⟨h1, by omega, by omega, by omega, h0⟩
  · contradiction
def RatPost (_xs : Rd) (p : Int × Int) (er : Int) (w : World) (e : Ending) (w' : World) : Prop :=
  e = .returned (.tuple #[.agg #[.int .i64 p.1, .int .i64 p.2], .int .i64 er]) ∧ Below w.heap.size w w'

theorem mean_seg {A : Option Addr} {n c : Nat} {xs : Rd} {b off : Nat} {w : World} (h : RowAt w A n c xs b off) (o : okH xs = true) (hn : n ≤ 12) {i j m cc : Nat} (hij : i ≤ j) (hj : j < n) (hm : m = j + 1 - i) (hcc : cc = c - i) :
    Calls Try.prog 61 #[.slice (some ⟨b, off + i * 2, none⟩) m cc] w fun e w' => e = .returned (.agg #[.int .i64 (nS xs (j + 1) - nS xs i), .int .i64 (dS xs (j + 1) - dS xs i)]) ∧ Below w.heap.size w w' := by
  subst hm hcc
  have := mean_any _ _ _ _ w (Row.sub h (i := i) (m := j + 1 - i) (by omega)) (okH_sub o i _) (by omega)
  rw [nS_sub, dS_sub, show i + (j + 1 - i) = j + 1 by omega] at this
  exact this
set_option maxHeartbeats 1000000 in
theorem Mean_any (A : Option Addr) (n c : Nat) (xs : Rd) (a b : Int) (w : World) (h : Row w A n c xs) (hn2 : n ≤ 1000) :
    Calls Try.prog 20 #[.slice A n c, .int .i64 a, .int .i64 b] w (RatPost xs (meanOr xs a b) (errM xs a b) w) := by
  have HR := hide h
  have hl := h.length
  by_cases he : errV xs [a, b] = 0
  · obtain ⟨h1, h2⟩ := errV_zero he
    have ha := h2 a (by simp)
    have hb := h2 b (by simp)
    obtain ⟨e1, e2, e3⟩ := errH_zero h1
    have hn12 : n ≤ 12 := by omega
    rw [hl] at ha hb
    have HE := hide he
    have HL := hide hl
    clear h2 h1 he hl
    by_cases hab : b < a
    · have hm : errM xs a b = 1 := by unfold errM; rw [if_pos HE.out, if_pos hab]
      have hv : meanOr xs a b = (0, 0) := by unfold meanOr; rw [if_neg (by rw [hm]; omega)]
      rw [hm, hv]
      clear hm hv h
      go_enter Try.func20, Try.ntmps20
      go_wp2_with fail
      have hbk : Bk ((w.alloc (.cells #[.int .i64 0, .int .i64 0] 26)).alloc (.cells (ints [a, b]).toArray 3)) (w.heap.size + 1) 3 (ints [a, b]).toArray := by
        have := Bk.born (w.alloc (.cells #[.int .i64 0, .int .i64 0] 26)) 3 (ints [a, b]).toArray
        simpa using this
      have HB := hide hbk
      clear hbk
      refine (validateHours_any _ _ _ xs _ 2 _ [a, b] _ ((HR.out.alloc _).alloc _) (by omega) HB.out rfl (by omega)).mono ?_
      rw [HE.out]
      rintro e w1 ⟨rfl, hb1⟩
      have hres := hide (((Bk.born w 26 #[.int .i64 0, .int .i64 0]).more (.cells (ints [a, b]).toArray 3)).keep hb1 (by simp; omega))
      obtain ⟨k0, k1, f0, f1, hsz⟩ := hres.out.two
      have hbel : Below w.heap.size w w1 := (((Below.refl _ _).alloc (Nat.le_refl _) _).alloc (by simp) _).trans (hb1.mono (by simp; omega))
      obtain ⟨q1, q2, q3⟩ := hres.out.res2 (.int .i64 0) (.int .i64 0)
      go_wp2_with fail
      refine bodyPost_ret (v := .tuple #[.agg #[.int .i64 0, .int .i64 0], .int .i64 1]) (by simp [results, Try.results20, go_sem, q2, q3]) rfl ⟨rfl, ?_⟩
      exact (hbel.setCell (by simp) _).setCell (by simp) _
    · have hm : errM xs a b = 0 := by unfold errM; rw [if_pos HE.out, if_neg hab]
      have hv : meanOr xs a b = rq (mq xs a.toNat b.toNat) := by unfold meanOr; rw [if_pos hm]
      rw [hm, hv]
      clear hm hv
      obtain ⟨i, rfl⟩ : ∃ i : Nat, a = i := ⟨a.toNat, by omega⟩
      obtain ⟨j, rfl⟩ : ∃ j : Nat, b = j := ⟨b.toNat, by omega⟩
      simp only [Int.toNat_natCast]
      obtain ⟨bl, off, hr⟩ := h
      obtain rfl := hr.at_ (by omega)
      have HRA := hide hr
      have hltb := hr.lt (by omega)
      have hcap := hr.cap
      have hmax := hr.max
      clear hr
      have hmr := mn_rt xs i j
      have b1 := nS_bd e3 (a := i) (b := j + 1) (by omega) (by rw [HL.out]; omega)
      have b2 := dS_bd e3 (a := i) (b := j + 1) (by omega) (by rw [HL.out]; omega)
      have HMR := hide hmr
      clear hmr
      go_enter Try.func20, Try.ntmps20
      go_wp2_with fail
      have hbk : Bk ((w.alloc (.cells #[.int .i64 0, .int .i64 0] 26)).alloc (.cells (ints [(i : Int), (j : Int)]).toArray 3)) (w.heap.size + 1) 3 (ints [(i : Int), (j : Int)]).toArray := by
        have := Bk.born (w.alloc (.cells #[.int .i64 0, .int .i64 0] 26)) 3 (ints [(i : Int), (j : Int)]).toArray
        simpa using this
      have HB := hide hbk
      clear hbk
      refine (validateHours_any _ _ _ xs _ 2 _ [(i : Int), (j : Int)] _ ((HR.out.alloc _).alloc _) (by omega) HB.out rfl (by omega)).mono ?_
      rw [HE.out]
      rintro e w1 ⟨rfl, hb1⟩
      have hres := hide (((Bk.born w 26 #[.int .i64 0, .int .i64 0]).more (.cells (ints [(i : Int), (j : Int)]).toArray 3)).keep hb1 (by simp; omega))
      have hbel : Below w.heap.size w w1 := (((Below.refl _ _).alloc (Nat.le_refl _) _).alloc (by simp) _).trans (hb1.mono (by simp; omega))
      have HRA1 := hide (HRA.out.below hbel (Nat.le_refl _))
      have hsz1 := hres.out.in_
      clear hb1 HB
      go_wp2_with fail
      refine (mean_seg HRA1.out e3 hn12 (i := i) (j := j) (by omega) (by omega) (by omega) (by omega)).mono ?_
      generalize hx : nS xs (j + 1) - nS xs i = x at *
      generalize hy : dS xs (j + 1) - dS xs i = y at *
      rintro e w2 ⟨rfl, hb2⟩
      have hres2 := hide (hres.out.keep hb2 hsz1)
      have hbel2 := hbel.trans (hb2.mono hbel.size)
      have HX := hide hx
      have HY := hide hy
      clear hx hy hb2 hres hbel HRA1
      have hsz2 := hres2.out.in_
      go_wp2_with fail
      refine (lowest_any _ _ _ (by omega) (by omega) (by omega) (by omega)).mono ?_
      rw [← HMR.out]
      rw [show mn (vq xs) (wq xs) i j = mq xs i j from rfl]
      rintro e w3 ⟨rfl, hb3⟩
      have hres3 := hide (hres2.out.keep hb3 hsz2)
      have hbel3 := hbel2.trans (hb3.mono hbel2.size)
      clear hb3 hres2 hbel2
      obtain ⟨k0, k1, f0, f1, hsz⟩ := hres3.out.two
      obtain ⟨q1, q2, q3⟩ := hres3.out.res2 (.int .i64 (nu (mq xs i j))) (.int .i64 (de (mq xs i j)))
      go_wp2_with fail
      refine bodyPost_ret (v := .tuple #[.agg #[.int .i64 (nu (mq xs i j)), .int .i64 (de (mq xs i j))], .int .i64 0]) (by simp [results, Try.results20, go_sem, q2, q3]) rfl ⟨rfl, ?_⟩
      exact (hbel3.setCell (by simp) _).setCell (by simp) _
  · have hm : errM xs a b = errV xs [a, b] := by unfold errM; rw [if_neg he]
    have hv : meanOr xs a b = (0, 0) := by unfold meanOr; rw [if_neg (by rw [hm]; exact he)]
    rw [hm, hv]
    have he' : (errV xs [a, b] != 0) = true := by simp [he]
    generalize hee : errV xs [a, b] = ev at *
    have HEE := hide hee
    have hne := hide he
    clear hm hv h hl hee he
    go_enter Try.func20, Try.ntmps20
    go_wp2_with fail
    have hbk : Bk ((w.alloc (.cells #[.int .i64 0, .int .i64 0] 26)).alloc (.cells (ints [a, b]).toArray 3)) (w.heap.size + 1) 3 (ints [a, b]).toArray := by
      have := Bk.born (w.alloc (.cells #[.int .i64 0, .int .i64 0] 26)) 3 (ints [a, b]).toArray
      simpa using this
    have HB := hide hbk
    clear hbk
    refine (validateHours_any _ _ _ xs _ 2 _ [a, b] _ ((HR.out.alloc _).alloc _) (by omega) HB.out rfl (by omega)).mono ?_
    rw [HEE.out]
    rintro e w1 ⟨rfl, hb1⟩
    have hres := hide (((Bk.born w 26 #[.int .i64 0, .int .i64 0]).more (.cells (ints [a, b]).toArray 3)).keep hb1 (by simp; omega))
    obtain ⟨k0, k1, f0, f1, hsz⟩ := hres.out.two
    have hbel : Below w.heap.size w w1 := (((Below.refl _ _).alloc (Nat.le_refl _) _).alloc (by simp) _).trans (hb1.mono (by simp; omega))
    obtain ⟨q1, q2, q3⟩ := hres.out.res2 (.int .i64 0) (.int .i64 0)
    go_wp2_with fail
    refine bodyPost_ret (v := .tuple #[.agg #[.int .i64 0, .int .i64 0], .int .i64 ev]) (by simp [results, Try.results20, go_sem, q2, q3]) rfl ⟨rfl, ?_⟩
    exact (hbel.setCell (by simp) _).setCell (by simp) _

set_option maxHeartbeats 1000000 in
theorem rMean_any (A : Option Addr) (n c : Nat) (xs : Rd) (a b : Int) (w : World) (h : Row w A n c xs) (hn2 : n ≤ 1000) :
    Calls Try.prog 21 #[.slice A n c, .int .i64 a, .int .i64 b] w (RatPost xs (meanOr xs a b) (errM xs a b) w) := by
  have HR := hide h
  have hl := h.length
  by_cases he : errV xs [a, b] = 0
  · obtain ⟨h1, h2⟩ := errV_zero he
    have ha := h2 a (by simp)
    have hb := h2 b (by simp)
    obtain ⟨e1, e2, e3⟩ := errH_zero h1
    have hn12 : n ≤ 12 := by omega
    rw [hl] at ha hb
    have HE := hide he
    have HL := hide hl
    clear h2 h1 he hl
    by_cases hab : b < a
    · have hm : errM xs a b = 1 := by unfold errM; rw [if_pos HE.out, if_pos hab]
      have hv : meanOr xs a b = (0, 0) := by unfold meanOr; rw [if_neg (by rw [hm]; omega)]
      rw [hm, hv]
      clear hm hv h
      go_enter Try.func21, Try.ntmps21
      go_wp2_with fail
      refine (houred_any _ _ _ xs a b _ (HR.out.alloc _) (by omega)).mono ?_
      rw [HE.out]
      rintro e w1 ⟨rfl, rfl⟩
      go_wp2_with fail
      exact bodyPost_ret (v := .tuple #[.agg #[.int .i64 0, .int .i64 0], .int .i64 1]) (by simp [results, Try.results21, go_sem]) rfl ⟨rfl, (by (repeat' (first | exact Below.refl _ _ | exact Nat.le_refl _ | refine Below.drew ?_ | refine below_drewN ?_ _ | refine Below.alloc ?_ ?_ _ | refine Below.setCell ?_ ?_ _)); all_goals (first | (simp; done) | (simp; omega)))⟩
    · have hm : errM xs a b = 0 := by unfold errM; rw [if_pos HE.out, if_neg hab]
      have hv : meanOr xs a b = rq (mq xs a.toNat b.toNat) := by unfold meanOr; rw [if_pos hm]
      rw [hm, hv]
      clear hm hv h
      obtain ⟨i, rfl⟩ : ∃ i : Nat, a = i := ⟨a.toNat, by omega⟩
      obtain ⟨j, rfl⟩ : ∃ j : Nat, b = j := ⟨b.toNat, by omega⟩
      simp only [Int.toNat_natCast]
      go_enter Try.func21, Try.ntmps21
      go_wp2_with fail
      refine (houred_any _ _ _ xs _ _ _ (HR.out.alloc _) (by omega)).mono ?_
      rw [HE.out]
      rintro e w1 ⟨rfl, rfl⟩
      go_wp2_with fail
      refine (rmean_any _ _ _ xs i j _ (HR.out.alloc _) e3 hn12 (by omega) (by omega)).mono ?_
      rintro e w3 ⟨rfl, hb3⟩
      have hres3 := hide ((Bk.born w 26 #[.int .i64 0, .int .i64 0]).keep hb3 (by simp))
      have hbel3 : Below w.heap.size w w3 := ((Below.refl _ _).alloc (Nat.le_refl _) _).trans (hb3.mono (by simp))
      clear hb3
      obtain ⟨k0, k1, f0, f1, hsz⟩ := hres3.out.two
      obtain ⟨q1, q2, q3⟩ := hres3.out.res2 (.int .i64 (nu (mq xs i j))) (.int .i64 (de (mq xs i j)))
      go_wp2_with fail
      refine bodyPost_ret (v := .tuple #[.agg #[.int .i64 (nu (mq xs i j)), .int .i64 (de (mq xs i j))], .int .i64 0]) (by simp [results, Try.results21, go_sem, q2, q3]) rfl ⟨rfl, ?_⟩
      exact (hbel3.setCell (by simp) _).setCell (by simp) _
  · have hm : errM xs a b = errV xs [a, b] := by unfold errM; rw [if_neg he]
    have hv : meanOr xs a b = (0, 0) := by unfold meanOr; rw [if_neg (by rw [hm]; exact he)]
    rw [hm, hv]
    have he' : (errV xs [a, b] != 0) = true := by simp [he]
    generalize hee : errV xs [a, b] = ev at *
    have HEE := hide hee
    have hne := hide he
    clear hm hv h hl hee he
    go_enter Try.func21, Try.ntmps21
    go_wp2_with fail
    refine (houred_any _ _ _ xs a b _ (HR.out.alloc _) (by omega)).mono ?_
    rw [HEE.out]
    rintro e w1 ⟨rfl, rfl⟩
    go_wp2_with fail
    exact bodyPost_ret (v := .tuple #[.agg #[.int .i64 0, .int .i64 0], .int .i64 ev]) (by simp [results, Try.results21, go_sem]) rfl ⟨rfl, (by (repeat' (first | exact Below.refl _ _ | exact Nat.le_refl _ | refine Below.drew ?_ | refine below_drewN ?_ _ | refine Below.alloc ?_ ?_ _ | refine Below.setCell ?_ ?_ _)); all_goals (first | (simp; done) | (simp; omega)))⟩

end Go.Proofs.Ytlmmkaadoicogaa
