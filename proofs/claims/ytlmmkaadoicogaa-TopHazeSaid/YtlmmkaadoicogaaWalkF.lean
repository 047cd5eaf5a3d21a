/- Walks of the document's own means, highest means and best row. -/
import Derived.Test.YtlmmkaadoicogaaWalkE
namespace Go.Proofs.Ytlmmkaadoicogaa
open Go.RowKit

theorem Row.alloc {w : World} {A : Option Addr} {n c : Nat} {xs : Rd} (h : Row w A n c xs) (o : Obj) : Row (w.alloc o) A n c xs :=
  h.below ((Below.refl w.heap.size w).alloc (Nat.le_refl _) o) (Nat.le_refl _)
theorem Row.drew {w : World} {A : Option Addr} {n c : Nat} {xs : Rd} (h : Row w A n c xs) : Row w.drew A n c xs := h.drewN 1
theorem wv_bd {xs : Rd} (o : okH xs = true) {k : Nat} (hk : k < xs.length) : 0 ≤ wI xs k * vI xs k ∧ wI xs k * vI xs k ≤ 900 ∧ 1 ≤ wI xs k ∧ wI xs k ≤ 9 ∧ 0 ≤ vI xs k ∧ vI xs k ≤ 100 := by
  obtain ⟨a, b, c, d⟩ := okH_get o hk
  have : wI xs k * vI xs k ≤ 9 * 100 := Int.mul_le_mul (by omega) (by omega) (by omega) (by omega)
  exact ⟨Int.mul_nonneg (by omega) (by omega), by omega, c, d, a, b⟩
/-- The mean of the hours a to b, on the document's side. -/
def mq (xs : Rd) (a b : Nat) : Rat := mn (vq xs) (wq xs) a b
set_option maxHeartbeats 1000000 in
theorem rmean_any (A : Option Addr) (n c : Nat) (xs : Rd) (a b : Nat) (w : World) (h : Row w A n c xs) (o : okH xs = true) (hn2 : n ≤ 12) (hab : a ≤ b) (hb : b < n) :
    Calls Try.prog 63 #[.slice A n c, .int .i64 a, .int .i64 b] w fun e w' => e = .returned (.agg #[.int .i64 (nu (mq xs a b)), .int .i64 (de (mq xs a b))]) ∧ Below w.heap.size w w' := by
  have hlen := h.length
  obtain ⟨bl, off, h1, hcap, hmax, h2, h3, h4⟩ := h
  obtain rfl := h2 (by omega)
  have hlt := h3 (by omega)
  have H1 := hide h1
  have H4 := hide h4
  have O := hide o
  clear h1 h2 h3 h4 o
  go_enter Try.func63, Try.ntmps63
  go_wp2
  go_loopw [7, 8, 9] (fun s t i wr => ∃ (k m : Nat), a ≤ k ∧ k ≤ b + 1 ∧ i = .int .i64 k ∧ s = .int .i64 (nS xs k - nS xs a) ∧ t = .int .i64 (dS xs k - dS xs a) ∧ wr = (w.alloc (.cells #[.int .i64 0, .int .i64 0] 26)).drewN m) (fun _ _ i _ => b + 1 - (intOf i).toNat)
  case atStart => exact ⟨a, 0, Nat.le_refl _, by omega, rfl, by simp, by simp, rfl⟩
  case round =>
    obtain ⟨k, m, hk1, hk2, rfl, rfl, rfl, rfl⟩ := hrel
    have b1 := nS_bd O.out (a := a) (b := k) hk1 (by rw [H1.out]; omega)
    have b2 := dS_bd O.out (a := a) (b := k) hk1 (by rw [H1.out]; omega)
    by_cases hkb : k ≤ b
    · have g1 := wv_bd O.out (k := k) (by rw [H1.out]; omega)
      obtain ⟨hc1, hc2⟩ := H4.out k (by omega)
      rw [show (xs.getD k (0, 0)).1 = vI xs k from rfl] at hc1
      rw [show (xs.getD k (0, 0)).2 = wI xs k from rfl] at hc2
      have HS1 := hide (nS_succ xs k)
      have HS2 := hide (dS_succ xs k)
      generalize vI xs k = v at *
      generalize wI xs k = u at *
      generalize hx : nS xs k - nS xs a = x at *
      generalize hy : dS xs k - dS xs a = y at *
      have HX := hide hx
      have HY := hide hy
      clear hx hy
      have l0 : (0 : Int) ≤ k := by omega
      have l1 : (k : Int) < n := by omega
      have hw1 : IntKind.i64.wrap (u * v) = u * v := IntWalk.i64_in _ (by omega)
      have hw2 : IntKind.i64.wrap (x + u * v) = x + u * v := IntWalk.i64_in _ (by omega)
      have hw3 : IntKind.i64.wrap (y + u) = y + u := IntWalk.i64_in _ (by omega)
      go_wp2_with fail
      go_quiet (fail)
      clear hw1 hw2 hw3
      go_wp2
      go_roundw
      case rel => exact ⟨k + 1, _, by omega, by omega, by go_num, by rw [HS1.out, ← HX.out]; congr 1; omega, by rw [HS2.out, ← HY.out]; congr 1; omega, rfl⟩
      case measure => simp [intOf]; omega
    · obtain rfl : k = b + 1 := by omega
      have e := mn_rt xs a b
      have hz := dS_bd O.out (a := a) (b := b + 1) (by omega) (by rw [H1.out]; omega)
      generalize hx : nS xs (b + 1) - nS xs a = x at *
      generalize hy : dS xs (b + 1) - dS xs a = y at *
      have E := hide e
      clear hx hy e
      go_wp2_with fail
      refine (Ratio_any _ _ _ (by omega) (by omega) (by omega) (by omega)).mono ?_
      rintro e w1 ⟨rfl, hb1⟩
      rw [← E.out]
      have hblk := hide (((Bk.born w 26 #[.int .i64 0, .int .i64 0]).draws m).keep hb1 (by simp))
      obtain ⟨k0, k1, f0, f1, hsz⟩ := hblk.out.two
      have hbel : Below w.heap.size w w1 := (below_drewN ((Below.refl _ _).alloc (Nat.le_refl _) _) m).trans (hb1.mono (by simp))
      rw [show mn (vq xs) (wq xs) a b = mq xs a b from rfl]
      obtain ⟨q1, q2, q3⟩ := hblk.out.res2 (.int .i64 (nu (mq xs a b))) (.int .i64 (de (mq xs a b)))
      go_wp2
      refine bodyPost_ret (v := .agg #[.int .i64 (nu (mq xs a b)), .int .i64 (de (mq xs a b))]) (by simp [results, Try.results63, go_sem, q2, q3]) rfl ⟨rfl, ?_⟩
      exact (hbel.setCell (by simp) _).setCell (by simp) _

def lessB (p q : Rat) : Bool := decide (p < q)
theorem lessB_iff (p q : Rat) : (nu p * de q < nu q * de p) ↔ p < q := by
  rw [rat_lt]; rfl
set_option maxHeartbeats 400000 in
theorem Less_any (p q : Rat) (w : World) (hp1 : 0 ≤ nu p) (hp2 : nu p ≤ 1000000) (hp3 : de p ≤ 1000000) (hq1 : 0 ≤ nu q) (hq2 : nu q ≤ 1000000) (hq3 : de q ≤ 1000000) :
    Calls Try.prog 36 #[.agg #[.int .i64 (nu p), .int .i64 (de p)], .agg #[.int .i64 (nu q), .int .i64 (de q)]] w fun e w' => e = .returned (.bool (lessB p q)) ∧ Below w.heap.size w w' := by
  have d1 := de_pos p
  have d2 := de_pos q
  have m1 := mul_in hp1 hp2 (show 0 ≤ de q by omega) hq3
  have m2 := mul_in hq1 hq2 (show 0 ≤ de p by omega) hp3
  have hl : decide (nu p * de q < nu q * de p) = lessB p q := by unfold lessB; rw [decide_eq_decide]; exact lessB_iff p q
  have HL := hide hl
  clear hl
  generalize nu p = a at *
  generalize nu q = b at *
  generalize de p = c at *
  generalize de q = d at *
  go_enter Try.func36, Try.ntmps36
  go_wp2
  go_ret
  exact ⟨ret_bool HL.out, (by (repeat' (first | exact Below.refl _ _ | exact Nat.le_refl _ | refine Below.drew ?_ | refine below_drewN ?_ _ | refine Below.alloc ?_ ?_ _ | refine Below.setCell ?_ ?_ _)); all_goals (first | (simp; done) | (simp; omega)))⟩


theorem mq_bd {xs : Rd} (o : okH xs = true) {a b : Nat} (hab : a ≤ b) (hb : b < xs.length) (hl : xs.length ≤ 12) : 0 ≤ nu (mq xs a b) ∧ nu (mq xs a b) ≤ 10800 ∧ 1 ≤ de (mq xs a b) ∧ de (mq xs a b) ≤ 108 := by
  have h1 := nS_bd o (a := a) (b := b + 1) (by omega) (by omega)
  have h2 := dS_bd o (a := a) (b := b + 1) (by omega) (by omega)
  unfold mq
  rw [mn_rt]
  have e1 := rt_nu_bd (n := nS xs (b + 1) - nS xs a) (d := dS xs (b + 1) - dS xs a) (by omega) (by omega)
  have e2 := rt_de_bd (n := nS xs (b + 1) - nS xs a) (d := dS xs (b + 1) - dS xs a) (by omega)
  omega
/-- A number with small parts. -/
def Small (q : Rat) : Prop := 0 ≤ nu q ∧ nu q ≤ 10800 ∧ 1 ≤ de q ∧ de q ≤ 108
theorem small_mq {xs : Rd} (o : okH xs = true) {a b : Nat} (hab : a ≤ b) (hb : b < xs.length) (hl : xs.length ≤ 12) : Small (mq xs a b) := mq_bd o hab hb hl
theorem small_max {p q : Rat} (hp : Small p) (hq : Small q) : Small (rmax p q) := by unfold rmax; split <;> assumption
theorem small_min {p q : Rat} (hp : Small p) (hq : Small q) : Small (rmin p q) := by unfold rmin; split <;> assumption
theorem small_hiTo {xs : Rd} (o : okH xs = true) (hl : xs.length ≤ 12) {a i : Nat} (ha : a ≤ i) : ∀ {k : Nat}, i + k < xs.length → Small (hiTo (vq xs) (wq xs) a i k)
  | 0, h => small_mq o ha h hl
  | k + 1, h => small_max (small_hiTo o hl ha (k := k) (by omega)) (small_mq o (show a ≤ i + k + 1 by omega) (by omega) hl)
theorem small_hi {xs : Rd} (o : okH xs = true) (hl : xs.length ≤ 12) {a i : Nat} (ha : a ≤ i) (hi' : i < xs.length) : Small (hi (vq xs) (wq xs) xs.length a i) :=
  small_hiTo o hl ha (by omega)
theorem small_loTo {xs : Rd} (o : okH xs = true) (hl : xs.length ≤ 12) {i : Nat} (hi' : i < xs.length) : ∀ {k : Nat}, k ≤ i → Small (loTo (vq xs) (wq xs) xs.length i k)
  | 0, h => small_hi o hl h hi'
  | k + 1, h => small_min (small_loTo o hl hi' (k := k) (by omega)) (small_hi o hl h hi')
theorem small_mm {xs : Rd} (o : okH xs = true) (hl : xs.length ≤ 12) {i : Nat} (hi' : i < xs.length) : Small (mm (vq xs) (wq xs) xs.length i) := small_loTo o hl hi' (Nat.le_refl _)

theorem rmax_step {p q : Rat} : rmax p q = if lessB p q then q else p := by unfold rmax lessB; simp
theorem rmin_step {p q : Rat} : rmin p q = if lessB q p then q else p := by unfold rmin lessB; simp
set_option maxHeartbeats 2000000 in
theorem highest_any (A : Option Addr) (n c : Nat) (xs : Rd) (a i : Nat) (w : World) (h : Row w A n c xs) (o : okH xs = true) (hn2 : n ≤ 12) (hai : a ≤ i) (hi' : i < n) :
    Calls Try.prog 76 #[.slice A n c, .int .i64 a, .int .i64 i] w fun e w' => e = .returned (.agg #[.int .i64 (nu (hi (vq xs) (wq xs) n a i)), .int .i64 (de (hi (vq xs) (wq xs) n a i))]) ∧ Below w.heap.size w w' := by
  have hlen := h.length
  have HR := hide h
  have H1 := hide hlen
  have O := hide o
  clear h hlen o
  go_enter Try.func76, Try.ntmps76
  go_wp2_with fail
  refine (rmean_any _ _ _ xs _ _ _ ((HR.out.alloc _)) O.out hn2 hai hi').mono ?_
  rintro e w1 ⟨rfl, hb1⟩
  have hres1 := hide ((Bk.born w 26 #[.int .i64 0, .int .i64 0]).keep hb1 (by simp))
  have hbel1 : Below w.heap.size w w1 := ((Below.refl _ _).alloc (Nat.le_refl _) _).trans (hb1.mono (by simp))
  have hz1 := hres1.out.in_
  clear hb1
  obtain ⟨w0, rfl⟩ : ∃ wo : World, wo = w1 := ⟨_, rfl⟩
  go_wp2_with fail
  go_loopw [8] (fun s wr => ∃ k : Nat, i + k < n ∧ s = .int .i64 ((i + k + 1 : Nat) : Int) ∧ Bk wr w.heap.size 26 #[.int .i64 0, .int .i64 0] ∧
      Bk wr w0.heap.size 26 #[.int .i64 (nu (hiTo (vq xs) (wq xs) a i k)), .int .i64 (de (hiTo (vq xs) (wq xs) a i k))] ∧ Below w.heap.size w wr) (fun s _ => n - (intOf s).toNat)
  case atStart => exact ⟨0, by omega, by go_num, hres1.out.more _, Bk.born _ _ _, hbel1.alloc hbel1.size _⟩
  case round =>
    obtain ⟨k, hk, rfl, hres, hacc, hbel⟩ := hrel
    obtain ⟨k0, k1, f0, f1, hsz⟩ := hacc.two
    have HRES := hide hres
    have HACC := hide hacc
    have hz2 := hres.in_
    clear hres hacc
    have sm := small_hiTo O.out (by rw [H1.out]; exact hn2) hai (k := k) (by rw [H1.out]; exact hk)
    by_cases hlt : i + k + 1 < n
    · have sq := small_mq O.out (a := a) (b := i + k + 1) (by omega) (by rw [H1.out]; exact hlt) (by rw [H1.out]; exact hn2)
      have hst : hiTo (vq xs) (wq xs) a i (k + 1) = if lessB (hiTo (vq xs) (wq xs) a i k) (mq xs a (i + k + 1)) then mq xs a (i + k + 1) else hiTo (vq xs) (wq xs) a i k := rmax_step
      have HST := hide hst
      clear hst
      have HROW := hide (HR.out.below hbel (Nat.le_refl _))
      go_wp2_with fail
      refine (rmean_any _ _ _ xs _ _ _ HROW.out O.out hn2 (by omega) hlt).mono ?_
      rintro e w3 ⟨rfl, hb3⟩
      have hacc3 := hide (HACC.out.keep hb3 hsz)
      have hres3 := hide (HRES.out.keep hb3 hz2)
      have hbel3 := hbel.trans (hb3.mono hbel.size)
      clear k0 k1 f0 f1 hsz HACC HRES hb3 hbel
      obtain ⟨k0, k1, f0, f1, hsz⟩ := hacc3.out.two
      generalize hp : hiTo (vq xs) (wq xs) a i k = p at *
      generalize hq : mq xs a (i + k + 1) = q at *
      have HP := hide hp
      have HQ := hide hq
      clear hp hq
      obtain ⟨p1, p2, p3, p4⟩ := sm
      obtain ⟨q1, q2, q3, q4⟩ := sq
      go_wp2_with fail
      refine (Less_any p q _ p1 (by omega) (by omega) q1 (by omega) (by omega)).mono ?_
      rintro e w4 ⟨rfl, hb4⟩
      have hacc4 := hide ((hacc3.out.more (.cells #[.int .i64 (nu q), .int .i64 (de q)] 26)).keep hb4 (by simp; omega))
      have hres4 := hide ((hres3.out.more (.cells #[.int .i64 (nu q), .int .i64 (de q)] 26)).keep hb4 (by have := hres3.out.in_; simp; omega))
      have hnew4 := hide ((Bk.born w3 26 #[.int .i64 (nu q), .int .i64 (de q)]).keep hb4 (by simp))
      have hbel4 := (hbel3.alloc hbel3.size (.cells #[.int .i64 (nu q), .int .i64 (de q)] 26)).trans (hb4.mono (by have := hbel3.size; simp; omega))
      have hne : w0.heap.size < w3.heap.size := hsz
      clear k0 k1 f0 f1 hsz hacc3 hres3 hbel3 hb4
      obtain ⟨k0, k1, f0, f1, hsz⟩ := hacc4.out.two
      obtain ⟨m0, m1, g0, g1, hsz2⟩ := hnew4.out.two
      cases hl : lessB p q with
      | true =>
        have HE : Hid (hiTo (vq xs) (wq xs) a i (k + 1) = q) := by have := HST.out; rw [hl] at this; exact this
        clear HST hl
        go_wp2_with fail
        go_roundw
        case rel => exact ⟨k + 1, by omega, by go_num, (hres4.out.apart (by simp; omega) _).apart (by simp; omega) _, by rw [HE.out]; exact hacc4.out.set2, (hbel4.setCell (by simp; omega) _).setCell (by simp; omega) _⟩
        case measure => simp [intOf]; omega
      | false =>
        have HE : Hid (hiTo (vq xs) (wq xs) a i (k + 1) = p) := by have := HST.out; rw [hl] at this; exact this
        clear HST hl
        go_wp2_with fail
        go_roundw
        case rel => exact ⟨k + 1, by omega, by go_num, hres4.out, by rw [HE.out]; exact hacc4.out, hbel4⟩
        case measure => simp [intOf]; omega
    · obtain rfl : k = n - 1 - i := by omega
      rw [show hiTo (vq xs) (wq xs) a i (n - 1 - i) = hi (vq xs) (wq xs) n a i from rfl] at *
      obtain ⟨r0, r1, s0, s1, rsz⟩ := HRES.out.two
      obtain ⟨q1, q2, q3⟩ := HRES.out.res2 (.int .i64 (nu (hi (vq xs) (wq xs) n a i))) (.int .i64 (de (hi (vq xs) (wq xs) n a i)))
      go_wp2_with fail
      refine bodyPost_ret (v := .agg #[.int .i64 (nu (hi (vq xs) (wq xs) n a i)), .int .i64 (de (hi (vq xs) (wq xs) n a i))]) (by simp [results, Try.results76, go_sem, q2, q3]) rfl ⟨rfl, ?_⟩
      exact (hbel.setCell (by simp) _).setCell (by simp) _

end Go.Proofs.Ytlmmkaadoicogaa
