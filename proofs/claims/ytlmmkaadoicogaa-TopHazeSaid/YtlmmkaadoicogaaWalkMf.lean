/- The walk of Misfit. -/
import Derived.Test.YtlmmkaadoicogaaMathN
import Derived.Test.YtlmmkaadoicogaaWalkH
namespace Go.Proofs.Ytlmmkaadoicogaa
open Go.RowKit

theorem qS_sub (xs : Rd) (i m : Nat) : qS ((xs.drop i).take m) m = qS xs (i + m) - qS xs i := by
  unfold qS
  rw [← isum_shift]
  refine isum_congr fun k hk => ?_
  unfold wI vI
  rw [sub_get xs hk]
theorem P9_big {a b : Nat} (h : a + b ≤ 12) : P9 a * P9 b ≤ 282429536481 := by
  rw [← P9_add, ← P9_12]
  exact P9_le h
/-- A number of the misfit after i hours. -/
def MB (q : Rat) (i : Nat) : Prop := 0 ≤ nu q ∧ nu q ≤ 1080000 * de q ∧ 1 ≤ de q ∧ de q ≤ P9 i
theorem MB.mul {a b : Rat} {i j : Nat} (ha : MB a i) (hb : MB b j) (hij : i + j ≤ 12) :
    0 ≤ nu a * de b ∧ nu a * de b ≤ 310000000000000000 ∧ 0 ≤ nu b * de a ∧ nu b * de a ≤ 310000000000000000 ∧ 1 ≤ de a * de b ∧ de a * de b ≤ 282429536481 ∧ de a * de b ≤ P9 (i + j) := by
  obtain ⟨a1, a2, a3, a4⟩ := ha
  obtain ⟨b1, b2, b3, b4⟩ := hb
  have pp : de a * de b ≤ P9 i * P9 j := Int.mul_le_mul a4 b4 (by omega) (by have := P9_pos i; omega)
  have big := P9_big hij
  have p1 : 1 ≤ de a * de b := by
    have : 1 * 1 ≤ de a * de b := Int.mul_le_mul a3 b3 (by omega) (by omega)
    omega
  have m1 : nu a * de b ≤ 1080000 * de a * de b := Int.mul_le_mul_of_nonneg_right a2 (by omega)
  have m2 : nu b * de a ≤ 1080000 * de b * de a := Int.mul_le_mul_of_nonneg_right b2 (by omega)
  rw [Int.mul_assoc] at m1 m2
  rw [Int.mul_comm (de b) (de a)] at m2
  refine ⟨Int.mul_nonneg a1 (by omega), by omega, Int.mul_nonneg b1 (by omega), by omega, p1, by omega, ?_⟩
  rw [P9_add]
  exact pp
theorem MB.of {q : Rat} {i : Nat} (h0 : 0 ≤ q) (h1 : q ≤ (1080000 : Rat)) (hd : de q ≤ P9 i) : MB q i := by
  refine ⟨?_, ?_, de_pos q, hd⟩
  · exact Rat.num_nonneg.2 h0
  · have e : (1080000 : Rat) = rt 1080000 1 := (rt_one 1080000).symm
    rw [e, ← rt_self q, rt_le (den_pos q) (by omega)] at h1
    show q.num ≤ 1080000 * (q.den : Int)
    omega
theorem MB.val {q : Rat} {n d : Int} {i : Nat} (hd : 0 < d) (h0 : 0 ≤ n) (h1 : n ≤ 1080000 * d) (h2 : d ≤ P9 i) (e : q = rt n d) : MB q i := by
  subst e
  have z : (0 : Rat) = rt 0 1 := (rt_one 0).symm
  refine MB.of ?_ ?_ ?_
  · rw [z, rt_le (by omega) hd]; omega
  · have e : (1080000 : Rat) = rt 1080000 1 := (rt_one 1080000).symm
    rw [e, rt_le hd (by omega)]
    omega
  · have := (rt_de_bd (n := n) hd).2
    omega

set_option maxHeartbeats 1000000 in
theorem sum_any (a b : Rat) (i j : Nat) (w : World) (ha : MB a i) (hb : MB b j) (hij : i + j ≤ 12) :
    Calls Try.prog 68 #[.agg #[.int .i64 (nu a), .int .i64 (de a)], .agg #[.int .i64 (nu b), .int .i64 (de b)]] w fun e w' => e = .returned (.agg #[.int .i64 (nu (a + b)), .int .i64 (de (a + b))]) ∧ Below w.heap.size w w' := by
  obtain ⟨m1, m2, m3, m4, m5, m6, _⟩ := MB.mul ha hb hij
  have e := rt_add a b
  have E := hide e
  clear e ha hb
  generalize hs : a + b = s at *
  have HS := hide hs
  clear hs
  generalize nu a = a1 at *
  generalize nu b = b1 at *
  generalize de a = a2 at *
  generalize de b = b2 at *
  go_enter Try.func68, Try.ntmps68
  go_wp2_with fail
  refine (lowest_any _ _ _ (by omega) (by omega) (by omega) (by omega)).mono ?_
  rw [E.out]
  rintro e w1 ⟨rfl, hb1⟩
  have K := hide ((Bk.born ((w.alloc (.cells #[.int .i64 a1, .int .i64 a2] 26)).alloc (.cells #[.int .i64 b1, .int .i64 b2] 26)) 26 #[.int .i64 0, .int .i64 0]).keep hb1 (by simp))
  have hbel : Below w.heap.size w w1 := ((((Below.refl _ _).alloc (Nat.le_refl _) (.cells #[.int .i64 a1, .int .i64 a2] 26)).alloc (by simp) (.cells #[.int .i64 b1, .int .i64 b2] 26)).alloc (by simp; omega) (.cells #[.int .i64 0, .int .i64 0] 26)).trans (hb1.mono (by simp; omega))
  have hsz : ((w.alloc (.cells #[.int .i64 a1, .int .i64 a2] 26)).alloc (.cells #[.int .i64 b1, .int .i64 b2] 26)).heap.size = w.heap.size + 1 + 1 := by simp
  rw [hsz] at K
  obtain ⟨k0, k1, f0, f1, _⟩ := K.out.two
  obtain ⟨q1, q2, q3⟩ := K.out.res2 (.int .i64 (nu s)) (.int .i64 (de s))
  go_wp2_with fail
  refine bodyPost_ret (v := .agg #[.int .i64 (nu s), .int .i64 (de s)]) (by simp [results, Try.results68, go_sem, q2, q3]) rfl ⟨rfl, ?_⟩
  exact (hbel.setCell (by simp; omega) _).setCell (by simp; omega) _

set_option maxHeartbeats 1000000 in
theorem misfit_any (A : Option Addr) (n c : Nat) (xs : Rd) (N D : Int) (w : World) (h : Row w A n c xs) (o : okH xs = true) (hn2 : n ≤ 12) (hN0 : 0 ≤ N) (hN1 : N ≤ 10800) (hD0 : 1 ≤ D) (hD1 : D ≤ 108) (hq : 0 ≤ qS xs n * D - N * N) :
    Calls Try.prog 69 #[.slice A n c, .agg #[.int .i64 N, .int .i64 D]] w fun e w' => e = .returned (.agg #[.int .i64 (nu (rt (qS xs n * D - N * N) D)), .int .i64 (de (rt (qS xs n * D - N * N) D))]) ∧ Below w.heap.size w w' := by
  obtain ⟨b, off, h1, hcap, hmax, h2, h3, h4⟩ := h
  have H1 := hide h1
  have H2 := hide h2
  have H3 := hide h3
  have H4 := hide h4
  have O := hide o
  clear h1 h2 h3 h4 o
  go_enter Try.func69, Try.ntmps69
  go_wp2
  go_loopw [5, 10] (fun s i wr => ∃ k : Nat, k ≤ n ∧ i = .int .i64 k ∧ s = .int .i64 (qS xs k) ∧ Bk wr w.heap.size 70 #[.int .i64 N, .int .i64 D] ∧ Bk wr (w.heap.size + 1) 26 #[.int .i64 0, .int .i64 0] ∧ Below w.heap.size w wr) (fun _ i _ => n - (intOf i).toNat)
  case atStart => exact ⟨0, Nat.zero_le _, rfl, rfl, (Bk.born _ _ _).more _, (by have := Bk.born (w.alloc (.cells #[.int .i64 N, .int .i64 D] 70)) 26 #[.int .i64 0, .int .i64 0]; simpa using this), (by (repeat' (first | exact Below.refl _ _ | exact Nat.le_refl _ | refine Below.drew ?_ | refine below_drewN ?_ _ | refine Below.alloc ?_ ?_ _ | refine Below.setCell ?_ ?_ _)); all_goals (first | (simp; done) | (simp; omega)))⟩
  case round =>
    obtain ⟨k, hk, rfl, rfl, hm, hres, hbel⟩ := hrel
    have HM := hide hm
    have HRES := hide hres
    have bq := qS_bd O.out (a := 0) (b := k) (by omega) (by rw [H1.out]; exact hk)
    have bq0 : qS xs 0 = 0 := rfl
    rw [bq0] at bq
    by_cases hlt : k < n
    · have hA := H2.out (by omega)
      subst hA
      obtain ⟨hc1, hc2⟩ := H4.out k hlt
      rw [← hbel.cell (p := ⟨b, off + k * 2, none⟩) (H3.out (by omega))] at hc1
      rw [← hbel.cell (p := ⟨b, off + k * 2 + 1, none⟩) (H3.out (by omega))] at hc2
      rw [show (xs.getD k (0, 0)).1 = vI xs k from rfl] at hc1
      rw [show (xs.getD k (0, 0)).2 = wI xs k from rfl] at hc2
      obtain ⟨p0, p1, p2, p3, p4, p5⟩ := wv_bd O.out (k := k) (by rw [H1.out]; exact hlt)
      have p6 : wI xs k * vI xs k * vI xs k ≤ 900 * 100 := Int.mul_le_mul p1 p5 p4 (by omega)
      have p7 : 0 ≤ wI xs k * vI xs k * vI xs k := Int.mul_nonneg p0 p4
      have HQ := hide (qS_succ xs k)
      clear hm hres
      generalize vI xs k = v at *
      generalize wI xs k = u at *
      generalize qS xs k = q at *
      go_wp2_with fail
      go_roundw
      case rel => exact ⟨k + 1, by omega, by go_num, by rw [HQ.out], HM.out.more _, HRES.out.more _, hbel.alloc hbel.size _⟩
      case measure => simp [intOf]; omega
    · obtain rfl : k = n := by omega
      obtain ⟨m0, m1, _, _, _⟩ := hm.two
      have z2 := hres.in_
      clear hm hres
      generalize hqq : qS xs k = q at *
      have HQQ := hide hqq
      clear hqq
      have e1 : q * D ≤ 1080000 * 108 := Int.mul_le_mul (by omega) hD1 (by omega) (by omega)
      have e0 : 0 ≤ q * D := Int.mul_nonneg (by omega) (by omega)
      have e2 : N * N ≤ 10800 * 10800 := Int.mul_le_mul hN1 hN1 hN0 (by omega)
      have e3 : 0 ≤ N * N := Int.mul_nonneg hN0 hN0
      go_wp2_with fail
      refine (lowest_any _ _ _ (by omega) (by omega) (by omega) (by omega)).mono ?_
      rintro e w1 ⟨rfl, hb1⟩
      have K := hide (HRES.out.keep hb1 z2)
      have hbel1 := hbel.trans (hb1.mono hbel.size)
      obtain ⟨k0, k1, f0, f1, _⟩ := K.out.two
      obtain ⟨q1, q2, q3⟩ := K.out.res2 (.int .i64 (nu (rt (q * D - N * N) D))) (.int .i64 (de (rt (q * D - N * N) D)))
      go_wp2_with fail
      refine bodyPost_ret (v := .agg #[.int .i64 (nu (rt (q * D - N * N) D)), .int .i64 (de (rt (q * D - N * N) D))]) (by simp [results, Try.results69, go_sem, q2, q3]) rfl ⟨by rw [HQQ.out], ?_⟩
      exact (hbel1.setCell (by simp) _).setCell (by simp) _


/-- A number of the misfit after i hours, as a number. -/
def MR (q : Rat) (i : Nat) : Prop := 0 ≤ q ∧ q ≤ ((90000 * (i : Int) : Int) : Rat) ∧ de q ≤ P9 i
theorem MR.mb {q : Rat} {i : Nat} (h : MR q i) (hi : i ≤ 12) : MB q i := by
  obtain ⟨h0, h1, h2⟩ := h
  refine MB.of h0 ?_ h2
  have e : (1080000 : Rat) = ((1080000 : Int) : Rat) := rfl
  have := Rat.intCast_le_intCast.2 (show 90000 * (i : Int) ≤ 1080000 by omega)
  rw [e]
  grind
theorem MR.add {a b : Rat} {i j : Nat} (ha : MR a i) (hb : MR b j) (hij : i + j ≤ 12) : MR (a + b) (i + j) := by
  have h := (MB.mul (ha.mb (by omega)) (hb.mb (by omega)) hij).2.2.2.2
  obtain ⟨a0, a1, a2⟩ := ha
  obtain ⟨b0, b1, b2⟩ := hb
  refine ⟨by grind, ?_, ?_⟩
  · have e : (90000 * ((i + j : Nat) : Int) : Int) = 90000 * (i : Int) + 90000 * (j : Int) := by omega
    rw [e, Rat.intCast_add]
    grind
  · have := (rt_de_bd (n := nu a * de b + nu b * de a) (d := de a * de b) (by omega)).2
    rw [rt_add] at this
    omega
theorem Mf_zero (xs : Rd) : Mf xs 0 = 0 := rfl
theorem MR_zero : MR 0 0 := ⟨Rat.le_refl, by simp, by show ((0 : Rat).den : Int) ≤ 1; decide⟩
theorem run_MR {xs : Rd} (o : okH xs = true) {r : Rn} (g : Good xs r) (hv : ∀ j, r.a ≤ j → j ≤ r.b → rr xs j = rt r.n r.d) : MR (rt ((qS xs (r.b + 1) - qS xs r.a) * r.d - r.n * r.n) r.d) (r.b + 1 - r.a) := by
  have p := g.pos o
  have h0 := run_nonneg o g hv
  have q := qS_bd o (a := r.a) (b := r.b + 1) (by have := g.le; omega) (by have := g.lt; omega)
  have hle := g.le
  have z : (0 : Rat) = rt 0 1 := (rt_one 0).symm
  refine ⟨?_, ?_, ?_⟩
  · rw [z, rt_le (by omega) (by omega)]; omega
  · rw [← rt_one, rt_le (by omega) (by omega)]
    have m1 : (qS xs (r.b + 1) - qS xs r.a) * r.d ≤ 90000 * ((r.b + 1 - r.a : Nat) : Int) * r.d := Int.mul_le_mul_of_nonneg_right q.2 (by omega)
    have m2 : 0 ≤ r.n * r.n := Int.mul_nonneg p.2.2.1 p.2.2.1
    omega
  · have h1 := (rt_de_bd (n := (qS xs (r.b + 1) - qS xs r.a) * r.d - r.n * r.n) (d := r.d) (by omega)).2
    obtain ⟨k, hk⟩ : ∃ k, r.b + 1 - r.a = k + 1 := ⟨r.b - r.a, by omega⟩
    have h2 := P9_len k
    rw [hk] at p ⊢
    omega
theorem misfit_seg {A : Option Addr} {n c : Nat} {xs : Rd} {b off : Nat} {w : World} (h : RowAt w A n c xs b off) (o : okH xs = true) (hn : n ≤ 12) {r : Rn} (g : Good xs r) (hv : ∀ j, r.a ≤ j → j ≤ r.b → rr xs j = rt r.n r.d) {m cc : Nat} (hb : r.b < n) (hm : m = r.b + 1 - r.a) (hcc : cc = c - r.a) :
    Calls Try.prog 69 #[.slice (some ⟨b, off + r.a * 2, none⟩) m cc, .agg #[.int .i64 r.n, .int .i64 r.d]] w fun e w' => e = .returned (.agg #[.int .i64 (nu (rt ((qS xs (r.b + 1) - qS xs r.a) * r.d - r.n * r.n) r.d)), .int .i64 (de (rt ((qS xs (r.b + 1) - qS xs r.a) * r.d - r.n * r.n) r.d))]) ∧ Below w.heap.size w w' := by
  subst hm hcc
  have hle := g.le
  have hq := run_nonneg o g hv
  have bd := g.bd o (by rw [h.len]; exact hn)
  have e : qS ((xs.drop r.a).take (r.b + 1 - r.a)) (r.b + 1 - r.a) = qS xs (r.b + 1) - qS xs r.a := by rw [qS_sub, show r.a + (r.b + 1 - r.a) = r.b + 1 by omega]
  have := misfit_any _ _ _ _ r.n r.d w (Row.sub h (i := r.a) (m := r.b + 1 - r.a) (by omega)) (okH_sub o r.a _) (by omega) (by omega) (by omega) (by omega) (by omega) (by rw [e]; exact hq)
  rw [e] at this
  exact this

def misOr (xs : Rd) : Int × Int := if errH xs = 0 then rq (Mf xs xs.length) else (0, 0)
set_option maxRecDepth 100000 in
set_option maxHeartbeats 1000000 in
theorem Misfit_any (A : Option Addr) (n c : Nat) (xs : Rd) (w : World) (h : Row w A n c xs) (hn2 : n ≤ 1000) :
    Calls Try.prog 28 #[.slice A n c] w (RatPost xs (misOr xs) (errH xs) w) := by
  have HR := hide h
  have hl := h.length
  by_cases he : errH xs = 0
  · obtain ⟨e1, e2, e3⟩ := errH_zero he
    have hn1 : 1 ≤ n := by omega
    have hn12 : n ≤ 12 := by omega
    obtain ⟨b, off, hr⟩ := h
    obtain rfl := hr.at_ (by omega)
    have hcap := hr.cap
    have hmax := hr.max
    have HRA := hide hr
    have hv : misOr xs = rq (Mf xs n) := by unfold misOr; rw [if_pos he, hl]
    rw [hv, he]
    have HE := hide he
    have HL := hide hl
    have O := hide e3
    clear hr he hv e1 e2 hl e3
    go_enter Try.func28, Try.ntmps28
    go_wp2_with fail
    refine (Validate_any _ _ _ xs _ (HR.out.alloc _) (by omega)).mono ?_
    rw [HE.out]
    rintro e w1 ⟨rfl, hb1⟩
    have K1 := hide ((Bk.born w 26 #[.int .i64 0, .int .i64 0]).keep hb1 (by simp))
    have hbel1 : Below w.heap.size w w1 := ((Below.refl _ _).alloc (Nat.le_refl _) _).trans (hb1.mono (by simp))
    have HROW := hide ((HR.out.below hbel1 (Nat.le_refl _)).alloc (.cells #[.int .i64 0, .int .i64 1] 26))
    have hbel2 := hbel1.alloc hbel1.size (.cells #[.int .i64 0, .int .i64 1] 26)
    clear hb1
    go_wp2_with fail
    refine (runs_any _ _ _ xs _ HROW.out O.out hn1 hn12).mono ?_
    rintro e w2 ⟨g, l, rfl, hst, hruns, hg, hb2⟩
    have hsq := sq_of_stk hst
    rw [List.reverse_reverse] at hsq
    have hrb : rowS l.reverse = bestR xs := rowS_best O.out (by rw [HL.out]; exact hst)
    rw [hrb] at hsq
    have hll : l.length ≤ n := by have := stk_len hst; simpa using this
    have K2 := hide ((K1.out.more (.cells #[.int .i64 0, .int .i64 1] 26)).keep hb2 (by have := K1.out.in_; simp; omega))
    have T2 := hide ((Bk.born w1 26 #[.int .i64 0, .int .i64 1]).keep hb2 (by simp))
    have hbel3 := hbel2.trans (hb2.mono hbel2.size)
    have HRA2 := hide (HRA.out.below hbel3 (Nat.le_refl _))
    have HSQ := hide hsq
    have HRUNS := hide hruns
    have hgl := hruns.lt
    have hw1 : w.heap.size < w1.heap.size := K1.out.in_
    have hgw : w1.heap.size < g := by simp at hg; omega
    clear hsq hruns hrb hst hb2 HROW K1 hbel1 hbel2
    generalize hlm : l.length = m at *
    have HLM := hide hlm
    clear hlm
    go_wp2_with fail
    go_loopw [18] (fun s wr => ∃ k i : Nat, k ≤ m ∧ s = .int .i64 k ∧ Sq xs (bestR xs) (l.drop k) i n ∧ MR (Mf xs i) i ∧ Bk wr w.heap.size 26 #[.int .i64 0, .int .i64 0] ∧ Bk wr w1.heap.size 26 #[.int .i64 (nu (Mf xs i)), .int .i64 (de (Mf xs i))] ∧ RowAt wr (some ⟨b, off, none⟩) n c xs b off ∧ RunsAt wr g l ∧ Below w.heap.size w wr) (fun s _ => m - (intOf s).toNat)
    case atStart => exact ⟨0, 0, Nat.zero_le _, rfl, HSQ.out, MR_zero, K2.out, T2.out, HRA2.out, HRUNS.out, hbel3⟩
    case round =>
      obtain ⟨k, i, hk, rfl, hsq, hmr, hk2, ht, hra, hruns, hbel⟩ := hrel
      have K := hide hk2
      have T := hide ht
      have RA := hide hra
      have RU := hide hruns
      have MRi := hide hmr
      have z1 := hk2.in_
      have z2 := ht.in_
      have z3 := hruns.lt
      by_cases hlt : k < m
      · have hlt' : k < l.length := by rw [HLM.out]; exact hlt
        rw [List.drop_eq_getElem_cons hlt'] at hsq
        have hgetk : l[k]? = some l[k] := List.getElem?_eq_getElem hlt'
        generalize l[k] = r at hsq hgetk
        obtain ⟨hra', hgood, hval, hsq'⟩ := hsq
        subst hra'
        obtain ⟨c0, c1, c2, c3⟩ := hruns.cell k r hgetk
        have hbd := hgood.bd O.out (by rw [HL.out]; exact hn12)
        have hle := hgood.le
        have hltb : r.b < n := by have := hgood.lt; rw [HL.out] at this; exact this
        have hmrun := run_MR O.out hgood (fun j h1 h2 => hval j h1 h2)
        have hsumM := Mf_run O.out hgood (fun j h1 h2 => hval j h1 h2)
        have HMS := hide fun W (hW : RowAt W (some ⟨b, off, none⟩) n c xs b off) => misfit_seg hW O.out hn12 hgood (fun j h1 h2 => hval j h1 h2) (m := r.b + 1 - r.a) (cc := c - r.a) hltb rfl rfl
        generalize hx : rt ((qS xs (r.b + 1) - qS xs r.a) * r.d - r.n * r.n) r.d = x at *
        have hij : r.a + (r.b + 1 - r.a) ≤ 12 := by omega
        have HSU := hide fun W => sum_any (Mf xs r.a) x r.a (r.b + 1 - r.a) W (hmr.mb (by omega)) (hmrun.mb (by omega)) hij
        have hadd : Mf xs r.a + x = Mf xs (r.b + 1) := by rw [← hsumM]; grind
        have hnext : MR (Mf xs (r.b + 1)) (r.b + 1) := by
          have := hmr.add hmrun hij
          rw [hadd, show r.a + (r.b + 1 - r.a) = r.b + 1 by omega] at this
          exact this
        rw [hadd] at HSU
        have HNX := hide hnext
        have HSQ' := hide hsq'
        clear hsq' hval hgetk hgood hmrun hsumM hadd hnext hmr hk2 ht hra hruns hx HSQ HRUNS MRi
        go_wp2_with fail
        have hbel9 := hbel.alloc hbel.size (.cells #[.int .i64 r.a, .int .i64 r.b, .int .i64 r.n, .int .i64 r.d] 79)
        have hin9 : (Below wr.heap.size wr (wr.alloc (.cells #[.int .i64 r.a, .int .i64 r.b, .int .i64 r.n, .int .i64 r.d] 79))) := (Below.refl _ _).alloc (Nat.le_refl _) _
        have K9 := hide (K.out.keep hin9 z1)
        have T9 := hide (T.out.keep hin9 z2)
        have RA9 := hide (RA.out.below hin9 (Nat.le_refl _))
        have RU9 := hide (RU.out.below hin9 z3)
        have L9 := hide (Bk.born wr 79 #[.int .i64 r.a, .int .i64 r.b, .int .i64 r.n, .int .i64 r.d])
        clear hbel hin9 K T RA RU c0 c1 c2 c3
        generalize wr.alloc (.cells #[.int .i64 r.a, .int .i64 r.b, .int .i64 r.n, .int .i64 r.d] 79) = w9 at *
        generalize wr.heap.size = g9 at *
        obtain ⟨t0, t1, t2, t3, t4⟩ := T9.out.two
        obtain ⟨l0, l1, l2, l3, _, _, _, _⟩ := L9.out.four
        have z9 := K9.out.in_
        have y9 := RU9.out.lt
        generalize hq1 : nu (Mf xs r.a) = a1 at *
        generalize hq2 : de (Mf xs r.a) = a2 at *
        generalize nu x = x1 at *
        generalize de x = x2 at *
        have HQ1 := hide hq1
        have HQ2 := hide hq2
        clear hq1 hq2
        have i1 : (r.b : Int) + 1 ≤ n := by omega
        have i2 : (r.a : Int) ≤ (r.b : Int) + 1 := by omega
        have hw5 : IntKind.i64.wrap ((r.b : Int) + 1) = (r.b : Int) + 1 := IntWalk.i64_in _ (by omega)
        -- region 8
        have hw6 : ((r.b : Int) + 1).toNat = r.b + 1 := by omega
        have i3 : (r.b : Int) + 1 ≤ c := by omega
        have hca : c ≠ r.a := by omega
        have i4 : (0 : Int) ≤ (r.a : Int) := by omega
        have i5 : (0 : Int) ≤ (r.b : Int) + 1 := by omega
        generalize hy1 : nu (Mf xs (r.b + 1)) = y1 at *
        generalize hy2 : de (Mf xs (r.b + 1)) = y2 at *
        have HY1 := hide hy1
        have HY2 := hide hy2
        clear hy1 hy2
        refine wp_region_held_drew (S := (fun w' => w'.cell? ⟨g9, 0, none⟩ = some (.int .i64 r.a) ∧ w'.cell? ⟨g9, 1, none⟩ = some (.int .i64 r.b) ∧ w'.cell? ⟨g9, 2, none⟩ = some (.int .i64 r.n) ∧ w'.cell? ⟨g9, 3, none⟩ = some (.int .i64 r.d))) (by kernel_rfl) ⟨l0, l1, l2, l3⟩ (fun hHeld => ?_)
        have hdr : Below w9.heap.size w9 w9.drew := (Below.refl w9.heap.size w9).drew
        clear t0 t1 t2 t3 t4 l0 l1 l2 l3
        have Kd := hide (K9.out.keep hdr K9.out.in_)
        have Td := hide (T9.out.keep hdr T9.out.in_)
        have Ld := hide (L9.out.keep hdr L9.out.in_)
        have RAd := hide (RA9.out.below hdr (Nat.le_refl _))
        have RUd := hide (RU9.out.below hdr RU9.out.lt)
        have hbeld := hbel9.trans (hdr.mono hbel9.size)
        obtain ⟨l0, l1, l2, l3, _, _, _, _⟩ := Ld.out.four
        obtain ⟨t0, t1, t2, t3, t4⟩ := Td.out.two
        clear K9 T9 L9 RA9 RU9 hbel9 hdr z9 y9
        generalize w9.drew = wd at *
        refine wpAnyH_take (i := 1) (oi := { dst := some 23, op := Op.move (Operand.tmp 0), type := 22, pos := "best.go:71", after := #[], guard := none }) (v := ?_) rfl (by kernel_rfl) (by kernel_rfl) (by kernel_rfl) (fun _ _ _ h => h) (Or.inl ⟨by rfl, ?_⟩) (by assumption) ?_
        rotate_left
        · intro w hSw
          (try dsimp only at hSw)
          first | (go_simp; done) | (go_simp; with_reducible rfl)
        try simp only [Act.put, List.setIfInBounds_toArray, List.set_cons_zero, List.set_cons_succ]
        refine wpAnyH_take (i := 2) (oi := { dst := some 24, op := Op.fieldAddr 79 (Operand.tmp 7) 0, type := 0, pos := "best.go:71", after := #[], guard := none }) (v := ?_) rfl (by kernel_rfl) (by kernel_rfl) (by kernel_rfl) (fun _ _ _ h => h) (Or.inl ⟨by rfl, ?_⟩) (by assumption) ?_
        rotate_left
        · intro w hSw
          (try dsimp only at hSw)
          first | (go_simp; done) | (go_simp; with_reducible rfl)
        try simp only [Act.put, List.setIfInBounds_toArray, List.set_cons_zero, List.set_cons_succ]
        refine wpAnyH_take (i := 3) (oi := { dst := some 25, op := Op.load 3 (Operand.tmp 24), type := 3, pos := "best.go:71", after := #[{ on := 2, ground := Ground.data }], guard := none }) (v := ?_) rfl (by kernel_rfl) (by kernel_rfl) (by kernel_rfl) (fun _ _ _ h => h) (Or.inl ⟨by rfl, ?_⟩) (by assumption) ?_
        rotate_left
        · intro w hSw
          (try dsimp only at hSw)
          first | (go_simp; done) | (go_simp; with_reducible rfl)
        try simp only [Act.put, List.setIfInBounds_toArray, List.set_cons_zero, List.set_cons_succ]
        refine wpAnyH_take (i := 4) (oi := { dst := some 26, op := Op.fieldAddr 79 (Operand.tmp 7) 1, type := 0, pos := "best.go:71", after := #[], guard := none }) (v := ?_) rfl (by kernel_rfl) (by kernel_rfl) (by kernel_rfl) (fun _ _ _ h => h) (Or.inl ⟨by rfl, ?_⟩) (by assumption) ?_
        rotate_left
        · intro w hSw
          (try dsimp only at hSw)
          first | (go_simp; done) | (go_simp; with_reducible rfl)
        try simp only [Act.put, List.setIfInBounds_toArray, List.set_cons_zero, List.set_cons_succ]
        refine wpAnyH_take (i := 5) (oi := { dst := some 27, op := Op.load 3 (Operand.tmp 26), type := 3, pos := "best.go:71", after := #[{ on := 4, ground := Ground.data }], guard := none }) (v := ?_) rfl (by kernel_rfl) (by kernel_rfl) (by kernel_rfl) (fun _ _ _ h => h) (Or.inl ⟨by rfl, ?_⟩) (by assumption) ?_
        rotate_left
        · intro w hSw
          (try dsimp only at hSw)
          first | (go_simp; done) | (go_simp; with_reducible rfl)
        try simp only [Act.put, List.setIfInBounds_toArray, List.set_cons_zero, List.set_cons_succ]
        refine wpAnyH_take (i := 6) (oi := { dst := some 28, op := Op.binOp BinOp.add 3 (Operand.tmp 27) (Operand.const (Value.int IntKind.i64 1)) 3, type := 3, pos := "best.go:71", after := #[{ on := 5, ground := Ground.data }], guard := none }) (v := ?_) rfl (by kernel_rfl) (by kernel_rfl) (by kernel_rfl) (fun _ _ _ h => h) (Or.inl ⟨by rfl, ?_⟩) (by assumption) ?_
        rotate_left
        · intro w hSw
          (try dsimp only at hSw)
          first | (go_simp; done) | (go_simp; with_reducible rfl)
        try simp only [Act.put, List.setIfInBounds_toArray, List.set_cons_zero, List.set_cons_succ]
        refine wpAnyH_take (i := 7) (oi := { dst := some 29, op := Op.slice 22 (Operand.tmp 23) (some (Operand.tmp 25)) (some (Operand.tmp 28)) none, type := 22, pos := "best.go:71", after := #[{ on := 1, ground := Ground.data }, { on := 3, ground := Ground.data }, { on := 6, ground := Ground.data }], guard := none }) (v := ?_) rfl (by kernel_rfl) (by kernel_rfl) (by kernel_rfl) (fun _ _ _ h => h) (Or.inl ⟨by rfl, ?_⟩) (by assumption) ?_
        rotate_left
        · intro w hSw
          (try dsimp only at hSw)
          first | (go_simp; done) | (go_simp; with_reducible rfl)
        try simp only [Act.put, List.setIfInBounds_toArray, List.set_cons_zero, List.set_cons_succ]
        refine wpAnyH_take (i := 8) (oi := { dst := some 30, op := Op.fieldAddr 79 (Operand.tmp 7) 2, type := 0, pos := "best.go:71", after := #[], guard := none }) (v := ?_) rfl (by kernel_rfl) (by kernel_rfl) (by kernel_rfl) (fun _ _ _ h => h) (Or.inl ⟨by rfl, ?_⟩) (by assumption) ?_
        rotate_left
        · intro w hSw
          (try dsimp only at hSw)
          first | (go_simp; done) | (go_simp; with_reducible rfl)
        try simp only [Act.put, List.setIfInBounds_toArray, List.set_cons_zero, List.set_cons_succ]
        refine wpAnyH_take (i := 9) (oi := { dst := some 31, op := Op.load 70 (Operand.tmp 30), type := 70, pos := "best.go:71", after := #[{ on := 8, ground := Ground.data }], guard := none }) (v := ?_) rfl (by kernel_rfl) (by kernel_rfl) (by kernel_rfl) (fun _ _ _ h => h) (Or.inl ⟨by rfl, ?_⟩) (by assumption) ?_
        rotate_left
        · intro w hSw
          (try dsimp only at hSw)
          first | (go_simp; done) | (go_simp; with_reducible rfl)
        try simp only [Act.put, List.setIfInBounds_toArray, List.set_cons_zero, List.set_cons_succ]
        refine wpAnyH_ready (rs := [0, 10]) (by kernel_rfl) (by simp) ?_
        refine AllReadyH.cons (o := { dst := some 22, op := Op.load 26 (Operand.tmp 5), type := 26, pos := "best.go:71", after := #[], guard := none }) rfl (fun K hK => ?_) (AllReadyH.cons (o := { dst := some 32, op := Op.call { callee := Callee.value (Operand.func 69), args := #[Operand.tmp 29, Operand.tmp 31], argTypes := #[22, 70] }, type := 26, pos := "best.go:71", after := #[{ on := 7, ground := Ground.data }, { on := 9, ground := Ground.data }], guard := none }) rfl (fun K hK => ?_) AllReadyH.nil)
        · rw [if_pos (by rfl)]
          go_simp
          refine hK.out _ _ ⟨l0, l1, l2, l3⟩ (fun hHeld => ?_)
          clear hK K
          try simp only [Act.put, List.setIfInBounds_toArray, List.set_cons_zero, List.set_cons_succ]
          refine wpAnyH_ready (rs := [10]) (by kernel_rfl) (by simp) ?_
          refine AllReadyH.cons (o := { dst := some 32, op := Op.call { callee := Callee.value (Operand.func 69), args := #[Operand.tmp 29, Operand.tmp 31], argTypes := #[22, 70] }, type := 26, pos := "best.go:71", after := #[{ on := 7, ground := Ground.data }, { on := 9, ground := Ground.data }], guard := none }) rfl (fun K hK => ?_) AllReadyH.nil
          rw [if_pos (by rfl)]
          go_simp
          go_at_call 69
          refine (HMS.out _ RAd.out).mono ?_
          rintro e w5 ⟨rfl, hb5⟩
          have Ke := hide (Kd.out.keep hb5 Kd.out.in_)
          have Te := hide (Td.out.keep hb5 Td.out.in_)
          have Le := hide (Ld.out.keep hb5 Ld.out.in_)
          have RAe := hide (RAd.out.below hb5 (Nat.le_refl _))
          have RUe := hide (RUd.out.below hb5 RUd.out.lt)
          have hbele := hbeld.trans (hb5.mono hbeld.size)
          obtain ⟨l0, l1, l2, l3, _, _, _, _⟩ := Le.out.four
          obtain ⟨t0, t1, t2, t3, t4⟩ := Te.out.two
          first | refine hK.out _ _ ⟨l0, l1, l2, l3⟩ (fun hHeld => ?_) | (go_wp2_with fail; refine hK.out _ _ ⟨l0, l1, l2, l3⟩ (fun hHeld => ?_))
          clear hK K
          clear Kd Td Ld RAd RUd hbeld hb5
          try simp only [Act.put, List.setIfInBounds_toArray, List.set_cons_zero, List.set_cons_succ]
          refine wpAnyH_ready (rs := [11]) (by kernel_rfl) (by simp) ?_
          refine AllReadyH.cons (o := { dst := some 33, op := Op.call { callee := Callee.value (Operand.func 68), args := #[Operand.tmp 22, Operand.tmp 32], argTypes := #[26, 26] }, type := 26, pos := "best.go:71", after := #[{ on := 0, ground := Ground.data }, { on := 10, ground := Ground.data }, { on := 10, ground := Ground.chain }], guard := none }) rfl (fun K hK => ?_) AllReadyH.nil
          rw [if_pos (by rfl)]
          go_simp
          go_at_call 68
          refine (HSU.out _).mono ?_
          rintro e w6 ⟨rfl, hb6⟩
          have Kf := hide (Ke.out.keep hb6 Ke.out.in_)
          have Tf := hide (Te.out.keep hb6 Te.out.in_)
          have Lf := hide (Le.out.keep hb6 Le.out.in_)
          have RAf := hide (RAe.out.below hb6 (Nat.le_refl _))
          have RUf := hide (RUe.out.below hb6 RUe.out.lt)
          have hbelf := hbele.trans (hb6.mono hbele.size)
          obtain ⟨l0, l1, l2, l3, _, _, _, _⟩ := Lf.out.four
          obtain ⟨t0, t1, t2, t3, t4⟩ := Tf.out.two
          first | refine hK.out _ _ ⟨l0, l1, l2, l3⟩ (fun hHeld => ?_) | (go_wp2_with fail; refine hK.out _ _ ⟨l0, l1, l2, l3⟩ (fun hHeld => ?_))
          clear hK K
          clear Ke Te Le RAe RUe hbele hb6
          try simp only [Act.put, List.setIfInBounds_toArray, List.set_cons_zero, List.set_cons_succ]
          refine wpAnyH_ready (rs := [12]) (by kernel_rfl) (by simp) ?_
          refine AllReadyH.cons (o := { dst := none, op := Op.store 26 (Operand.tmp 5) (Operand.tmp 33), type := 0, pos := "best.go:71", after := #[{ on := 11, ground := Ground.data }, { on := 11, ground := Ground.chain }, { on := 0, ground := Ground.phase }, { on := 1, ground := Ground.phase }, { on := 2, ground := Ground.phase }, { on := 3, ground := Ground.phase }, { on := 4, ground := Ground.phase }, { on := 5, ground := Ground.phase }, { on := 6, ground := Ground.phase }, { on := 7, ground := Ground.phase }, { on := 8, ground := Ground.phase }, { on := 9, ground := Ground.phase }, { on := 10, ground := Ground.phase }, { on := 11, ground := Ground.phase }], guard := none }) rfl (fun K hK => ?_) AllReadyH.nil
          rw [if_pos (by rfl)]
          go_simp
          refine hK.out _ _ ?_ (fun hHeld => ?_)
          · obtain ⟨m0, m1, m2, m3, _⟩ := ((Lf.out.apart (show g9 ≠ w1.heap.size by omega) (p := ⟨w1.heap.size, 0, none⟩) (.int .i64 y1)).apart (show g9 ≠ w1.heap.size by omega) (p := ⟨w1.heap.size, 1, none⟩) (.int .i64 y2)).four
            exact ⟨m0, m1, m2, m3⟩
          clear hK K
          try simp only [Act.put, List.setIfInBounds_toArray, List.set_cons_zero, List.set_cons_succ]
          refine wpAnyH_done (by kernel_rfl) ?_ _
          go_wp2_with fail
          go_roundw
          case rel => exact ⟨k + 1, r.b + 1, by omega, by go_num, HSQ'.out, HNX.out, (Kf.out.apart (by simp; omega) _).apart (by simp; omega) _, by rw [HY1.out, HY2.out]; exact Tf.out.set2, HRA.out.below ((hbelf.setCell (by simp; omega) _).setCell (by simp; omega) _) (Nat.le_refl _), (RUf.out.apart (show g ≠ w1.heap.size by omega) _).apart (show g ≠ w1.heap.size by omega) _, (hbelf.setCell (by simp; omega) _).setCell (by simp; omega) _⟩
          case measure => simp [intOf]; omega
        · rw [if_pos (by rfl)]
          go_simp
          go_at_call 69
          refine (HMS.out _ RAd.out).mono ?_
          rintro e w5 ⟨rfl, hb5⟩
          have Ke := hide (Kd.out.keep hb5 Kd.out.in_)
          have Te := hide (Td.out.keep hb5 Td.out.in_)
          have Le := hide (Ld.out.keep hb5 Ld.out.in_)
          have RAe := hide (RAd.out.below hb5 (Nat.le_refl _))
          have RUe := hide (RUd.out.below hb5 RUd.out.lt)
          have hbele := hbeld.trans (hb5.mono hbeld.size)
          obtain ⟨l0, l1, l2, l3, _, _, _, _⟩ := Le.out.four
          obtain ⟨t0, t1, t2, t3, t4⟩ := Te.out.two
          first | refine hK.out _ _ ⟨l0, l1, l2, l3⟩ (fun hHeld => ?_) | (go_wp2_with fail; refine hK.out _ _ ⟨l0, l1, l2, l3⟩ (fun hHeld => ?_))
          clear hK K
          clear Kd Td Ld RAd RUd hbeld hb5
          try simp only [Act.put, List.setIfInBounds_toArray, List.set_cons_zero, List.set_cons_succ]
          refine wpAnyH_ready (rs := [0]) (by kernel_rfl) (by simp) ?_
          refine AllReadyH.cons (o := { dst := some 22, op := Op.load 26 (Operand.tmp 5), type := 26, pos := "best.go:71", after := #[], guard := none }) rfl (fun K hK => ?_) AllReadyH.nil
          rw [if_pos (by rfl)]
          go_simp
          refine hK.out _ _ ⟨l0, l1, l2, l3⟩ (fun hHeld => ?_)
          clear hK K
          try simp only [Act.put, List.setIfInBounds_toArray, List.set_cons_zero, List.set_cons_succ]
          refine wpAnyH_ready (rs := [11]) (by kernel_rfl) (by simp) ?_
          refine AllReadyH.cons (o := { dst := some 33, op := Op.call { callee := Callee.value (Operand.func 68), args := #[Operand.tmp 22, Operand.tmp 32], argTypes := #[26, 26] }, type := 26, pos := "best.go:71", after := #[{ on := 0, ground := Ground.data }, { on := 10, ground := Ground.data }, { on := 10, ground := Ground.chain }], guard := none }) rfl (fun K hK => ?_) AllReadyH.nil
          rw [if_pos (by rfl)]
          go_simp
          go_at_call 68
          refine (HSU.out _).mono ?_
          rintro e w6 ⟨rfl, hb6⟩
          have Kf := hide (Ke.out.keep hb6 Ke.out.in_)
          have Tf := hide (Te.out.keep hb6 Te.out.in_)
          have Lf := hide (Le.out.keep hb6 Le.out.in_)
          have RAf := hide (RAe.out.below hb6 (Nat.le_refl _))
          have RUf := hide (RUe.out.below hb6 RUe.out.lt)
          have hbelf := hbele.trans (hb6.mono hbele.size)
          obtain ⟨l0, l1, l2, l3, _, _, _, _⟩ := Lf.out.four
          obtain ⟨t0, t1, t2, t3, t4⟩ := Tf.out.two
          first | refine hK.out _ _ ⟨l0, l1, l2, l3⟩ (fun hHeld => ?_) | (go_wp2_with fail; refine hK.out _ _ ⟨l0, l1, l2, l3⟩ (fun hHeld => ?_))
          clear hK K
          clear Ke Te Le RAe RUe hbele hb6
          try simp only [Act.put, List.setIfInBounds_toArray, List.set_cons_zero, List.set_cons_succ]
          refine wpAnyH_ready (rs := [12]) (by kernel_rfl) (by simp) ?_
          refine AllReadyH.cons (o := { dst := none, op := Op.store 26 (Operand.tmp 5) (Operand.tmp 33), type := 0, pos := "best.go:71", after := #[{ on := 11, ground := Ground.data }, { on := 11, ground := Ground.chain }, { on := 0, ground := Ground.phase }, { on := 1, ground := Ground.phase }, { on := 2, ground := Ground.phase }, { on := 3, ground := Ground.phase }, { on := 4, ground := Ground.phase }, { on := 5, ground := Ground.phase }, { on := 6, ground := Ground.phase }, { on := 7, ground := Ground.phase }, { on := 8, ground := Ground.phase }, { on := 9, ground := Ground.phase }, { on := 10, ground := Ground.phase }, { on := 11, ground := Ground.phase }], guard := none }) rfl (fun K hK => ?_) AllReadyH.nil
          rw [if_pos (by rfl)]
          go_simp
          refine hK.out _ _ ?_ (fun hHeld => ?_)
          · obtain ⟨m0, m1, m2, m3, _⟩ := ((Lf.out.apart (show g9 ≠ w1.heap.size by omega) (p := ⟨w1.heap.size, 0, none⟩) (.int .i64 y1)).apart (show g9 ≠ w1.heap.size by omega) (p := ⟨w1.heap.size, 1, none⟩) (.int .i64 y2)).four
            exact ⟨m0, m1, m2, m3⟩
          clear hK K
          try simp only [Act.put, List.setIfInBounds_toArray, List.set_cons_zero, List.set_cons_succ]
          refine wpAnyH_done (by kernel_rfl) ?_ _
          go_wp2_with fail
          go_roundw
          case rel => exact ⟨k + 1, r.b + 1, by omega, by go_num, HSQ'.out, HNX.out, (Kf.out.apart (by simp; omega) _).apart (by simp; omega) _, by rw [HY1.out, HY2.out]; exact Tf.out.set2, HRA.out.below ((hbelf.setCell (by simp; omega) _).setCell (by simp; omega) _) (Nat.le_refl _), (RUf.out.apart (show g ≠ w1.heap.size by omega) _).apart (show g ≠ w1.heap.size by omega) _, (hbelf.setCell (by simp; omega) _).setCell (by simp; omega) _⟩
          case measure => simp [intOf]; omega
      · obtain rfl : k = m := by omega
        have hd : l.drop k = [] := List.drop_eq_nil_of_le (by rw [HLM.out]; exact Nat.le_refl _)
        rw [hd] at hsq
        have hi : i = n := hsq
        subst hi
        obtain ⟨t0, t1, _, _, _⟩ := ht.two
        obtain ⟨k0, k1, f0, f1, _⟩ := hk2.two
        obtain ⟨q1, q2, q3⟩ := hk2.res2 (.int .i64 (nu (Mf xs i))) (.int .i64 (de (Mf xs i)))
        clear hsq hmr hk2 ht hra hruns
        go_wp2_with fail
        refine bodyPost_ret (v := .tuple #[.agg #[.int .i64 (nu (Mf xs i)), .int .i64 (de (Mf xs i))], .int .i64 0]) (by simp [results, Try.results28, go_sem, q2, q3]) rfl ⟨rfl, ?_⟩
        exact (hbel.setCell (by simp) _).setCell (by simp) _
  · have he' := errH_ne he
    have hv : misOr xs = (0, 0) := by unfold misOr; rw [if_neg he]
    rw [hv]
    have HE := hide he
    clear h hl hv
    go_enter Try.func28, Try.ntmps28
    go_wp2_with fail
    refine (Validate_any _ _ _ xs _ (HR.out.alloc _) (by omega)).mono ?_
    rintro e w1 ⟨rfl, hb1⟩
    have K1 := hide ((Bk.born w 26 #[.int .i64 0, .int .i64 0]).keep hb1 (by simp))
    have hbel1 : Below w.heap.size w w1 := ((Below.refl _ _).alloc (Nat.le_refl _) _).trans (hb1.mono (by simp))
    clear hb1
    obtain ⟨k0, k1, f0, f1, hsz⟩ := K1.out.two
    obtain ⟨q1, q2, q3⟩ := K1.out.res2 (.int .i64 0) (.int .i64 0)
    go_wp2_with fail
    refine bodyPost_ret (v := .tuple #[.agg #[.int .i64 0, .int .i64 0], .int .i64 (errH xs)]) (by simp [results, Try.results28, go_sem, q2, q3]) rfl ⟨rfl, ?_⟩
    exact (hbel1.setCell (by simp) _).setCell (by simp) _

end Go.Proofs.Ytlmmkaadoicogaa
