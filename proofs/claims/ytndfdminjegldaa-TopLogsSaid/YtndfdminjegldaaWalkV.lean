/- Walks: the comparison that the program returns. -/
import Derived.Test.YtndfdminjegldaaWalkU
namespace Go.Proofs.Ytndfdminjegldaa
open Go.RowKit Go.Shelf
attribute [local go_sem] Oper.semAt_some

def PairsPost (er : Int) (ok : List Pr → Prop) (w : World) (e : Ending) (w' : World) : Prop :=
  ∃ A n c ps, e = .returned (.tuple #[.slice A n c, .int .i64 er]) ∧ Own EP w' w.heap.size 62 A n c ps ∧ ok ps ∧ Below w.heap.size w w'
def bestOk (l m : List Int) (c : Cst) (ps : List Pr) : Prop := if errD l m c = 0 then errQ l m c ps = 0 ∧ cstV l m c ps = dist l m c ∧ ps.length ≤ l.length else ps = []
theorem best_ok {l m : List Int} {c : Cst} {qs : List Pr} (he : errD l m c = 0) (hp : PaTo l m c 0 0 qs) : bestOk l m c qs.reverse := by
  obtain ⟨h1, h2⟩ := pa_end hp
  have h3 : errQ l m c qs.reverse = 0 := by rw [errQ_yes he, h1]
  unfold bestOk
  rw [if_pos he, cstV_ok h3]
  have h4 := errK_zero h1
  exact ⟨h3, h2, (as_len h4.1 h4.2).1⟩
theorem best_no {l m : List Int} {c : Cst} (he : errD l m c ≠ 0) : bestOk l m c [] := by unfold bestOk; rw [if_neg he]
theorem bf0 (r k : Nat) : bfR r 0 = r - 1 ∧ bfK k 0 = k := ⟨rfl, rfl⟩
theorem bf1 (r k : Nat) : bfR r 1 = r ∧ bfK k 1 = k - 1 := ⟨rfl, rfl⟩
theorem bf2 (r k : Nat) {e : Int} (h : e = 2 ∨ e = 3) : bfR r e = r - 1 ∧ bfK k e = k - 1 := by rcases h with rfl | rfl <;> exact ⟨rfl, rfl⟩
set_option maxRecDepth 100000 in
set_option maxHeartbeats 8000000 in
theorem Best_any (A : Option Addr) (n c : Nat) (xs : List Int) (A' : Option Addr) (n' c' : Nat) (ys : List Int) (o i h : Int) (w : World) (hx : R E1 w A n c xs) (hy : R E1 w A' n' c' ys) :
    Calls Try.prog 28 #[.slice A n c, .slice A' n' c', cV o i h] w (PairsPost (errD xs ys ⟨o, i, h⟩) (bestOk xs ys ⟨o, i, h⟩) w) := by
  have BX := hide ((Below.refl w.heap.size w).alloc (Nat.le_refl _) (.cells #[.int .i64 o, .int .i64 i, .int .i64 h] 24))
  have HBK := hide (Bk.born w 24 #[.int .i64 o, .int .i64 i, .int .i64 h])
  have HX := hide (hx.below BX.out (Nat.le_refl _))
  have HY := hide (hy.below BX.out (Nat.le_refl _))
  have HLX := hide hx.length
  have HLY := hide hy.length
  have hz : w.heap.size < (w.alloc (.cells #[.int .i64 o, .int .i64 i, .int .i64 h] 24)).heap.size := by simp
  by_cases he : errD xs ys ⟨o, i, h⟩ = 0
  · have HE := hide he
    obtain ⟨h1, h2, h3⟩ := errD_ok.1 he
    have hn : n ≤ 10 := by rw [← hx.length]; exact (errL_ok.1 h1).1
    have hn' : n' ≤ 10 := by rw [← hy.length]; exact (errL_ok.1 h2).1
    obtain ⟨ho, hi, hh⟩ := h3
    simp only at ho hi hh
    have HST := hide (show PaTo xs ys ⟨o, i, h⟩ n n' [] from by rw [← HLX.out, ← HLY.out]; exact pa_start)
    clear hx hy he h1 h2
    go_enter Try.func28, Try.ntmps28
    go_wp2_with (first
      | (go_at_call 55; refine (validateAll_any A n c xs A' n' c' ys o i h _ HX.out HY.out).mono ?_; rintro e1 wv ⟨rfl, b1⟩; rw [HE.out]; have k0 := (HBK.out.keep b1 hz).at_ 0; have k1 := (HBK.out.keep b1 hz).at_ 1; have k2 := (HBK.out.keep b1 hz).at_ 2; simp at k0 k1 k2; have B1 := hide b1; clear b1)
      | (go_at_call 63; refine (distances_any A n c xs A' n' c' ys o i h _ (HX.out.below B1.out (Nat.le_refl _)) (HY.out.below B1.out (Nat.le_refl _)) hn hn' ho hi hh).mono ?_; rintro e2 w1 ⟨gO, gC, L1, rfl, t1, d1, b2⟩; have T1 := hide t1; have HD := hide d1; have B2 := hide b2; clear t1 d1 b2))
    have BW1 := hide (show Below (w.alloc (.cells #[.int .i64 o, .int .i64 i, .int .i64 h] 24)).heap.size _ w1 from B1.out.trans (B2.out.mono B1.out.size))
    have HX1 := hide (HX.out.below BW1.out (Nat.le_refl _))
    have HY1 := hide (HY.out.below BW1.out (Nat.le_refl _))
    have HBK1 := hide (HBK.out.keep BW1.out hz)
    have BW := hide (BX.out.trans (BW1.out.mono (Nat.le_of_lt hz)))
    have hz1 : w.heap.size < w1.heap.size := Nat.lt_of_lt_of_le hz BW1.out.size
    clear HX HY HBK BX B1 B2 BW1 hz k0 k1 k2
    go_loopw [10, 11, 12] (fun a10 a11 a12 wr => ∃ (r k : Nat) (Ao : Option Addr) (no co : Nat) (qs : List Pr), r ≤ n ∧ k ≤ n' ∧ a10 = .slice Ao no co ∧ a11 = .int .i64 r ∧ a12 = .int .i64 k ∧ Hid (PaTo xs ys ⟨o, i, h⟩ r k qs) ∧ Hid (Own EP wr w1.heap.size 62 Ao no co qs) ∧ Hid (Below w1.heap.size w1 wr)) (fun _ a11 a12 _ => (intOf a11 + intOf a12).toNat)
    case atStart => exact ⟨n, n', none, 0, 0, [], Nat.le_refl _, Nat.le_refl _, rfl, rfl, rfl, HST, hide (Own.nil _ _ _ _), hide (Below.refl _ _)⟩
    case round =>
      clear HST
      obtain ⟨r, k, Ao, no, co, qs, hr, hk, rfl, rfl, rfl, HPA, HO, HB⟩ := hrel
      by_cases h0 : r = 0 ∧ k = 0
      · obtain ⟨rfl, rfl⟩ := h0
        have HOK := hide (best_ok HE.out HPA.out)
        have hno : no ≤ 1000 := by
          have := pa_len HPA.out
          have hl := HO.out.len
          rcases this with e | e
          · rw [HLX.out] at e; omega
          · subst e; simp at hl; omega
        go_wp2_with (go_at_call 66; refine (ReverseP_any Ao w1.heap.size no co qs _ HO.out HB.out.size (by omega)).mono ?_; rintro e5 w5 ⟨rfl, o5, b5⟩; have O5 := hide o5; have B5 := hide (HB.out.trans b5); clear o5 b5)
        go_ret2
        exact ⟨Ao, no, co, _, by rw [HE.out]; rfl, O5.out.more (Nat.le_of_lt hz1), HOK.out, BW.out.trans (B5.out.mono (Nat.le_of_lt hz1))⟩
      · have kk0 := (HBK1.out.keep HB.out hz1).at_ 0
        have kk1 := (HBK1.out.keep HB.out hz1).at_ 1
        have kk2 := (HBK1.out.keep HB.out hz1).at_ 2
        simp at kk0 kk1 kk2
        have hlp := les_pos (l := xs) (m := ys) (c := ⟨o, i, h⟩) (r := r) (k := k) h0
        have heo := les_ok (l := xs) (m := ys) (c := ⟨o, i, h⟩) (r := r) (k := k) hlp
        have hea := les_at (l := xs) (m := ys) (c := ⟨o, i, h⟩) (r := r) (k := k) hlp
        have hem : (les xs ys ⟨o, i, h⟩ r k).getD 0 0 ∈ eds xs ys r k := (List.mem_filter.1 (getD_mem hlp)).1
        have HLP := hide hlp
        have HEO := hide heo
        have HEA := hide hea
        have HEM := hide hem
        have hno : no ≤ 1000 := by
          have := pa_len HPA.out
          have hl := HO.out.len
          rcases this with e | e
          · rw [HLX.out] at e; omega
          · subst e; simp at hl; omega
        clear hlp heo hea hem
        have HLE := hide (lastEdits_any gO gC _ L1 A n c xs A' n' c' ys o i h r k wr (T1.out.below HB.out (Nat.le_refl _)) HD.out (HX1.out.below HB.out (Nat.le_refl _)) (HY1.out.below HB.out (Nat.le_refl _)) hn hn' ho hi hh hr hk)
        have HGE := hide (show (les xs ys ⟨o, i, h⟩ r k).getD 0 0 = (les xs ys ⟨o, i, h⟩ r k).getD 0 0 from rfl)
        obtain ⟨e, hee⟩ : ∃ e, (les xs ys ⟨o, i, h⟩ r k).getD 0 0 = e := ⟨_, rfl⟩
        have HEE := hide hee
        rw [hee] at HEO HEA
        replace HEM := hide (show e ∈ eds xs ys r k from by have := HEM.out; rw [hee] at this; exact this)
        clear hee HGE
        have HW1 := hide (before_any r k e)
        have hsz := HB.out.size
        have hg1 : r = 0 ∨ 0 < r := by omega
        rcases hg1 with hr0 | hr0
        · have hk0 : 0 < k := by omega
          subst hr0
          have hkb : (0 : Int) < (k : Int) := by omega
          rcases HEO.out with ⟨rfl, he1⟩ | ⟨rfl, he1⟩ | ⟨_, he1, _⟩
          · omega
          · have HPA2 := hide (pa_inn HPA.out he1 HEA.out)
            have f1 := asPQ
            go_wp2_with (first
              | (go_at_call 64; refine HLE.out.mono ?_; rintro e4 w4 ⟨Ae, ne, ce, rfl, o4, b4⟩; have hne : 0 < ne := (by have := HLP.out; have := o4.len; omega); obtain ⟨ge, rfl, hge, hge2, hge3, hge4⟩ := o4.addr (by omega); have hce := ownE o4 hne; rw [HEE.out] at hce; have hge5 : ce ≤ 9223372036854775807 := hge4; have O4 := hide (HO.out.below b4 (Nat.le_refl _)); have B4 := hide (le_call HB.out b4); have hnn : (0 : Int) < (ne : Int) := (by omega); clear o4 b4 hge4)
              | (go_at_call 65; refine (HW1.out _ HEO.out (by omega) (by omega)).mono ?_; rw [(bf1 0 k).1, (bf1 0 k).2]; rintro e5 w5 ⟨rfl, rfl⟩; rw [ival1]))
            go_roundw
            case rel => exact ⟨0, k - 1, Ao, no, co, qs, hr, by omega, rfl, rfl, rfl, HPA2, hide (O4.out.alloc _), hide (B4.out.alloc B4.out.size _)⟩
            case measure => simp [intOf]; omega
          · omega
        · have hrb : (0 : Int) < (r : Int) := by omega
          rcases HEO.out with ⟨rfl, he1⟩ | ⟨rfl, he1⟩ | ⟨he23, he1, he2⟩
          · have HPA2 := hide (pa_out HPA.out he1 HEA.out)
            have f1 := asLQ
            go_wp2_with (first
              | (go_at_call 64; refine HLE.out.mono ?_; rintro e4 w4 ⟨Ae, ne, ce, rfl, o4, b4⟩; have hne : 0 < ne := (by have := HLP.out; have := o4.len; omega); obtain ⟨ge, rfl, hge, hge2, hge3, hge4⟩ := o4.addr (by omega); have hce := ownE o4 hne; rw [HEE.out] at hce; have hge5 : ce ≤ 9223372036854775807 := hge4; have O4 := hide (HO.out.below b4 (Nat.le_refl _)); have B4 := hide (le_call HB.out b4); have hnn : (0 : Int) < (ne : Int) := (by omega); clear o4 b4 hge4)
              | (go_at_call 65; refine (HW1.out _ HEO.out (by omega) (by omega)).mono ?_; rw [(bf0 r k).1, (bf0 r k).2]; rintro e5 w5 ⟨rfl, rfl⟩; rw [ival0]))
            go_roundw
            case rel => exact ⟨r - 1, k, Ao, no, co, qs, by omega, hk, rfl, rfl, rfl, HPA2, hide (O4.out.alloc _), hide (B4.out.alloc B4.out.size _)⟩
            case measure => simp [intOf]; omega
          · have HPA2 := hide (pa_inn HPA.out he1 HEA.out)
            have f1 := asPQ
            go_wp2_with (first
              | (go_at_call 64; refine HLE.out.mono ?_; rintro e4 w4 ⟨Ae, ne, ce, rfl, o4, b4⟩; have hne : 0 < ne := (by have := HLP.out; have := o4.len; omega); obtain ⟨ge, rfl, hge, hge2, hge3, hge4⟩ := o4.addr (by omega); have hce := ownE o4 hne; rw [HEE.out] at hce; have hge5 : ce ≤ 9223372036854775807 := hge4; have O4 := hide (HO.out.below b4 (Nat.le_refl _)); have B4 := hide (le_call HB.out b4); have hnn : (0 : Int) < (ne : Int) := (by omega); clear o4 b4 hge4)
              | (go_at_call 65; refine (HW1.out _ HEO.out (by omega) (by omega)).mono ?_; rw [(bf1 r k).1, (bf1 r k).2]; rintro e5 w5 ⟨rfl, rfl⟩; rw [ival1]))
            go_roundw
            case rel => exact ⟨r, k - 1, Ao, no, co, qs, hr, by omega, rfl, rfl, rfl, HPA2, hide (O4.out.alloc _), hide (B4.out.alloc B4.out.size _)⟩
            case measure => simp [intOf]; omega
          · have HPA2 := hide (pa_pair HPA.out (by rw [HLX.out]; exact hr) (by rw [HLY.out]; exact hk) HEM.out he23 HEA.out)
            have f1 := asQQ
            rcases he23 with rfl | rfl
            · go_wp2_with (first
                | (go_at_call 64; refine HLE.out.mono ?_; rintro e4 w4 ⟨Ae, ne, ce, rfl, o4, b4⟩; have hne : 0 < ne := (by have := HLP.out; have := o4.len; omega); obtain ⟨ge, rfl, hge, hge2, hge3, hge4⟩ := o4.addr (by omega); have hce := ownE o4 hne; rw [HEE.out] at hce; have hge5 : ce ≤ 9223372036854775807 := hge4; have O4 := hide (HO.out.below b4 (Nat.le_refl _)); have B4 := hide (le_call HB.out b4); have hnn : (0 : Int) < (ne : Int) := (by omega); clear o4 b4 hge4)
                | (go_at_call 65; refine (HW1.out _ HEO.out (by omega) (by omega)).mono ?_; rw [(bf2 r k (e := 2) (by decide)).1, (bf2 r k (e := 2) (by decide)).2]; rintro e5 w5 ⟨rfl, rfl⟩; rw [ival2])
                | (at_builtin; refine wpList_app1 (E := EP) _ (.agg #[.int .i64 0, .int .i64 0]) 16 rfl (.tmp 59) (.tmp 63) 27 62 rfl Try.underlying27 info_pair rfl (by decide) (by omega) w1.heap.size no co Ao qs (((r - 1 : Nat) : Int), ((k - 1 : Nat) : Int)) _ rfl rfl (by show Value.slice (some ⟨w4.heap.size + 1, 0, none⟩) 1 1 = _; rw [World.size_alloc]) (O4.out.alloc _) (by omega) (by have := B4.out.size; simp; omega) ?_; intro A7 q7 w7 o7 b7 _; have O7 := hide o7; have B7 := hide ((B4.out.alloc B4.out.size (.cells #[.bool false] 77)).trans b7); clear o7 b7))
              go_roundw
              case rel => exact ⟨r - 1, k - 1, A7, no + 1, q7, _, by omega, by omega, rfl, rfl, rfl, HPA2, O7, B7⟩
              case measure => simp [intOf]; omega
            · go_wp2_with (first
                | (go_at_call 64; refine HLE.out.mono ?_; rintro e4 w4 ⟨Ae, ne, ce, rfl, o4, b4⟩; have hne : 0 < ne := (by have := HLP.out; have := o4.len; omega); obtain ⟨ge, rfl, hge, hge2, hge3, hge4⟩ := o4.addr (by omega); have hce := ownE o4 hne; rw [HEE.out] at hce; have hge5 : ce ≤ 9223372036854775807 := hge4; have O4 := hide (HO.out.below b4 (Nat.le_refl _)); have B4 := hide (le_call HB.out b4); have hnn : (0 : Int) < (ne : Int) := (by omega); clear o4 b4 hge4)
                | (go_at_call 65; refine (HW1.out _ HEO.out (by omega) (by omega)).mono ?_; rw [(bf2 r k (e := 3) (by decide)).1, (bf2 r k (e := 3) (by decide)).2]; rintro e5 w5 ⟨rfl, rfl⟩; rw [ival3])
                | (at_builtin; refine wpList_app1 (E := EP) _ (.agg #[.int .i64 0, .int .i64 0]) 16 rfl (.tmp 59) (.tmp 63) 27 62 rfl Try.underlying27 info_pair rfl (by decide) (by omega) w1.heap.size no co Ao qs (((r - 1 : Nat) : Int), ((k - 1 : Nat) : Int)) _ rfl rfl (by show Value.slice (some ⟨w4.heap.size + 1, 0, none⟩) 1 1 = _; rw [World.size_alloc]) (O4.out.alloc _) (by omega) (by have := B4.out.size; simp; omega) ?_; intro A7 q7 w7 o7 b7 _; have O7 := hide o7; have B7 := hide ((B4.out.alloc B4.out.size (.cells #[.bool true] 77)).trans b7); clear o7 b7))
              go_roundw
              case rel => exact ⟨r - 1, k - 1, A7, no + 1, q7, _, by omega, by omega, rfl, rfl, rfl, HPA2, O7, B7⟩
              case measure => simp [intOf]; omega
  · have HOK := hide (best_no he)
    have hne : (errD xs ys ⟨o, i, h⟩ != 0) = true := by simpa using he
    clear hx hy he
    go_enter Try.func28, Try.ntmps28
    go_wp2_with (go_at_call 55; refine (validateAll_any A n c xs A' n' c' ys o i h _ HX.out HY.out).mono ?_; rintro e1 w1 ⟨rfl, b1⟩; have B1 := hide b1; clear b1)
    go_ret2
    exact ⟨none, 0, 0, [], rfl, Own.nil _ _ _ _, HOK.out, le_call BX.out B1.out⟩
end Go.Proofs.Ytndfdminjegldaa
