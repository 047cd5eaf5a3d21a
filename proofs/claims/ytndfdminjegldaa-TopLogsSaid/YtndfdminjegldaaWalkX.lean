/- Walks: which tables grow slowly, the program. -/
import Derived.Test.YtndfdminjegldaaWalkW
namespace Go.Proofs.Ytndfdminjegldaa
open Go.RowKit Go.Shelf
attribute [local go_sem] Oper.semAt_some

theorem gr_edits {l m : List Int} {c : Cst} {T : Tbl} {r k : Nat} (h : ∀ v, v < (eds l m r k).length → tv T r k ≤ bd c (tv T) r k ((eds l m r k).getD v 0)) : okG l m c T r k := fun e he => by
  obtain ⟨v, hv, e'⟩ := mem_at he
  have := h v hv
  rwa [e'] at this
theorem gr_fail {l m : List Int} {c : Cst} {T : Tbl} {r k v : Nat} (hr : r ≤ l.length) (hk : k ≤ m.length) (hv : v < (eds l m r k).length) (h : ¬ tv T r k ≤ bd c (tv T) r k ((eds l m r k).getD v 0)) : ¬ Grw l m c T := fun hg => h (hg.2 r k (by omega) (.inl (by omega)) _ (getD_mem hv))
/-- A row of a table that is one. -/
theorem row_at {w : World} {b off nt ct : Nat} {T : Tbl} {N M : Nat} (h : RR w (some ⟨b, off, none⟩) nt ct T) (hs : Shp N M T) (hM : 0 < M) {r : Nat} (hr : r < N) :
    b < w.heap.size ∧ r < nt ∧ ∃ b' off' c', w.cell? ⟨b, off + r, none⟩ = some (.slice (some ⟨b', off', none⟩) M c') ∧ (∀ k, k < M → w.cell? ⟨b', off' + k, none⟩ = some (.int .i64 (tv T r k))) ∧ b' < w.heap.size ∧ M ≤ c' ∧ c' ≤ 9223372036854775807 := by
  have hl := (rr_le h).2
  have hr2 : r < nt := by have := hs.1; omega
  obtain ⟨hb, A', n', c', hc, b', off', hrow⟩ := rr_at h hr2
  obtain rfl : n' = M := by have h1 := hrow.len; have h2 := (hs.2 r hr).1; omega
  have hA := hrow.at_ hM
  subst hA
  exact ⟨hb, hr2, b', off', c', hc, fun k hk => c1 hrow hk, hrow.lt hM, hrow.cap, hrow.max⟩
theorem tv_bd {T : Tbl} {N M r k : Nat} (hs : Shp N M T) (hr : r < N) (hk : k < M) : -1000 ≤ tv T r k ∧ tv T r k ≤ 1000 := (hs.2 r hr).2 k hk
set_option maxRecDepth 100000 in
set_option maxHeartbeats 16000000 in
theorem growsSlowly_any (bt ot nt ct : Nat) (T : Tbl) (A : Option Addr) (n c : Nat) (xs : List Int) (A' : Option Addr) (n' c' : Nat) (ys : List Int) (o i h : Int) (w : World) (hT : RR w (some ⟨bt, ot, none⟩) nt ct T) (hS : Shp (n + 1) (n' + 1) T) (hnt : nt = n + 1) (hct : n + 1 ≤ ct ∧ ct ≤ 9223372036854775807)
    (hx : R E1 w A n c xs) (hy : R E1 w A' n' c' ys) (hn : n ≤ 10) (hn' : n' ≤ 10) (ho : 1 ≤ o ∧ o ≤ 9) (hi : 1 ≤ i ∧ i ≤ 9) (hh : 1 ≤ h ∧ h ≤ 9) :
    Calls Try.prog 71 #[.slice (some ⟨bt, ot, none⟩) nt ct, .slice A n c, .slice A' n' c', cV o i h] w fun e w' => e = .returned (.bool (grB xs ys ⟨o, i, h⟩ T)) ∧ Below w.heap.size w w' := by
  have BX := hide ((Below.refl w.heap.size w).alloc (Nat.le_refl _) (.cells #[.int .i64 o, .int .i64 i, .int .i64 h] 24))
  have HBK := hide (Bk.born w 24 #[.int .i64 o, .int .i64 i, .int .i64 h])
  have HLX := hide hx.length
  have HLY := hide hy.length
  have HX := hide (hx.below BX.out (Nat.le_refl _))
  have HY := hide (hy.below BX.out (Nat.le_refl _))
  have HT := hide (hT.below BX.out)
  have HS := hide hS
  have hz : w.heap.size < (w.alloc (.cells #[.int .i64 o, .int .i64 i, .int .i64 h] 24)).heap.size := by simp
  subst hnt
  clear hx hy hT hS
  generalize hw0 : w.alloc (.cells #[.int .i64 o, .int .i64 i, .int .i64 h] 24) = w0 at *
  have HW0 := hide hw0
  clear hw0
  obtain ⟨hb0, _, b', off', c2, m1, m2, hb2, hc2, hc3⟩ := row_at HT.out HS.out (by omega) (r := 0) (by omega)
  have m3 := m2 0 (by omega)
  clear m2
  by_cases h00 : tv T 0 0 = 0
  · have H00 := hide h00
    rw [h00] at m3
    clear h00
    rw [Nat.add_zero] at m1 m3
    rw [← HW0.out] at m1 m3
    go_enter Try.func71, Try.ntmps71
    go_wp2_with fail
    rw [HW0.out]
    clear m1 m3 hb2 hc2 hc3
    go_loopw [22] (fun a22 wr => ∃ t : Nat, t ≤ n + 1 ∧ a22 = .int .i64 t ∧ Hid (GrTo xs ys ⟨o, i, h⟩ T (n' + 1) t 0) ∧ Hid (Below w0.heap.size w0 wr)) (fun a22 _ => n + 1 - (intOf a22).toNat)
    case atStart => exact ⟨0, Nat.zero_le _, rfl, hide gr_start, hide (Below.refl _ _)⟩
    case round =>
      obtain ⟨t, ht, rfl, HG, HB⟩ := hrel
      by_cases hlt : t < n + 1
      · have htn : (t : Int) < (n : Int) + 1 := by omega
        obtain ⟨hbw, _, br, offr, cr, m1, m2, hbr, hcr, hcr3⟩ := row_at HT.out HS.out (by omega) hlt
        have HM2 := hide m2
        have n1 := (HB.out.cell (p := ⟨bt, ot + t, none⟩) hbw).trans m1
        clear m2
        go_wp2_with fail
        clear m1 n1
        go_loopg [30] (n' + 1) (fun gg a30 wr => ∃ s : Nat, s ≤ n' + 1 ∧ a30 = .int .i64 s ∧ n' + 1 - s ≤ gg ∧ Hid (GrTo xs ys ⟨o, i, h⟩ T (n' + 1) t s) ∧ Hid (Below w0.heap.size w0 wr))
        case atStart => exact ⟨0, Nat.zero_le _, rfl, by omega, HG, HB⟩
        case round =>
          clear HG HB
          obtain ⟨s, hs, rfl, hgg, HG, HB⟩ := hrel
          by_cases hls : s < n' + 1
          · have hsn : (s : Int) < (n' : Int) + 1 := by omega
            have n2 := (HB.out.cell (p := ⟨br, offr + s, none⟩) hbr).trans (HM2.out s hls)
            go_upto_region 9 with fail
            clear n2
            go_cut [30, 41, 42, 43] from 30 to 56 (fun a30 a41 a42 a43 wx => a30 = .int .i64 s ∧ a43 = .int .i64 0 ∧ ∃ (Ae : Option Addr) (ne ce : Nat), a41 = .slice Ae ne ce ∧ a42 = .int .i64 ne ∧ Hid (Own EI wx w0.heap.size 71 Ae ne ce (eds xs ys t s)) ∧ Hid (Below w0.heap.size w0 wx))
            case first =>
              have htc : (t : Int) ≤ (c : Int) := by obtain ⟨_, _, hr⟩ := HX.out; have := hr.cap; omega
              have hsc : (s : Int) ≤ (c' : Int) := by obtain ⟨_, _, hr⟩ := HY.out; have := hr.cap; omega
              have HXT := hide ((HX.out.below HB.out.drew (Nat.le_refl _)).front (t := t) (by omega))
              have HYT := hide ((HY.out.below HB.out.drew (Nat.le_refl _)).front (t := s) (by omega))
              cases A <;> cases A'
              all_goals
                go_region_with (go_at_call 84; refine (edits_any _ t c (xs.take t) _ s c' (ys.take s) _ HXT.out HYT.out (by omega) (by omega)).mono ?_; rw [eds_take]; rintro e5 w5 ⟨Ae, ne, ce, rfl, o5, b5⟩; have O5 := hide (o5.more (Nat.le_trans HB.out.size (Nat.le_refl _))); have B5 := hide (le_call HB.out.drew b5); clear o5 b5)
                all_goals
                  go_wp2_with fail
                  go_meet
                  exact ⟨rfl, rfl, Ae, ne, ce, rfl, rfl, O5, B5⟩
            case rest =>
            obtain ⟨rfl, rfl, Ae, ne, ce, rfl, rfl, OE, HB2⟩ := hcut
            have hne := OE.out.len
            have hne3 := eds_len xs ys t s
            rw [hne] at hne3
            have HNE := hide hne
            have tb := tv_bd HS.out hlt hls
            clear HB hne
            generalize hV : tv T t s = V at *
            have HV := hide hV
            clear hV
            go_wp2_with fail
            go_loopw [43] (fun a43 wr => ∃ u : Nat, u ≤ ne ∧ a43 = .int .i64 u ∧ Hid (∀ v, v < u → V ≤ bd ⟨o, i, h⟩ (tv T) t s ((eds xs ys t s).getD v 0)) ∧ Hid (Own EI wr w0.heap.size 71 Ae ne ce (eds xs ys t s)) ∧ Hid (Below w0.heap.size w0 wr)) (fun a43 _ => ne - (intOf a43).toNat)
            case atStart => exact ⟨0, Nat.zero_le _, rfl, hide (fun v hv => by omega), OE, HB2⟩
            case round =>
              clear OE HB2
              obtain ⟨u, hu, rfl, HA, OE, HB⟩ := hrel
              by_cases hlu : u < ne
              · obtain ⟨ge, rfl, hge, hge2, hge3, hge4⟩ := OE.out.addr (by omega)
                have hul : u < (eds xs ys t s).length := by rw [HNE.out]; exact hlu
                have heo := eds_ok (l := xs) (m := ys) (r := t) (k := s) (t := u) hul
                have hce := ownE OE.out hlu
                have hbf := bf_le heo
                have HBF := hide (bd_bf ⟨o, i, h⟩ (tv T) t s heo)
                have tb2 := tv_bd HS.out (r := bfR t ((eds xs ys t s).getD u 0)) (k := bfK s ((eds xs ys t s).getD u 0)) (by omega) (by omega)
                obtain ⟨hbw2, hnt2, b2, off2, c2', p1, p2, hb2', hc2', hc3'⟩ := row_at HT.out HS.out (by omega) (r := bfR t ((eds xs ys t s).getD u 0)) (by omega)
                have HP1 := hide ((HB.out.cell (p := ⟨bt, ot + bfR t ((eds xs ys t s).getD u 0), none⟩) hbw2).trans p1)
                have HP2 := hide ((HB.out.cell (p := ⟨b2, off2 + bfK s ((eds xs ys t s).getD u 0), none⟩) hb2').trans (p2 _ (by omega)))
                have HEO := hide heo
                have HFA := hide (fun (hb : ¬ V ≤ bd ⟨o, i, h⟩ (tv T) t s ((eds xs ys t s).getD u 0)) => gr_fail (c := ⟨o, i, h⟩) (T := T) (by rw [HLX.out]; omega) (by rw [HLY.out]; omega) hul (by rw [HV.out]; exact hb))
                have HSU := hide (fun (hb : V ≤ bd ⟨o, i, h⟩ (tv T) t s ((eds xs ys t s).getD u 0)) => show ∀ v, v < u + 1 → V ≤ bd ⟨o, i, h⟩ (tv T) t s ((eds xs ys t s).getD v 0) from fun v hv => by
                  by_cases e : v = u
                  · rw [e]; exact hb
                  · exact HA.out v (by omega))
                have k0 := (HBK.out.keep HB.out hz).at_ 0
                have k1 := (HBK.out.keep HB.out hz).at_ 1
                have k2 := (HBK.out.keep HB.out hz).at_ 2
                simp at k0 k1 k2
                have hun : (u : Int) < (ne : Int) := by omega
                have hge5 : ce ≤ 9223372036854775807 := hge4
                clear heo p1 p2 hge4 HA
                generalize (eds xs ys t s).getD u 0 = e at *
                have hpr : 0 ≤ prc o i h e ∧ prc o i h e ≤ 9 := by unfold prc; split <;> (try split) <;> (try split) <;> omega
                have hBV : bd ⟨o, i, h⟩ (tv T) t s e = tv T (bfR t e) (bfK s e) + prc o i h e := HBF.out
                rw [hBV] at HFA HSU
                have HCB := hide (fun W (hb : Below w0.heap.size w0 W) q1 q2 => bound_any bt ot (n + 1) ct b2 off2 (n' + 1) c2' (tv T (bfR t e) (bfK s e)) t s e o i h W HEO.out (by omega) (by omega) q1 q2 (by omega) (by omega) (by omega) ho hi hh)
                clear hBV HBF
                generalize tv T (bfR t e) (bfK s e) = y at *
                generalize prc o i h e = p at *
                by_cases hgt : y + p < V
                · have HK := hide (grB_false (HFA.out (by omega)))
                  go_wp2_with (go_at_call 85; refine (HCB.out _ HB.out HP1.out HP2.out).mono ?_; rintro e6 w6 ⟨rfl, b6⟩; have B6 := hide (le_call HB.out b6); clear b6)
                  go_ret
                  exact ⟨ret_bool HK.out.symm, BX.out.trans (B6.out.mono (Nat.le_of_lt hz))⟩
                · have hle : V ≤ y + p := by omega
                  have HA2 := hide (HSU.out hle)
                  clear hgt
                  go_wp2_with (go_at_call 85; refine (HCB.out _ HB.out HP1.out HP2.out).mono ?_; rintro e6 w6 ⟨rfl, b6⟩; have B6 := hide (le_call HB.out b6); have O6 := hide (OE.out.below b6 (Nat.le_refl _)); clear b6)
                  go_roundw
                  case rel => exact ⟨u + 1, by omega, by go_num, HA2, O6, B6⟩
                  case measure => simp [intOf]; omega
              · obtain rfl : u = ne := by omega
                have HG2 := hide (gr_succ HG.out (gr_edits (fun v hv => by rw [HV.out]; exact HA.out v (by rw [← HNE.out]; exact hv))))
                go_wp2_with fail
                go_roundg (n' + 1 - (s + 1))
                case measure => omega
                case rel => exact ⟨s + 1, by omega, by go_num, by omega, HG2, HB⟩
          · obtain rfl : s = n' + 1 := by omega
            have HG2 := hide (gr_row HG.out)
            go_wp2_with fail
            go_roundw
            case rel => exact ⟨t + 1, by omega, by go_num, HG2, HB⟩
            case measure => simp [intOf]; omega
      · obtain rfl : t = n + 1 := by omega
        have HK := hide (grB_true.2 (show Grw xs ys ⟨o, i, h⟩ T from ⟨H00.out, by rw [HLX.out, HLY.out]; exact HG.out⟩))
        go_wp2_with fail
        go_ret
        exact ⟨ret_bool HK.out.symm, BX.out.trans (HB.out.mono (Nat.le_of_lt hz))⟩
  · have HK := hide (grB_false (l := xs) (m := ys) (c := ⟨o, i, h⟩) (T := T) (fun hg => h00 hg.1))
    have hb : (tv T 0 0 != 0) = true := by simpa using h00
    clear h00
    rw [Nat.add_zero] at m1 m3
    rw [← HW0.out] at m1 m3
    go_enter Try.func71, Try.ntmps71
    go_wp2_with fail
    go_ret
    exact ⟨ret_bool HK.out.symm, by rw [HW0.out]; exact BX.out⟩
end Go.Proofs.Ytndfdminjegldaa
