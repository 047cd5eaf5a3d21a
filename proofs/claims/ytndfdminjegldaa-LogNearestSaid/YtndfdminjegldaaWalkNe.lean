/- Walks: the nearest log, on both sides. -/
import Derived.Test.YtndfdminjegldaaMW
import Derived.Test.YtndfdminjegldaaWalkX
import Derived.Test.YtndfdminjegldaaWalkP
import Derived.Test.YtndfdminjegldaaWalkG
namespace Go.Proofs.Ytndfdminjegldaa
open Go.RowKit Go.Shelf
attribute [local go_sem] Oper.semAt_some

def VaTo (T : Tbl) (t : Nat) : Prop := ∀ k, k < t → errL (T.getD k []) = 0
theorem va_succ {T : Tbl} {t : Nat} (h : VaTo T t) (h1 : errL (T.getD t []) = 0) : VaTo T (t + 1) := fun k hk => by
  by_cases e : k = t
  · subst e; exact h1
  · exact h k (by omega)
theorem va_len {T : Tbl} {t k : Nat} (h : VaTo T t) (hk : k < t) : (T.getD k []).length ≤ 10 := (errL_ok.1 (h k hk)).1
theorem dne_bd {T : Tbl} {l : List Int} {c : Cst} {t k : Nat} (h : VaTo T t) (hk : k < t) (hl : errL l = 0) (hc : c.ok) : 0 ≤ dNe T l c k ∧ dNe T l c k ≤ 180 := dist_bd (errD_ok.2 ⟨h k hk, hl, hc⟩)
set_option maxRecDepth 100000 in
set_option maxHeartbeats 8000000 in
theorem Nearest_any (At : Option Addr) (nt ct : Nat) (T : Tbl) (A : Option Addr) (n c : Nat) (xs : List Int) (o i h : Int) (w : World) (hT : RR w At nt ct T) (hx : R E1 w A n c xs) :
    Calls Try.prog 43 #[.slice At nt ct, .slice A n c, cV o i h] w fun e w' => e = .returned (.tuple #[.int .i64 (nearV T xs ⟨o, i, h⟩), .int .i64 (errNe T xs ⟨o, i, h⟩)]) ∧ Below w.heap.size w w' := by
  have BX := hide ((Below.refl w.heap.size w).alloc (Nat.le_refl _) (.cells #[.int .i64 o, .int .i64 i, .int .i64 h] 24))
  have HBK := hide (Bk.born w 24 #[.int .i64 o, .int .i64 i, .int .i64 h])
  have HX := hide (hx.below BX.out (Nat.le_refl _))
  have HT := hide (hT.below BX.out)
  have HLX := hide hx.length
  have HLT := hide (rr_le hT).2
  have hlt0 := (rr_le hT).1
  have hz : w.heap.size < (w.alloc (.cells #[.int .i64 o, .int .i64 i, .int .i64 h] 24)).heap.size := by simp
  by_cases hlen : 1 ≤ nt ∧ nt ≤ 6
  · obtain ⟨bt, ot, rfl, hct, hmt⟩ := rr_some hT (by omega)
    have HLEN := hide (show 1 ≤ T.length ∧ T.length ≤ 6 from by rw [HLT.out]; exact hlen)
    have hl1 : (1 : Int) ≤ (nt : Int) := by omega
    have hl6 : (nt : Int) ≤ 6 := by omega
    clear hT hx
    go_enter Try.func43, Try.ntmps43
    go_wp2_with fail
    generalize hw0 : w.alloc (.cells #[.int .i64 o, .int .i64 i, .int .i64 h] 24) = w0 at *
    clear hw0
    go_loopw [28] (fun a28 wr => ∃ t : Nat, t ≤ nt ∧ a28 = .int .i64 t ∧ Hid (VaTo T t) ∧ w0 = wr) (fun a28 _ => nt - (intOf a28).toNat)
    case atStart => exact ⟨0, Nat.zero_le _, rfl, hide (fun k hk => by omega), rfl⟩
    case round =>
      obtain ⟨t, ht, rfl, HV, rfl⟩ := hrel
      by_cases hlt : t < nt
      · have htn : (t : Int) < (nt : Int) := by omega
        obtain ⟨hbt, Ar, nr, cr, m1, r1⟩ := rr_at HT.out hlt
        have R1 := hide r1
        have HVA := hide (fun (hq : errL (T.getD t []) = 0) => va_succ HV.out hq)
        have HSA := hide (fun (hq : errL (T.getD t []) ≠ 0) => errNs_at T t (by rw [HLT.out]; exact hlt) HV.out hq)
        clear r1
        generalize T.getD t [] = Y at *
        by_cases he : errL Y = 0
        · have HE := hide he
          have HV2 := hide (HVA.out he)
          clear he HVA HSA
          go_wp2_with (go_at_call 22; refine (Validate_any Ar nr cr _ _ R1.out).mono ?_; rintro e1 w1 ⟨rfl, rfl⟩; rw [HE.out])
          go_roundw
          case rel => exact ⟨t + 1, by omega, by go_num, HV2, by trivial⟩
          case measure => simp [intOf]; omega
        · have HS := hide (HSA.out he)
          have HEN := hide (errNe_s (l := xs) (c := ⟨o, i, h⟩) HLEN.out (by rw [HS.out]; exact he))
          have HNV := hide (show nearV T xs ⟨o, i, h⟩ = 0 from nearV_no (by rw [HEN.out, HS.out]; exact he))
          have hne : (errL Y != 0) = true := by simpa using he
          clear he HVA HSA
          go_wp2_with (go_at_call 22; refine (Validate_any Ar nr cr _ _ R1.out).mono ?_; rintro e1 w1 ⟨rfl, rfl⟩)
          go_ret2
          exact ⟨by rw [HNV.out, HEN.out, HS.out]; rfl, BX.out⟩
      · obtain rfl : t = nt := by omega
        obtain ⟨ck0, ck1, ck2⟩ : w0.cell? ⟨w.heap.size, 0, none⟩ = some (.int .i64 o) ∧ w0.cell? ⟨w.heap.size, 1, none⟩ = some (.int .i64 i) ∧ w0.cell? ⟨w.heap.size, 2, none⟩ = some (.int .i64 h) := ⟨HBK.out.at_ 0, HBK.out.at_ 1, HBK.out.at_ 2⟩
        have HNS := hide (errNs_ok T (fun k hk => HV.out k (by rw [HLT.out] at hk; exact hk)))
        by_cases hel : errL xs = 0
        · have HEL := hide hel
          have HEN0 := hide (errNe_c (l := xs) (c := ⟨o, i, h⟩) HLEN.out HNS.out hel)
          by_cases hec : errC ⟨o, i, h⟩ = 0
          · have HEC := hide hec
            have HEN := hide (show errNe T xs ⟨o, i, h⟩ = 0 from by rw [HEN0.out]; exact hec)
            have HNV := hide (nearV_ok HEN.out)
            rw [HLT.out] at HNV
            have hck := errC_ok.1 hec
            have HCK := hide hck
            obtain ⟨ho, hi, hh⟩ := hck
            simp only at ho hi hh
            have hn10 : n ≤ 10 := by rw [← HLX.out]; exact (errL_ok.1 hel).1
            obtain ⟨hbt, Ar, nr, cr, m1, r1⟩ := rr_at HT.out (r := 0) (by omega)
            rw [Nat.add_zero] at m1
            have hr10 := va_len HV.out (k := 0) (by omega)
            rw [r1.length] at hr10
            have R1 := hide r1
            clear r1 hel hec
            go_upto_region 16 with (first
              | (go_at_call 22; refine (Validate_any A n c xs _ HX.out).mono ?_; rintro e1 w1 ⟨rfl, rfl⟩; rw [HEL.out])
              | (go_at_call 24; refine (ValidateCosts_any o i h _).mono ?_; rintro e1 w2 ⟨rfl, b2⟩; rw [HEC.out]; have B2 := hide b2; clear b2))
            have HBK2 := hide (HBK.out.keep B2.out hz)
            have hz2 : w.heap.size < w2.heap.size := Nat.lt_of_lt_of_le hz B2.out.size
            have n1 : w2.cell? ⟨bt, ot, none⟩ = some (.slice Ar nr cr) := (B2.out.cell (p := ⟨bt, ot, none⟩) hbt).trans m1
            have hbt2 : bt < w2.heap.size := Nat.lt_of_lt_of_le hbt B2.out.size
            obtain ⟨kk0, kk1, kk2⟩ : w2.cell? ⟨w.heap.size, 0, none⟩ = some (.int .i64 o) ∧ w2.cell? ⟨w.heap.size, 1, none⟩ = some (.int .i64 i) ∧ w2.cell? ⟨w.heap.size, 2, none⟩ = some (.int .i64 h) := ⟨HBK2.out.at_ 0, HBK2.out.at_ 1, HBK2.out.at_ 2⟩
            have HDI := hide (distance_any Ar nr cr _ A n c xs o i h w2.drew ((R1.out.below B2.out (Nat.le_refl _)).drewN 1) ((HX.out.below B2.out (Nat.le_refl _)).drewN 1) hr10 hn10 ho hi hh)
            have h01 : 0 < t := by omega
            have HS0 := hide (show dist (T.getD 0 []) xs ⟨o, i, h⟩ = dNe T xs ⟨o, i, h⟩ (nb (dNe T xs ⟨o, i, h⟩) 0) from rfl)
            clear m1
            generalize dist (T.getD 0 []) xs ⟨o, i, h⟩ = v0 at *
            go_region_held3 (fun w' => w'.cell? ⟨bt, ot, none⟩ = some (.slice Ar nr cr) ∧ w'.cell? ⟨w.heap.size, 0, none⟩ = some (.int .i64 o) ∧ w'.cell? ⟨w.heap.size, 1, none⟩ = some (.int .i64 i) ∧ w'.cell? ⟨w.heap.size, 2, none⟩ = some (.int .i64 h))
              (first
                | go_keep
                | (go_split_ands
                   refine ⟨?_, ?_, ?_, ?_⟩ <;> (rw [hb8.cell (by simp; omega)]; assumption)))
              (first
                | (go_at_call 61; refine HDI.out.mono ?_; rintro e8 w8 ⟨rfl, hb8⟩))
            all_goals
              have B8 := hide (B2.out.trans ((below_undrew hb8).mono B2.out.size))
              clear n1 kk0 kk1 kk2 hb8
              go_wp2_with fail
              go_loopw [13, 14, 56] (fun a13 a14 a56 wr => ∃ (t' : Nat) (v : Int), t' ≤ t ∧ a13 = .int .i64 (nb (dNe T xs ⟨o, i, h⟩) t' : Nat) ∧ a14 = .int .i64 v ∧ a56 = .int .i64 t' ∧ Hid (v = dNe T xs ⟨o, i, h⟩ (nb (dNe T xs ⟨o, i, h⟩) t')) ∧ Hid (Below w0.heap.size w0 wr)) (fun _ _ a56 _ => t - (intOf a56).toNat)
              case atStart => exact ⟨0, v0, Nat.zero_le _, rfl, rfl, rfl, HS0, B8⟩
              case round =>
                clear HS0 B8
                obtain ⟨s, v, hs, rfl, rfl, rfl, HVE, HB⟩ := hrel
                by_cases hls : s < t
                · have hsn : (s : Int) < (t : Int) := by omega
                  obtain ⟨hbs, As, ns, cs, m1, r1⟩ := rr_at (HT.out.below HB.out) hls
                  have hs10 := va_len HV.out (k := s) hls
                  rw [r1.length] at hs10
                  have kk0 := (HBK.out.keep HB.out hz).at_ 0
                  have kk1 := (HBK.out.keep HB.out hz).at_ 1
                  have kk2 := (HBK.out.keep HB.out hz).at_ 2
                  simp at kk0 kk1 kk2
                  have HDS := hide (distance_any As ns cs _ A n c xs o i h wr r1 (HX.out.below HB.out (Nat.le_refl _)) hs10 hn10 ho hi hh)
                  have HNY := hide (fun (hq : dNe T xs ⟨o, i, h⟩ s < dNe T xs ⟨o, i, h⟩ (nb (dNe T xs ⟨o, i, h⟩) s)) => nb_yes hq)
                  have HNN := hide (fun (hq : ¬ dNe T xs ⟨o, i, h⟩ s < dNe T xs ⟨o, i, h⟩ (nb (dNe T xs ⟨o, i, h⟩) s)) => nb_no hq)
                  have HSD := hide (show dist (T.getD s []) xs ⟨o, i, h⟩ = dNe T xs ⟨o, i, h⟩ s from rfl)
                  rw [← HVE.out] at HNY HNN
                  rw [HSD.out] at HDS
                  clear r1
                  by_cases hlt2 : dNe T xs ⟨o, i, h⟩ s < v
                  · have HN := hide (HNY.out hlt2)
                    have HVE2 := hide (show dNe T xs ⟨o, i, h⟩ s = dNe T xs ⟨o, i, h⟩ (nb (dNe T xs ⟨o, i, h⟩) (s + 1)) from by rw [HN.out])
                    clear HNY HNN HVE HSD
                    generalize dNe T xs ⟨o, i, h⟩ s = u at *
                    go_wp2_with (go_at_call 61; refine HDS.out.mono ?_; rintro e9 w9 ⟨rfl, b9⟩; have B9 := hide (le_call HB.out b9); clear b9)
                    go_roundw
                    case rel => exact ⟨s + 1, u, by omega, by rw [HN.out], rfl, by go_num, HVE2, B9⟩
                    case measure => simp [intOf]; omega
                  · have hle2 : v ≤ dNe T xs ⟨o, i, h⟩ s := by omega
                    have HN := hide (HNN.out hlt2)
                    have HVE2 := hide (show v = dNe T xs ⟨o, i, h⟩ (nb (dNe T xs ⟨o, i, h⟩) (s + 1)) from by rw [HN.out]; exact HVE.out)
                    clear HNY HNN HVE HSD hlt2
                    generalize dNe T xs ⟨o, i, h⟩ s = u at *
                    go_wp2_with (go_at_call 61; refine HDS.out.mono ?_; rintro e9 w9 ⟨rfl, b9⟩; have B9 := hide (le_call HB.out b9); clear b9)
                    go_roundw
                    case rel => exact ⟨s + 1, v, by omega, by rw [HN.out], rfl, by go_num, HVE2, B9⟩
                    case measure => simp [intOf]; omega
                · obtain rfl : s = t := by omega
                  go_wp2_with fail
                  go_ret2
                  exact ⟨by rw [HNV.out, HEN.out]; rfl, BX.out.trans (HB.out.mono (Nat.le_of_lt hz))⟩
          · have HEN := hide (show errNe T xs ⟨o, i, h⟩ = errC ⟨o, i, h⟩ from HEN0.out)
            have HNV := hide (show nearV T xs ⟨o, i, h⟩ = 0 from nearV_no (by rw [HEN.out]; exact hec))
            have hne : (errC ⟨o, i, h⟩ != 0) = true := by simpa using hec
            clear hel hec
            go_wp2_with (first
              | (go_at_call 22; refine (Validate_any A n c xs _ HX.out).mono ?_; rintro e1 w1 ⟨rfl, rfl⟩; rw [HEL.out])
              | (go_at_call 24; refine (ValidateCosts_any o i h _).mono ?_; rintro e1 w2 ⟨rfl, b2⟩; have B2 := hide b2; clear b2))
            go_ret2
            exact ⟨by rw [HNV.out, HEN.out]; rfl, BX.out.trans (B2.out.mono (Nat.le_of_lt hz))⟩
        · have HEN := hide (errNe_l (l := xs) (c := ⟨o, i, h⟩) HLEN.out HNS.out hel)
          have HNV := hide (show nearV T xs ⟨o, i, h⟩ = 0 from nearV_no (by rw [HEN.out]; exact hel))
          have hne : (errL xs != 0) = true := by simpa using hel
          clear hel
          go_wp2_with (go_at_call 22; refine (Validate_any A n c xs _ HX.out).mono ?_; rintro e1 w1 ⟨rfl, rfl⟩)
          go_ret2
          exact ⟨by rw [HNV.out, HEN.out]; rfl, BX.out⟩
  · have HEN := hide (errNe_len (T := T) (l := xs) (c := ⟨o, i, h⟩) (by rw [HLT.out]; exact hlen))
    have HNV := hide (show nearV T xs ⟨o, i, h⟩ = 0 from nearV_no (by rw [HEN.out]; decide))
    clear hT hx
    by_cases h1 : 1 ≤ nt
    · have h1' : (1 : Int) ≤ (nt : Int) := by omega
      have h6' : (6 : Int) < (nt : Int) := by omega
      clear hlen
      go_enter Try.func43, Try.ntmps43
      go_wp2_with fail
      go_ret2
      exact ⟨by rw [HNV.out, HEN.out]; rfl, BX.out⟩
    · obtain rfl : nt = 0 := by omega
      clear hlen
      go_enter Try.func43, Try.ntmps43
      go_wp2_with fail
      go_ret2
      exact ⟨by rw [HNV.out, HEN.out]; rfl, BX.out⟩
end Go.Proofs.Ytndfdminjegldaa
