/- Walks: the nearest log, the document. -/
import Derived.Test.YtndfdminjegldaaWalkNe
namespace Go.Proofs.Ytndfdminjegldaa
open Go.RowKit Go.Shelf
attribute [local go_sem] Oper.semAt_some

set_option maxRecDepth 100000 in
set_option maxHeartbeats 8000000 in
theorem rNearest_any (At : Option Addr) (nt ct : Nat) (T : Tbl) (A : Option Addr) (n c : Nat) (xs : List Int) (o i h : Int) (w : World) (hT : RR w At nt ct T) (hx : R E1 w A n c xs) :
    Calls Try.prog 44 #[.slice At nt ct, .slice A n c, cV o i h] w fun e w' => e = .returned (.tuple #[.int .i64 (nearV T xs ⟨o, i, h⟩), .int .i64 (errNe T xs ⟨o, i, h⟩)]) ∧ Below w.heap.size w w' := by
  have BX := hide ((Below.refl w.heap.size w).alloc (Nat.le_refl _) (.cells #[.int .i64 o, .int .i64 i, .int .i64 h] 24))
  have HBK := hide (Bk.born w 24 #[.int .i64 o, .int .i64 i, .int .i64 h])
  have HX := hide (hx.below BX.out (Nat.le_refl _))
  have HT := hide (hT.below BX.out)
  have HLX := hide hx.length
  have HLT := hide (rr_le hT).2
  have hlt0 := (rr_le hT).1
  have hz : w.heap.size < (w.alloc (.cells #[.int .i64 o, .int .i64 i, .int .i64 h] 24)).heap.size := by simp
  by_cases hlen : 1 ≤ nt ∧ nt ≤ 6
  · obtain ⟨bt, ot, rfl, hct, hmt⟩ := rr_some hT (by omega)
    have HLEN := hide (show 1 ≤ T.length ∧ T.length ≤ 6 from by rw [HLT.out]; exact hlen)
    have HWI := hide (withinB_true (n := (nt : Int)) (lo := 1) (hi := 6) (by omega) (by omega))
    have hnt1 : 1 ≤ nt := hlen.1
    clear hT hx hlen
    go_enter Try.func44, Try.ntmps44
    go_wp2_with (go_at_call 58; refine (within_any (nt : Int) 1 6 _).mono ?_; rintro e0 w0' ⟨rfl, rfl⟩; rw [HWI.out])
    generalize hw0 : w.alloc (.cells #[.int .i64 o, .int .i64 i, .int .i64 h] 24) = w0 at *
    clear hw0
    go_loopw [8] (fun a8 wr => ∃ t : Nat, t ≤ nt ∧ a8 = .int .i64 t ∧ Hid (VaTo T t) ∧ w0 = wr) (fun a8 _ => nt - (intOf a8).toNat)
    case atStart => exact ⟨0, Nat.zero_le _, rfl, hide (fun k hk => by omega), rfl⟩
    case round =>
      obtain ⟨t, ht, rfl, HV, rfl⟩ := hrel
      by_cases hlt : t < nt
      · have htn : (t : Int) < (nt : Int) := by omega
        obtain ⟨hbt, Ar, nr, cr, m1, r1⟩ := rr_at HT.out hlt
        have R1 := hide r1
        have HVA := hide (fun (hq : errL (T.getD t []) = 0) => va_succ HV.out hq)
        have HSA := hide (fun (hq : errL (T.getD t []) ≠ 0) => errNs_at T t (by rw [HLT.out]; exact hlt) HV.out hq)
        clear r1
        generalize T.getD t [] = Y at *
        by_cases he : errL Y = 0
        · have HE := hide he
          have HV2 := hide (HVA.out he)
          clear he HVA HSA
          go_wp2_with (go_at_call 23; refine (rValidate_any Ar nr cr _ _ R1.out).mono ?_; rintro e1 w1 ⟨rfl, rfl⟩; rw [HE.out])
          go_roundw
          case rel => exact ⟨t + 1, by omega, by go_num, HV2, by trivial⟩
          case measure => simp [intOf]; omega
        · have HS := hide (HSA.out he)
          have HEN := hide (errNe_s (l := xs) (c := ⟨o, i, h⟩) HLEN.out (by rw [HS.out]; exact he))
          have HNV := hide (show nearV T xs ⟨o, i, h⟩ = 0 from nearV_no (by rw [HEN.out, HS.out]; exact he))
          have hne : (errL Y != 0) = true := by simpa using he
          clear he HVA HSA
          go_wp2_with (go_at_call 23; refine (rValidate_any Ar nr cr _ _ R1.out).mono ?_; rintro e1 w1 ⟨rfl, rfl⟩)
          go_ret2
          exact ⟨by rw [HNV.out, HEN.out, HS.out]; rfl, BX.out⟩
      · obtain rfl : t = nt := by omega
        obtain ⟨ck0, ck1, ck2⟩ : w0.cell? ⟨w.heap.size, 0, none⟩ = some (.int .i64 o) ∧ w0.cell? ⟨w.heap.size, 1, none⟩ = some (.int .i64 i) ∧ w0.cell? ⟨w.heap.size, 2, none⟩ = some (.int .i64 h) := ⟨HBK.out.at_ 0, HBK.out.at_ 1, HBK.out.at_ 2⟩
        have HNS := hide (errNs_ok T (fun k hk => HV.out k (by rw [HLT.out] at hk; exact hk)))
        by_cases hel : errL xs = 0
        · have HEL := hide hel
          have HEN0 := hide (errNe_c (l := xs) (c := ⟨o, i, h⟩) HLEN.out HNS.out hel)
          by_cases hec : errC ⟨o, i, h⟩ = 0
          · have HEC := hide hec
            have HEN := hide (show errNe T xs ⟨o, i, h⟩ = 0 from by rw [HEN0.out]; exact hec)
            have HNV := hide (nearV_ok HEN.out)
            rw [HLT.out] at HNV
            have hck := errC_ok.1 hec
            obtain ⟨ho, hi, hh⟩ := hck
            simp only at ho hi hh
            have hn10 : n ≤ 10 := by rw [← HLX.out]; exact (errL_ok.1 hel).1
            clear hel hec
            go_wp2_with (first
              | (go_at_call 23; refine (rValidate_any A n c xs _ HX.out).mono ?_; rintro e1 w1 ⟨rfl, rfl⟩; rw [HEL.out])
              | (go_at_call 25; refine (rValidateCosts_any o i h _).mono ?_; rintro e1 w2 ⟨rfl, b2⟩; rw [HEC.out]; have B2 := hide b2; clear b2))
            clear ck0 ck1 ck2
            go_loopw [12, 13] (fun a12 a13 wr => ∃ t' : Nat, 1 ≤ t' ∧ t' ≤ t ∧ a12 = .int .i64 (nb (dNe T xs ⟨o, i, h⟩) t' : Nat) ∧ a13 = .int .i64 t' ∧ Hid (Below w0.heap.size w0 wr)) (fun _ a13 _ => t - (intOf a13).toNat)
            case atStart => exact ⟨1, Nat.le_refl _, hnt1, by rw [nb_one]; rfl, rfl, B2⟩
            case round =>
              clear B2
              obtain ⟨s, hs1, hs, rfl, rfl, HB⟩ := hrel
              by_cases hls : s < t
              · have hsn : (s : Int) < (t : Int) := by omega
                have hnb := nb_le (dNe T xs ⟨o, i, h⟩) s
                have HNY := hide (fun (hq : dNe T xs ⟨o, i, h⟩ s < dNe T xs ⟨o, i, h⟩ (nb (dNe T xs ⟨o, i, h⟩) s)) => nb_yes hq)
                have HNN := hide (fun (hq : ¬ dNe T xs ⟨o, i, h⟩ s < dNe T xs ⟨o, i, h⟩ (nb (dNe T xs ⟨o, i, h⟩) s)) => nb_no hq)
                generalize hv : nb (dNe T xs ⟨o, i, h⟩) s = v at *
                have hvt : v < t := by omega
                have hvn : (v : Int) < (t : Int) := by omega
                obtain ⟨hbs, As, ns, cs, m1, r1⟩ := rr_at (HT.out.below HB.out) hls
                obtain ⟨_, Av, nv, cv, m2, r2⟩ := rr_at (HT.out.below HB.out) hvt
                have hs10 := va_len HV.out (k := s) hls
                rw [r1.length] at hs10
                have hv10 := va_len HV.out (k := v) hvt
                rw [r2.length] at hv10
                have kk0 := (HBK.out.keep HB.out hz).at_ 0
                have kk1 := (HBK.out.keep HB.out hz).at_ 1
                have kk2 := (HBK.out.keep HB.out hz).at_ 2
                simp at kk0 kk1 kk2
                have hzr : w.heap.size < wr.heap.size := Nat.lt_of_lt_of_le hz HB.out.size
                have HXR := hide (HX.out.below HB.out (Nat.le_refl _))
                have R2 := hide r2
                have HDS := hide (rdistance_any As ns cs _ A n c xs o i h wr.drew (r1.drewN 1) (HXR.out.drewN 1) hs10 hn10 ho hi hh)
                have HDV := hide (fun W (hb : Below wr.heap.size wr W) => rdistance_any Av nv cv _ A n c xs o i h W (R2.out.below hb (Nat.le_refl _)) (HXR.out.below hb (Nat.le_refl _)) hv10 hn10 ho hi hh)
                rw [show dist (T.getD s []) xs ⟨o, i, h⟩ = dNe T xs ⟨o, i, h⟩ s from rfl] at HDS
                have HDV2 := hide (fun W (hb : Below wr.heap.size wr W) => by have := HDV.out W hb; rw [show dist (T.getD v []) xs ⟨o, i, h⟩ = dNe T xs ⟨o, i, h⟩ v from rfl] at this; exact this)
                have HVV := hide hv
                clear r1 r2 HDV hv
                by_cases hlt2 : dNe T xs ⟨o, i, h⟩ s < dNe T xs ⟨o, i, h⟩ v
                · have HN := hide (HNY.out hlt2)
                  clear HNY HNN HVV
                  generalize dNe T xs ⟨o, i, h⟩ s = u at *
                  generalize dNe T xs ⟨o, i, h⟩ v = y at *
                  go_wp2_with fail
                  go_region_held3 (fun w' => w'.cell? ⟨bt, ot + s, none⟩ = some (.slice As ns cs) ∧ w'.cell? ⟨bt, ot + v, none⟩ = some (.slice Av nv cv) ∧ w'.cell? ⟨w.heap.size, 0, none⟩ = some (.int .i64 o) ∧ w'.cell? ⟨w.heap.size, 1, none⟩ = some (.int .i64 i) ∧ w'.cell? ⟨w.heap.size, 2, none⟩ = some (.int .i64 h))
                    (first
                      | go_keep
                      | (go_split_ands
                         refine ⟨?_, ?_, ?_, ?_, ?_⟩ <;> (rw [B9.out.cell (by simp; omega)]; assumption))
                      | (go_split_ands
                         refine ⟨?_, ?_, ?_, ?_, ?_⟩ <;> (rw [B8.out.cell (by simp; omega)]; assumption)))
                    (first
                      | (have hgd := B8; clear hgd; go_at_call 62; refine (HDV2.out w8 B8.out).mono ?_; rintro e9 w9 ⟨rfl, b9⟩; have B9 := hide (show Below wr.heap.size wr w9 from le_call B8.out b9); clear b9)
                      | (go_at_call 62; refine HDS.out.mono ?_; rintro e8 w8 ⟨rfl, b8⟩; have B8 := hide (show Below wr.heap.size wr w8 from below_undrew b8); clear b8))
                  all_goals
                    go_wp2_with fail
                    go_roundw
                    case rel => exact ⟨s + 1, by omega, by omega, by rw [HN.out], by go_num, hide (le_call HB.out B9.out)⟩
                    case measure => simp [intOf]; omega
                · have hle2 : dNe T xs ⟨o, i, h⟩ v ≤ dNe T xs ⟨o, i, h⟩ s := by omega
                  have HN := hide (HNN.out hlt2)
                  clear HNY HNN HVV hlt2
                  generalize dNe T xs ⟨o, i, h⟩ s = u at *
                  generalize dNe T xs ⟨o, i, h⟩ v = y at *
                  go_wp2_with fail
                  go_region_held3 (fun w' => w'.cell? ⟨bt, ot + s, none⟩ = some (.slice As ns cs) ∧ w'.cell? ⟨bt, ot + v, none⟩ = some (.slice Av nv cv) ∧ w'.cell? ⟨w.heap.size, 0, none⟩ = some (.int .i64 o) ∧ w'.cell? ⟨w.heap.size, 1, none⟩ = some (.int .i64 i) ∧ w'.cell? ⟨w.heap.size, 2, none⟩ = some (.int .i64 h))
                    (first
                      | go_keep
                      | (go_split_ands
                         refine ⟨?_, ?_, ?_, ?_, ?_⟩ <;> (rw [B9.out.cell (by simp; omega)]; assumption))
                      | (go_split_ands
                         refine ⟨?_, ?_, ?_, ?_, ?_⟩ <;> (rw [B8.out.cell (by simp; omega)]; assumption)))
                    (first
                      | (have hgd := B8; clear hgd; go_at_call 62; refine (HDV2.out w8 B8.out).mono ?_; rintro e9 w9 ⟨rfl, b9⟩; have B9 := hide (show Below wr.heap.size wr w9 from le_call B8.out b9); clear b9)
                      | (go_at_call 62; refine HDS.out.mono ?_; rintro e8 w8 ⟨rfl, b8⟩; have B8 := hide (show Below wr.heap.size wr w8 from below_undrew b8); clear b8))
                  all_goals
                    go_wp2_with fail
                    go_roundw
                    case rel => exact ⟨s + 1, by omega, by omega, by rw [HN.out], by go_num, hide (le_call HB.out B9.out)⟩
                    case measure => simp [intOf]; omega
              · obtain rfl : s = t := by omega
                go_wp2_with fail
                go_ret2
                exact ⟨by rw [HNV.out, HEN.out]; rfl, BX.out.trans (HB.out.mono (Nat.le_of_lt hz))⟩
          · have HEN := hide (show errNe T xs ⟨o, i, h⟩ = errC ⟨o, i, h⟩ from HEN0.out)
            have HNV := hide (show nearV T xs ⟨o, i, h⟩ = 0 from nearV_no (by rw [HEN.out]; exact hec))
            have hne : (errC ⟨o, i, h⟩ != 0) = true := by simpa using hec
            clear hel hec
            go_wp2_with (first
              | (go_at_call 23; refine (rValidate_any A n c xs _ HX.out).mono ?_; rintro e1 w1 ⟨rfl, rfl⟩; rw [HEL.out])
              | (go_at_call 25; refine (rValidateCosts_any o i h _).mono ?_; rintro e1 w2 ⟨rfl, b2⟩; have B2 := hide b2; clear b2))
            go_ret2
            exact ⟨by rw [HNV.out, HEN.out]; rfl, BX.out.trans (B2.out.mono (Nat.le_of_lt hz))⟩
        · have HEN := hide (errNe_l (l := xs) (c := ⟨o, i, h⟩) HLEN.out HNS.out hel)
          have HNV := hide (show nearV T xs ⟨o, i, h⟩ = 0 from nearV_no (by rw [HEN.out]; exact hel))
          have hne : (errL xs != 0) = true := by simpa using hel
          clear hel
          go_wp2_with (go_at_call 23; refine (rValidate_any A n c xs _ HX.out).mono ?_; rintro e1 w1 ⟨rfl, rfl⟩)
          go_ret2
          exact ⟨by rw [HNV.out, HEN.out]; rfl, BX.out⟩
  · have HEN := hide (errNe_len (T := T) (l := xs) (c := ⟨o, i, h⟩) (by rw [HLT.out]; exact hlen))
    have HNV := hide (show nearV T xs ⟨o, i, h⟩ = 0 from nearV_no (by rw [HEN.out]; decide))
    have HWI := hide (withinB_false (n := (nt : Int)) (lo := 1) (hi := 6) (by omega))
    clear hT hx hlen
    go_enter Try.func44, Try.ntmps44
    go_wp2_with (go_at_call 58; refine (within_any (nt : Int) 1 6 _).mono ?_; rintro e0 w0' ⟨rfl, rfl⟩; rw [HWI.out])
    go_ret2
    exact ⟨by rw [HNV.out, HEN.out]; rfl, BX.out⟩
end Go.Proofs.Ytndfdminjegldaa
