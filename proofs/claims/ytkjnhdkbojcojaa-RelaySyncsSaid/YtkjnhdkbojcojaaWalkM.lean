/- Walks: all sets to which words lead. -/
import Derived.Test.YtkjnhdkbojcojaaWalkL
import Derived.Test.YtkjnhdkbojcojaaWalkCl
import Derived.Test.YtkjnhdkbojcojaaApB
import Derived.Deep.RegionHeldLaw
namespace Go.Proofs.Ytkjnhdkbojcojaa
open Go.RowKit Go.Shelf
attribute [local go_sem] Oper.semAt_some

theorem info_plS : (Try.prog.info? 127).map (fun i => (i.zero, i.size, i.bytes)) = some (some (.agg #[.pointer none, .bool false, .bool false, .bool false, .bool false, .bool false, .bool false, .slice none 0 0]), 8, 40) := by kernel_rfl
set_option maxRecDepth 100000 in
set_option maxHeartbeats 8000000 in
theorem placesS_any (g t : Nat) (b : Bx) (w : World) (h : BoxAt w g b) (hb : Okx b) (ht : t < 2 ^ b.2.length) :
    Calls Try.prog 82 #[setV g t, .func (.func 83) #[] #[]] w fun e w' => ∃ A n c hs, e = .returned (.slice A n c) ∧ Pls (ESet g) w' w.heap.size 127 A n c hs (plN (aftS b) t 64) ∧ n ≤ 64 ∧ Below w.heap.size w w' := by
  have HBX := hide h
  have HOK := hide hb
  have HINV := hide (fun r => inv_plN (f := aftS b) (P := fun m => m < 2 ^ b.2.length) (x0 := t) ht (fun x k hx => aftTo_lt hb k hx 6) r)
  have HBD := hide (fun r => plN_bound (f := aftS b) (P := fun m => m < 2 ^ b.2.length) (x0 := t) (fun m => m) (N := 64) ht (fun x k hx => aftTo_lt hb k hx 6) (fun x hx => lt64 hx hb.n6) (fun x y _ _ e => e) r)
  clear h hb ht
  go_enter Try.func82, Try.ntmps82
  go_wp2_with fail
  have HW2 := hide (show Below w.heap.size w ((w.alloc (.cells (setA g t) 94)).alloc (.cells (placeA g t (none, 0, 0)) 127)) from le_two (le_two (Below.refl _ _) _) _)
  have HPL0 := hide (show Pls (ESet g) ((w.alloc (.cells (setA g t) 94)).alloc (.cells (placeA g t (none, 0, 0)) 127)) w.heap.size 127 (some ⟨w.heap.size + 1, 0, none⟩) 1 1 [(t, none, 0, 0)] (plN (aftS b) t 0) from by
    have h1 := Own.lit (E := EPl (ESet g)) (B := w.heap.size) (e := 127) (w.alloc (.cells (setA g t) 94)) [(t, none, 0, 0)] (by simp) (by simp [maxLen])
    rw [show (w.alloc (.cells (setA g t) 94)).heap.size = w.heap.size + 1 from by simp] at h1
    refine ⟨h1, rfl, rfl, fun k hk => ?_⟩
    obtain rfl : k = 0 := by omega
    exact Own.nil _ _ _ _)
  generalize (w.alloc (.cells (setA g t) 94)).alloc (.cells (placeA g t (none, 0, 0)) 127) = W2 at *
  go_loopw [6, 5] (fun iv o wr => ∃ (i n : Nat) (A : Option Addr) (c : Nat) (hs : List (Nat × Hd)), i ≤ n ∧ iv = .int .i64 i ∧ o = .slice A n c ∧ Hid (Pls (ESet g) wr w.heap.size 127 A n c hs (plN (aftS b) t i)) ∧ Hid (Below w.heap.size w wr)) (fun iv _ _ => 64 - (intOf iv).toNat)
  case atStart => exact ⟨0, 1, _, 1, _, by omega, rfl, rfl, HPL0, HW2⟩
  case round =>
    obtain ⟨i, n, A, c, hs, hin, rfl, rfl, HP, HBL⟩ := hrel
    have HN := hide (show n ≤ 64 from by have h1 := HP.out.len; have h2 := HBD.out i; omega)
    have hn64 : n ≤ 64 := HN.out
    by_cases hlt : i < n
    · have i1 : (i : Int) < (n : Int) := by omega
      have hi64 : i < 64 := by omega
      have HLV := hide HP.out.len
      have HE := hide (show plN (aftS b) t (i + 1) = midP (aftS b) (plN (aftS b) t i) ((plN (aftS b) t i).getD i (0, [])) 2 from by
        have h1 := HLV.out
        rw [plN_some (e := (plN (aftS b) t i).getD i (0, [])) (by rw [List.getD_eq_getElem?_getD, List.getElem?_eq_getElem (by omega)]; rfl)]
        rfl)
      have HMEM := hide (show (plN (aftS b) t i).getD i (0, []) ∈ plN (aftS b) t i from by
        have h1 := HLV.out
        rw [List.getD_eq_getElem?_getD, List.getElem?_eq_getElem (by omega)]
        exact List.getElem_mem _)
      have HXL := hide ((HINV.out i).all _ HMEM.out)
      have HWL := hide (plN_wlen _ _ i _ HMEM.out)
      have HGE := hide (fun j => midP_get (f := aftS b) (V := plN (aftS b) t i) (e := (plN (aftS b) t i).getD i (0, [])) (j := j) (i := i) (d := (0, [])) (by have := HLV.out; omega))
      have HB2 := hide (show ∀ j, j ≤ 2 → (midP (aftS b) (plN (aftS b) t i) ((plN (aftS b) t i).getD i (0, [])) j).length ≤ 64 ∧ ∀ k, k < (midP (aftS b) (plN (aftS b) t i) ((plN (aftS b) t i).getD i (0, [])) j).length → ((midP (aftS b) (plN (aftS b) t i) ((plN (aftS b) t i).getD i (0, [])) j).getD k (0, [])).1 < 64 from fun j hj => by
        have hinv : Inv (f := aftS b) (fun m => m < 2 ^ b.2.length) t (midP (aftS b) (plN (aftS b) t i) ((plN (aftS b) t i).getD i (0, [])) j) := by
          have h0 := HINV.out i
          have h1 := h0.add HMEM.out (fun x k hx => aftTo_lt HOK.out k hx 6) 0 (.inl rfl)
          obtain rfl | rfl | rfl : j = 0 ∨ j = 1 ∨ j = 2 := by omega
          · exact h0
          · exact h1
          · exact h1.add (mem_addP HMEM.out _ _) (fun x k hx => aftTo_lt HOK.out k hx 6) 1 (.inr rfl)
        refine ⟨?_, fun k hk => ?_⟩
        · have := few_of (fun m => m) hinv.nd (N := 64) (fun x hx => by
            obtain ⟨e, he, rfl⟩ := List.mem_map.1 hx
            exact lt64 (hinv.all e he) HOK.out.n6) (fun x _ y _ e => e)
          rwa [List.length_map] at this
        · rw [List.getD_eq_getElem?_getD, List.getElem?_eq_getElem hk]
          exact lt64 (hinv.all _ (List.getElem_mem _)) HOK.out.n6)
      generalize (plN (aftS b) t i).getD i (0, []) = e0 at *
      generalize plN (aftS b) t i = V at *
      go_wp2_with fail
      go_loopw [18, 5] (fun jv o w3 => ∃ (j n3 : Nat) (A3 : Option Addr) (c3 : Nat) (hs3 : List (Nat × Hd)), j ≤ 2 ∧ n ≤ n3 ∧ jv = .int .i64 j ∧ o = .slice A3 n3 c3 ∧ Hid (Pls (ESet g) w3 w.heap.size 127 A3 n3 c3 hs3 (midP (aftS b) V e0 j)) ∧ Hid (Below w.heap.size w w3)) (fun jv _ _ => 2 - (intOf jv).toNat)
      case atStart => exact ⟨0, n, A, c, hs, by omega, Nat.le_refl _, rfl, rfl, HP, HBL⟩
      case round =>
        obtain ⟨j, n3, A3, c3, hs3, hj, hn3, rfl, rfl, HP3, HB3⟩ := hrel
        by_cases hlj : j < 2
        · obtain ⟨g0, rfl, hg0, hg1, _, hc3⟩ := HP3.out.own.addr (by omega)
          have hc4 : n3 ≤ c3 ∧ c3 ≤ 9223372036854775807 := by
            obtain ⟨b0, o0, hr0⟩ := HP3.out.own.row
            exact ⟨hr0.cap, hr0.max⟩
          have hc5 := hc4.1
          have hc6 := hc4.2
          clear hc4 hc3
          have hin3 : i < n3 := by omega
          have HNX := hide (show (hs3.getD i (EPl (ESet g)).d).1 = e0.1 from (HP3.out.node hin3).trans (by rw [show ((ESet g).d, ([] : List Int)) = (0, []) from rfl, HGE.out j]))
          have HWD := hide (show WordAt wr w.heap.size (hs3.getD i (EPl (ESet g)).d).2 e0.2 from by have := HP3.out.wd i hin3; rwa [show ((ESet g).d, ([] : List Int)) = (0, []) from rfl, HGE.out j] at this)
          have HROW := hide (fun x (hx : Pls (ESet g) x w.heap.size 127 (some ⟨g0, 0, none⟩) n3 c3 hs3 (midP (aftS b) V e0 j)) => cPlS hx.own.rowAt hin3)
          have HRO2 := hide (fun x (hx : Own (EPl (ESet g)) x w.heap.size 127 (some ⟨g0, 0, none⟩) n3 c3 hs3) => cPlS hx.rowAt hin3)
          rw [HNX.out] at HROW HRO2
          generalize (hs3.getD i (EPl (ESet g)).d).2 = hd at *
          have hcs := HROW.out _ HP3.out
          simp only [Nat.zero_add] at hcs
          have hnn3 : n3 ≤ 64 := by rw [← HP3.out.len]; exact (HB2.out j hj).1
          have hj01 : (j : Int) = 0 ∨ (j : Int) = 1 := by omega
          have HJ01 := hide hj01
          clear hj01
          have HXN := hide (show aftS b e0.1 (j : Int) < 64 from lt64 (aftTo_lt HOK.out _ HXL.out 6) HOK.out.n6)
          have HADD := hide (midP_add (aftS b) V e0 j hlj)
          have HPB := hide (show ∀ k, k < n3 → ((midP (aftS b) V e0 j).getD k (0, [])).1 < 64 from fun k hk => (HB2.out j hj).2 k (by rw [HP3.out.len]; exact hk))
          have i3 : (i : Int) < (n3 : Int) := by omega
          have j2 : (j : Int) < 2 := by omega
          have HAF := hide (fun x => aftS_any g e0.1 b (j : Int) x)
          generalize aftS b e0.1 (j : Int) = x' at *
          have HFI := hide (fun x (hx : Below wr.heap.size wr x) => findS_any g x' (HP3.out.below hx (Nat.le_refl _)) (by omega) HPB.out HXN.out)
          have BSA := hide (fun (x : World) => (show Below x.heap.size x (x.alloc (.cells (setA g x') 94)) from le_two (Below.refl _ _) _))
          have BKS := hide (fun (x : World) => Bk.born x 94 (setA g x'))
          rcases idx_has (midP (aftS b) V e0 j) x' 0 with ⟨kk, hk1, hk2, hh⟩ | ⟨hk1, hh⟩
          · rw [hk1] at HFI
            have HHH := hide (show addP (midP (aftS b) V e0 j) x' (e0.2 ++ [(j : Int)]) = midP (aftS b) V e0 j from by unfold addP; rw [if_pos hh])
            have hkk : (0 : Int) ≤ (kk : Int) := by omega
            clear hk1 hk2 hh
            go_wp2_with (first
              | (go_at_call 83; refine (HAF.out _ (HBX.out.below HB3.out (Nat.le_refl _)) HOK.out HXL.out HJ01.out).mono ?_; rintro e w5 ⟨rfl, b5⟩; have B5 := hide (b5.trans ((BSA.out w5).mono b5.size)); have hq := bk_set (BKS.out w5))
              | (go_at_call 106; refine (HFI.out _ B5.out).mono ?_; rintro e w7 ⟨rfl, b7⟩; have B7 := hide (B5.out.trans (b7.mono B5.out.size))))
            go_roundw
            case rel => exact ⟨j + 1, n3, _, c3, hs3, by omega, hn3, by go_num, rfl, hide (by rw [HADD.out, HHH.out]; exact HP3.out.below B7.out (Nat.le_refl _)), hide (HB3.out.trans (B7.out.mono HB3.out.size))⟩
            case measure => simp [intOf]; omega
          · rw [hk1] at HFI
            have HHH := hide (show addP (midP (aftS b) V e0 j) x' (e0.2 ++ [(j : Int)]) = midP (aftS b) V e0 j ++ [(x', e0.2 ++ [(j : Int)])] from by unfold addP; rw [if_neg (by rw [hh]; decide)])
            clear hk1 hh
            go_wp2_with (first
              | (go_at_call 83; refine (HAF.out _ (HBX.out.below HB3.out (Nat.le_refl _)) HOK.out HXL.out HJ01.out).mono ?_; rintro e w5 ⟨rfl, b5⟩; have B5 := hide (b5.trans ((BSA.out w5).mono b5.size)); have hq := bk_set (BKS.out w5); have b5s := b5.size)
              | (go_at_call 106; refine (HFI.out _ B5.out).mono ?_; rintro e w7 ⟨rfl, b7⟩; have B7 := hide (B5.out.trans (b7.mono B5.out.size)); have KQ := hide ((BKS.out w5).keep b7 (by simp))))
            have HP7 := hide (HP3.out.below B7.out (Nat.le_refl _))
            have HB7 := hide (HB3.out.trans (B7.out.mono HB3.out.size))
            have HW7 := hide (Own.below (E := E1) HWD.out B7.out (Nat.le_refl _))
            have hs7 := HB7.out.size
            obtain ⟨Ah, nh, ch⟩ := hd
            have HSF := hide (show ∀ x, Below w7.heap.size w7 x → (x.cell? ⟨w5.heap.size, 0, none⟩ = some (.pointer (some ⟨g, 0, none⟩)) ∧ x.cell? ⟨w5.heap.size, 1, none⟩ = some (.bool (bt x' 0)) ∧ x.cell? ⟨w5.heap.size, 2, none⟩ = some (.bool (bt x' 1)) ∧ x.cell? ⟨w5.heap.size, 3, none⟩ = some (.bool (bt x' 2)) ∧ x.cell? ⟨w5.heap.size, 4, none⟩ = some (.bool (bt x' 3)) ∧ x.cell? ⟨w5.heap.size, 5, none⟩ = some (.bool (bt x' 4)) ∧ x.cell? ⟨w5.heap.size, 6, none⟩ = some (.bool (bt x' 5)) ∧ x.cell? ⟨g0, i * 8 + 7, none⟩ = some (.slice Ah nh ch)) from fun x hx => by
              have h1 := bk_set (KQ.out.keep hx KQ.out.in_)
              have h2 := (HROW.out x (HP7.out.below hx (Nat.le_refl _))).2.2.2.2.2.2.2
              rw [Nat.zero_add] at h2
              exact ⟨h1.1, h1.2.1, h1.2.2.1, h1.2.2.2.1, h1.2.2.2.2.1, h1.2.2.2.2.2.1, h1.2.2.2.2.2.2, h2⟩)
            have HKE := hide (show ∀ x y, Below w7.heap.size w7 x → x.grownBy y (some g0) → Own (EPl (ESet g)) y w.heap.size 127 (some ⟨g0, 0, none⟩) n3 c3 hs3 → (y.cell? ⟨w5.heap.size, 0, none⟩ = some (.pointer (some ⟨g, 0, none⟩)) ∧ y.cell? ⟨w5.heap.size, 1, none⟩ = some (.bool (bt x' 0)) ∧ y.cell? ⟨w5.heap.size, 2, none⟩ = some (.bool (bt x' 1)) ∧ y.cell? ⟨w5.heap.size, 3, none⟩ = some (.bool (bt x' 2)) ∧ y.cell? ⟨w5.heap.size, 4, none⟩ = some (.bool (bt x' 3)) ∧ y.cell? ⟨w5.heap.size, 5, none⟩ = some (.bool (bt x' 4)) ∧ y.cell? ⟨w5.heap.size, 6, none⟩ = some (.bool (bt x' 5)) ∧ y.cell? ⟨g0, i * 8 + 7, none⟩ = some (.slice Ah nh ch)) from fun x y hx hg ho => by
              have h1 := bk_set (gb_bk hg (KQ.out.keep hx KQ.out.in_) (by omega))
              have h2 := (HRO2.out y ho).2.2.2.2.2.2.2
              rw [Nat.zero_add] at h2
              exact ⟨h1.1, h1.2.1, h1.2.2.1, h1.2.2.2.1, h1.2.2.2.2.1, h1.2.2.2.2.2.1, h1.2.2.2.2.2.2, h2⟩)
            have h0 := HSF.out w7 (Below.refl _ _)
            have hwn : nh ≤ 64 := by
              have h1 := HWL.out
              have h2 := Own.len (E := E1) HW7.out
              simp only at h2
              omega
            have HCL := hide (CloneI_any Ah nh ch e0.2 w7.drew (Own.row (E := E1) (Own.drew (E := E1) HW7.out)) (by omega))
            have HCM := hide (CloneI_any Ah nh ch e0.2 (w7.alloc (.cells #[.int .i64 (j : Int)] 3)).drew (Own.row (E := E1) (Own.drew (E := E1) (Own.alloc (E := E1) HW7.out _))) (by omega))
            have BAL := hide (show Below w7.heap.size w7 (w7.alloc (.cells #[.int .i64 (j : Int)] 3)).drew from (le_two (Below.refl _ _) _).drew)
            have JRW := hide (show R E1 (w7.alloc (.cells #[.int .i64 (j : Int)] 3)).drew (some ⟨w7.heap.size, 0, none⟩) 1 1 [(j : Int)] from (lit_row w7 [(j : Int)] (by simp [maxLen])).drewN 1)
            clear hcs
            go_region_held_law (fun w' => w'.cell? ⟨w5.heap.size, 0, none⟩ = some (.pointer (some ⟨g, 0, none⟩)) ∧ w'.cell? ⟨w5.heap.size, 1, none⟩ = some (.bool (bt x' 0)) ∧ w'.cell? ⟨w5.heap.size, 2, none⟩ = some (.bool (bt x' 1)) ∧ w'.cell? ⟨w5.heap.size, 3, none⟩ = some (.bool (bt x' 2)) ∧ w'.cell? ⟨w5.heap.size, 4, none⟩ = some (.bool (bt x' 3)) ∧ w'.cell? ⟨w5.heap.size, 5, none⟩ = some (.bool (bt x' 4)) ∧ w'.cell? ⟨w5.heap.size, 6, none⟩ = some (.bool (bt x' 5)) ∧ w'.cell? ⟨g0, i * 8 + 7, none⟩ = some (.slice Ah nh ch))
              (first
                | exact K10.out
                | exact K9.out
                | exact K8.out
                | exact K8c.out
                | exact ⟨h0.1, h0.2.1, h0.2.2.1, h0.2.2.2.1, h0.2.2.2.2.1, h0.2.2.2.2.2.1, h0.2.2.2.2.2.2.1, h0.2.2.2.2.2.2.2⟩
                | go_keep)
              (first
                | (have hgd := K9; clear hgd; refine step_appB (E := EPl (ESet g)) w9 (.agg #[.pointer none, .bool false, .bool false, .bool false, .bool false, .bool false, .bool false, .slice none 0 0]) 40 rfl (.tmp 33) (.tmp 45) 96 rfl Try.underlying96 info_plS rfl (show 0 < 8 by decide) (by omega) w.heap.size n3 c3 g0 hs3 (x', A9, nh + 1, c9) _ rfl rfl rfl P9.out.own (by omega) (Nat.le_trans hs7 B9.out.size) ?_; intro g10 c10 w10 o10 p10 gb10 _; have K10 := hide (HKE.out w9 w10 B9.out gb10 p10); have P10 := hide (P9.out.add (by decide) o10 gb10 (show WordAt w9 w.heap.size (A9, nh + 1, c9) (e0.2 ++ [(j : Int)]) from O9.out)); have B10 := hide (own_grown_below P9.out.own (Nat.le_trans hs7 B9.out.size) gb10); clear o10 p10 gb10)
                | (have hgd := K8b; clear hgd; refine step_appN (E := E1) w8 (.int .i64 0) 8 rfl (.tmp 40) (.tmp 42) 23 3 rfl Try.underlying23 info_int rfl (by decide) (by omega) w7.heap.size nh c8 A8 e0.2 ⟨w7.heap.size, 0, none⟩ 1 1 [(j : Int)] rfl rfl O8.out J8.out (by decide) (by decide) (by omega) B8.out.size ?_; intro A9 c9 w9 o9 b9; have B9 := hide (B8.out.trans b9); have K9 := hide (HSF.out w9 B9.out); have O9 := hide (o9.more hs7); have P9 := hide (HP7.out.below B9.out (Nat.le_refl _)); clear o9 b9)
                | (have hgd := K8; clear hgd; refine step_app1 (E := E1) w8 (.int .i64 0) 8 rfl (.tmp 40) (.tmp 42) 23 3 rfl Try.underlying23 info_int rfl (by decide) (by omega) w7.heap.size nh c8 A8 e0.2 (j : Int) _ rfl rfl rfl O8.out (by omega) B8.out.size ?_; intro A9 c9 w9 o9 b9; have B9 := hide (B8.out.trans b9); have K9 := hide (HSF.out w9 B9.out); have O9 := hide (o9.more hs7); have P9 := hide (HP7.out.below B9.out (Nat.le_refl _)); clear o9 b9)
                | (go_at_call 97; refine HCL.out.mono ?_; rintro e8 w8 ⟨A8, c8, rfl, o8, b8⟩; have B8 := hide (show Below w7.heap.size w7 w8 from (below_drewN (Below.refl _ _) 1).trans b8); have K8 := hide (HSF.out w8 B8.out); have O8 := hide (show Own E1 w8 w7.heap.size 3 A8 nh c8 e0.2 from o8); clear o8 b8)
                | (go_at_call 97; refine HCM.out.mono ?_; rintro e8 w8 ⟨A8, c8, rfl, o8, b8⟩; have B8 := hide (show Below w7.heap.size w7 w8 from (BAL.out.trans (b8.mono (by simp)))); have K8b := hide (HSF.out w8 B8.out); have K8c := hide (HSF.out w8 B8.out); have O8 := hide (show Own E1 w8 w7.heap.size 3 A8 nh c8 e0.2 from o8.more (by simp)); have J8 := hide (JRW.out.below b8 (Nat.le_refl _)); clear o8 b8))
            all_goals
              go_wp2_with fail
              go_roundw
              case rel => exact ⟨j + 1, n3 + 1, _, c10, _, by omega, by omega, by go_num, rfl, hide (by rw [HADD.out, HHH.out]; exact P10.out), hide ((HB7.out.trans (B9.out.mono hs7)).trans B10.out)⟩
              case measure => simp [intOf]; omega
        · obtain rfl : j = 2 := by omega
          go_wp2_with fail
          go_roundw
          case rel => exact ⟨i + 1, n3, A3, c3, hs3, by omega, by go_num, rfl, by rw [HE.out]; exact HP3, HB3⟩
          case measure => have := HN.out; simp [intOf]; omega
    · obtain rfl : i = n := by omega
      have HEND := hide (plN_end (f := aftS b) (x0 := t) (r := i) (N := 64) (by rw [HP.out.len]; exact Nat.le_refl _) HN.out)
      go_wp2_with fail
      go_ret
      exact ⟨A, i, c, hs, rfl, by rw [HEND.out]; exact HP.out, HN.out, HBL.out⟩
end Go.Proofs.Ytkjnhdkbojcojaa
