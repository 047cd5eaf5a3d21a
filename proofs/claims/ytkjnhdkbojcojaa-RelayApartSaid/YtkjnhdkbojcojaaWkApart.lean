/- What RelayApart does at any box and two numbers. -/
import Derived.Test.YtkjnhdkbojcojaaWkRuns
import Derived.Test.YtkjnhdkbojcojaaWalkTt
import Derived.Deep.RegionHeld3
namespace Go.Proofs.Ytkjnhdkbojcojaa
open Go.RowKit Go.Shelf
attribute [local go_sem] Oper.semAt_some

theorem tellSF_len {b : Bx} {i j : Int} : ((tellSF b i j).getD []).length ≤ 50 := by
  by_cases e : errSS b i j = 0
  · obtain ⟨e1, e2⟩ := errSS_ok e
    obtain ⟨ok, h1, h2⟩ := errS_ok e1
    obtain ⟨_, h3, h4⟩ := errS_ok e2
    rw [tellSF_ok e]
    cases h : tellV b b i.toNat j.toNat with
    | none => simp
    | some w =>
      have := tell_len1 ok (show i.toNat < b.2.length by omega) (show j.toNat < b.2.length by omega) h
      have := ok.n6
      simp only [Option.getD_some]; omega
  · rw [tellSF_no e]; simp
theorem kinds_tell {b : Bx} (ok : Okx b) {u v : Nat} (hu : u < b.2.length) (hv : v < b.2.length) : (((kindsV b).getD u 0 : Nat) : Int) = (((kindsV b).getD v 0 : Nat) : Int) ↔ tellV b b u v = none := by
  constructor
  · intro h
    have h1 := (kinds_iff ok hu hv).1 (by omega)
    cases ht : tellV b b u v with
    | none => rfl
    | some w =>
      have := tell_some ok ok hu hv ht
      exact absurd (h1 w this.1) this.2.1
  · intro h
    have := (kinds_iff ok hu hv).2 fun l hl => tell_none ok ok hu hv h hl
    rw [this]
theorem kI_getz {ks : List Nat} (k : Nat) (h : k < ks.length) : (kI ks).getD k 0 = ((ks.getD k 0 : Nat) : Int) := by
  rw [List.getD_eq_getElem?_getD, List.getD_eq_getElem?_getD, kI, List.getElem?_map, List.getElem?_eq_getElem h]; rfl
set_option maxRecDepth 100000 in
set_option maxHeartbeats 8000000 in
theorem RelayApart_walk (A : Option Addr) (n c : Nat) (A' : Option Addr) (n' c' : Nat) (b : Bx) (i j : Int) (w : World) (h : BxR w A n c A' n' c' b) :
    Calls Try.prog 10 #[bV A n c A' n' c', .agg #[.int .i64 i, .int .i64 j]] w fun e w' => e = .returned (.bool true) ∧ Below w.heap.size w w' := by
  have D0 := hide (show Below w.heap.size w ((w.alloc (.cells #[.slice A n c, .slice A' n' c'] 25)).alloc (.cells #[.int .i64 i, .int .i64 j] 49)) from le_two (le_two (Below.refl _ _) _) _)
  have K0 := hide (show Bk ((w.alloc (.cells #[.slice A n c, .slice A' n' c'] 25)).alloc (.cells #[.int .i64 i, .int .i64 j] 49)) w.heap.size 25 #[.slice A n c, .slice A' n' c'] from (Bk.born w 25 #[.slice A n c, .slice A' n' c']).more (.cells #[.int .i64 i, .int .i64 j] 49))
  have K1 := hide (Bk.born (w.alloc (.cells #[.slice A n c, .slice A' n' c'] 25)) 49 #[.int .i64 i, .int .i64 j])
  rw [show (w.alloc (.cells #[.slice A n c, .slice A' n' c'] 25)).heap.size = w.heap.size + 1 from by simp] at K1
  have HB := hide (h.below D0.out (Nat.le_refl _))
  have H0 := hide (Below.refl ((w.alloc (.cells #[.slice A n c, .slice A' n' c'] 25)).alloc (.cells #[.int .i64 i, .int .i64 j] 49)).heap.size ((w.alloc (.cells #[.slice A n c, .slice A' n' c'] 25)).alloc (.cells #[.int .i64 i, .int .i64 j] 49)))
  have hle := h.nx.le
  have hle' := h.ou.le
  have HOL := hide h.ou.length
  clear h
  cases hlg : longB n n' [] with
  | true =>
    have HLG := hide hlg
    clear hlg
    go_enter Try.func10, Try.ntmps10
    go_wp2_with (first
      | (have hgd := H1; clear hgd; go_at_call 20; refine (sane_any _).mono ?_; rintro e2 w2 ⟨rfl, b2⟩; have H2 := hide (le_call H1.out b2); have f0_2 := bk_two (K0.out.keep H2.out K0.out.in_); have f1a_2 := bk_two (K1.out.keep H2.out K1.out.in_); clear b2)
      | (have hgd := H0; clear hgd; go_at_call 19; refine (Long_any A n c A' n' c' none 0 0 [] _ (R.nil EH _) hle hle').mono ?_; rintro e1 w1 ⟨rfl, b1⟩; rw [HLG.out]; have H1 := hide (le_call H0.out b1); have f0_1 := bk_two (K0.out.keep H1.out K0.out.in_); have f1a_1 := bk_two (K1.out.keep H1.out K1.out.in_); clear b1))
    go_ret
    exact ⟨rfl, le_call D0.out H2.out⟩
  | false =>
    have HLG := hide hlg
    clear hlg
    have q1 : (errSS b i j != errSS b i j) = false := bne_self_eq_false _
    have HTL := hide (tellSF_len (b := b) (i := i) (j := j))
    by_cases he : errSS b i j = 0
    · have hee : (errSS b i j != 0) = false := by simp [he]
      obtain ⟨ei, ej⟩ := errSS_ok he
      obtain ⟨ok, hi0, hin⟩ := errS_ok ei
      obtain ⟨_, hj0, hjn⟩ := errS_ok ej
      obtain ⟨u, rfl⟩ : ∃ u : Nat, i = (u : Int) := ⟨i.toNat, by omega⟩
      obtain ⟨v, rfl⟩ : ∃ v : Nat, j = (v : Int) := ⟨j.toNat, by omega⟩
      have hu : u < b.2.length := by omega
      have hv : v < b.2.length := by omega
      have hun : u < n' := by rw [← HOL.out]; exact hu
      have hvn : v < n' := by rw [← HOL.out]; exact hv
      have HTF := hide (show tellSF b (u : Int) (v : Int) = tellV b b u v from tellSF_ok he)
      have HKT := hide (kinds_tell ok hu hv)
      have HKU := hide (kI_getz (ks := kindsV b) u (by rw [kinds_len]; exact hu))
      have HKV := hide (kI_getz (ks := kindsV b) v (by rw [kinds_len]; exact hv))
      have HKF := hide (kindsF_ok (errX_ok ok))
      have HX := hide (errX_ok ok)
      have HKL := hide (show (kI (kindsV b)).length = n' from by rw [kI_len, kinds_len, HOL.out])
      have qx : (errX b == 0) = true := by rw [HX.out]; rfl
      have qn : ((n' : Int) == (n' : Int)) = true := beq_self_eq_true _
      have HUB := hide (fun z (hz : tellV b b u v = some z) => tell_len1 ok hu hv hz)
      rw [HOL.out] at HUB
      have iu : (u : Int) < (n' : Int) := by omega
      have iv : (v : Int) < (n' : Int) := by omega
      clear he ei ej ok hi0 hin hj0 hjn hu hv
      cases ht : tellV b b u v with
      | none =>
        have HT := hide (HTF.out.trans ht)
        have hkk := HKT.out.2 ht
        have hkb : ((((kindsV b).getD u 0 : Nat) : Int) != (((kindsV b).getD v 0 : Nat) : Int)) = false := by rw [hkk]; exact bne_self_eq_false _
        clear hkk
        clear ht
        go_enter Try.func10, Try.ntmps10
        go_upto_region 10 with (first
          | (have hgd := H4; clear hgd; go_at_call 32; refine (Kinds_any A n c A' n' c' b _ (HB.out.below H4.out (Nat.le_refl _))).mono ?_; rw [HKF.out, HX.out]; rintro e5 w5 ⟨A5, n5, c5, rfl, o5, b5⟩; have H5 := hide (le_call H4.out b5); have R2_5 := hide (le_call R2_4.out b5); have R3_5 := hide (le_call R3_4.out b5); have f0_5 := bk_two (K0.out.keep H5.out K0.out.in_); have f1a_5 := bk_two (K1.out.keep H5.out K1.out.in_); have O5 := hide o5; obtain rfl : n' = n5 := HKL.out.symm.trans o5.len; have R5_5 := hide (Below.refl w5.heap.size w5); clear o5; clear b5)
          | (have hgd := H3; clear hgd; go_at_call 27; refine (SameInts_any A2 n2 c2 A3 n3 c3 [] [] _ (O2.out.row.below R2_3.out (Nat.le_refl _)) O3.out.row (by have h1 := LN2.out; have h2 := HTL.out; (try simp only [Option.getD_none, List.length_nil] at h1); omega) (by have h1 := LN3.out; have h2 := HTL.out; (try simp only [Option.getD_none, List.length_nil] at h1); omega)).mono ?_; rintro e4 w4 ⟨rfl, qq, hqq⟩; have b4 := (show Below w3.heap.size w3 w4 from (by rw [hqq]; exact below_drewN (Below.refl _ _) qq)); clear hqq; rw [beq_self_eq_true]; have H4 := hide (le_call H3.out b4); have R2_4 := hide (le_call R2_3.out b4); have R3_4 := hide (le_call R3_3.out b4); have f0_4 := bk_two (K0.out.keep H4.out K0.out.in_); have f1a_4 := bk_two (K1.out.keep H4.out K1.out.in_); clear b4)
          | (have hgd := H2; clear hgd; go_at_call 42; refine (rTellStates_any A n c A' n' c' b (u : Int) (v : Int) _ (HB.out.below H2.out (Nat.le_refl _))).mono ?_; rw [HT.out]; rintro e3 w3 ⟨A3, n3, c3, rfl, o3, b3⟩; have H3 := hide (le_call H2.out b3); have R2_3 := hide (le_call R2_2.out b3); have f0_3 := bk_two (K0.out.keep H3.out K0.out.in_); have f1a_3 := bk_two (K1.out.keep H3.out K1.out.in_); have O3 := hide o3; have LN3 := hide o3.len; have R3_3 := hide (Below.refl w3.heap.size w3); clear o3; clear b3)
          | (have hgd := H1; clear hgd; go_at_call 41; refine (TellStates_any A n c A' n' c' b (u : Int) (v : Int) _ (HB.out.below H1.out (Nat.le_refl _))).mono ?_; rw [HT.out]; rintro e2 w2 ⟨A2, n2, c2, rfl, o2, b2⟩; have H2 := hide (le_call H1.out b2); have f0_2 := bk_two (K0.out.keep H2.out K0.out.in_); have f1a_2 := bk_two (K1.out.keep H2.out K1.out.in_); have O2 := hide o2; have LN2 := hide o2.len; have R2_2 := hide (Below.refl w2.heap.size w2); clear o2; clear b2)
          | (have hgd := H0; clear hgd; go_at_call 19; refine (Long_any A n c A' n' c' none 0 0 [] _ (R.nil EH _) hle hle').mono ?_; rintro e1 w1 ⟨rfl, b1⟩; rw [HLG.out]; have H1 := hide (le_call H0.out b1); have f0_1 := bk_two (K0.out.keep H1.out K0.out.in_); have f1a_1 := bk_two (K1.out.keep H1.out K1.out.in_); clear b1))
        obtain ⟨gk, rfl, _⟩ := O5.out.addr (by omega)
        have ku := own1 O5.out (k := u) hun
        have kv := own1 O5.out (k := v) hvn
        rw [HKU.out] at ku
        rw [HKV.out] at kv
        generalize (kindsV b).getD u 0 = y1 at *
        generalize (kindsV b).getD v 0 = y2 at *
        have HSS := hide (fun z (hz : Below w5.heap.size w5 z) => And.intro (bk_two (K0.out.keep (le_call H5.out hz) K0.out.in_)) (And.intro (bk_two (K1.out.keep (le_call H5.out hz) K1.out.in_)) (And.intro (show z.cell? ⟨gk, u, none⟩ = some (.int .i64 (y1 : Int)) from (own1 (O5.out.below hz (Nat.le_refl _)) (k := u) hun).trans (by rw [HKU.out])) (show z.cell? ⟨gk, v, none⟩ = some (.int .i64 (y2 : Int)) from (own1 (O5.out.below hz (Nat.le_refl _)) (k := v) hvn).trans (by rw [HKV.out])))))
        have d1 := hide (show Below w5.heap.size w5 w5.drew from below_drewN (Below.refl _ _) 1)
        have s0 := HSS.out _ d1.out
        clear ku kv
        go_wp2_with fail
        refine wp_region_held_drew (S := (fun z => z.cell? ⟨w.heap.size, 0, none⟩ = some (.slice A n c) ∧ z.cell? ⟨w.heap.size, 1, none⟩ = some (.slice A' n' c') ∧ z.cell? ⟨w.heap.size + 1, 0, none⟩ = some (.int .i64 (u : Int)) ∧ z.cell? ⟨w.heap.size + 1, 1, none⟩ = some (.int .i64 (v : Int)) ∧ z.cell? ⟨gk, u, none⟩ = some (.int .i64 (y1 : Int)) ∧ z.cell? ⟨gk, v, none⟩ = some (.int .i64 (y2 : Int)))) (by kernel_rfl) ?_ (fun hHeld => ?_)
        · exact ⟨s0.1.1, s0.1.2, s0.2.1.1, s0.2.1.2, s0.2.2.1, s0.2.2.2⟩
        refine wpAnyH_take (i := 0) (oi := { dst := some 58, op := Op.move (Operand.tmp 12), type := 28, pos := "law.go:160", after := #[], guard := none }) (v := ?_) rfl (by kernel_rfl) (by kernel_rfl) (by kernel_rfl) (fun _ _ _ h => h) (Or.inl ⟨by rfl, ?_⟩) (by assumption) ?_
        rotate_left
        · intro w hSw
          (try dsimp only at hSw)
          first | (go_simp; done) | (go_simp; with_reducible rfl)
        try simp only [Act.put, List.setIfInBounds_toArray, List.set_cons_zero, List.set_cons_succ]
        refine wpAnyH_take (i := 1) (oi := { dst := some 59, op := Op.binOp BinOp.eql 28 (Operand.tmp 58) (Operand.const (Value.int IntKind.i64 0)) 28, type := 4, pos := "law.go:160", after := #[{ on := 0, ground := Ground.data }], guard := none }) (v := ?_) rfl (by kernel_rfl) (by kernel_rfl) (by kernel_rfl) (fun _ _ _ h => h) (Or.inl ⟨by rfl, ?_⟩) (by assumption) ?_
        rotate_left
        · intro w hSw
          (try dsimp only at hSw)
          first | (go_simp; done) | (go_simp; with_reducible rfl)
        try simp only [Act.put, List.setIfInBounds_toArray, List.set_cons_zero, List.set_cons_succ]
        refine wpAnyH_take (i := 2) (oi := { dst := some 60, op := Op.move (Operand.tmp 59), type := 4, pos := "law.go:160", after := #[{ on := 1, ground := Ground.data }], guard := none }) (v := ?_) rfl (by kernel_rfl) (by kernel_rfl) (by kernel_rfl) (fun _ _ _ h => h) (Or.inl ⟨by rfl, ?_⟩) (by assumption) ?_
        rotate_left
        · intro w hSw
          (try dsimp only at hSw)
          first | (go_simp; done) | (go_simp; with_reducible rfl)
        try simp only [Act.put, List.setIfInBounds_toArray, List.set_cons_zero, List.set_cons_succ]
        refine wpAnyH_take (i := 3) (oi := { dst := some 61, op := Op.move (Operand.tmp 11), type := 23, pos := "law.go:160", after := #[{ on := 2, ground := Ground.guard }], guard := some (2, true) }) (v := ?_) rfl (by kernel_rfl) (by kernel_rfl) (by kernel_rfl) (fun _ _ _ h => h) (Or.inl ⟨by rfl, ?_⟩) (by assumption) ?_
        rotate_left
        · intro w hSw
          (try dsimp only at hSw)
          first | (go_simp; done) | (go_simp; with_reducible rfl)
        try simp only [Act.put, List.setIfInBounds_toArray, List.set_cons_zero, List.set_cons_succ]
        refine wpAnyH_take (i := 4) (oi := { dst := some 62, op := Op.call { callee := Callee.builtin Builtin.len, args := #[Operand.tmp 61], argTypes := #[23] }, type := 3, pos := "law.go:160", after := #[{ on := 3, ground := Ground.data }, { on := 2, ground := Ground.guard }], guard := some (2, true) }) (v := ?_) rfl (by kernel_rfl) (by kernel_rfl) (by kernel_rfl) (fun _ _ _ h => h) (Or.inl ⟨by rfl, ?_⟩) (by assumption) ?_
        rotate_left
        · intro w hSw
          (try dsimp only at hSw)
          first | (go_simp; done) | (go_simp; with_reducible rfl)
        try simp only [Act.put, List.setIfInBounds_toArray, List.set_cons_zero, List.set_cons_succ]
        refine wpAnyH_take (i := 5) (oi := { dst := some 63, op := Op.fieldAddr 25 (Operand.tmp 2) 1, type := 0, pos := "law.go:160", after := #[{ on := 2, ground := Ground.guard }], guard := some (2, true) }) (v := ?_) rfl (by kernel_rfl) (by kernel_rfl) (by kernel_rfl) (fun _ _ _ h => h) (Or.inl ⟨by rfl, ?_⟩) (by assumption) ?_
        rotate_left
        · intro w hSw
          (try dsimp only at hSw)
          first | (go_simp; done) | (go_simp; with_reducible rfl)
        try simp only [Act.put, List.setIfInBounds_toArray, List.set_cons_zero, List.set_cons_succ]
        refine wpAnyH_take (i := 6) (oi := { dst := some 64, op := Op.load 23 (Operand.tmp 63), type := 23, pos := "law.go:160", after := #[{ on := 5, ground := Ground.data }, { on := 2, ground := Ground.guard }], guard := some (2, true) }) (v := ?_) rfl (by kernel_rfl) (by kernel_rfl) (by kernel_rfl) (fun _ _ _ h => h) (Or.inl ⟨by rfl, ?_⟩) (by assumption) ?_
        rotate_left
        · intro w hSw
          (try dsimp only at hSw)
          first | (go_simp; done) | (go_simp; with_reducible rfl)
        try simp only [Act.put, List.setIfInBounds_toArray, List.set_cons_zero, List.set_cons_succ]
        refine wpAnyH_take (i := 7) (oi := { dst := some 65, op := Op.call { callee := Callee.builtin Builtin.len, args := #[Operand.tmp 64], argTypes := #[23] }, type := 3, pos := "law.go:160", after := #[{ on := 6, ground := Ground.data }, { on := 2, ground := Ground.guard }], guard := some (2, true) }) (v := ?_) rfl (by kernel_rfl) (by kernel_rfl) (by kernel_rfl) (fun _ _ _ h => h) (Or.inl ⟨by rfl, ?_⟩) (by assumption) ?_
        rotate_left
        · intro w hSw
          (try dsimp only at hSw)
          first | (go_simp; done) | (go_simp; with_reducible rfl)
        try simp only [Act.put, List.setIfInBounds_toArray, List.set_cons_zero, List.set_cons_succ]
        refine wpAnyH_take (i := 8) (oi := { dst := some 66, op := Op.binOp BinOp.eql 3 (Operand.tmp 62) (Operand.tmp 65) 3, type := 4, pos := "law.go:160", after := #[{ on := 4, ground := Ground.data }, { on := 7, ground := Ground.data }, { on := 2, ground := Ground.guard }], guard := some (2, true) }) (v := ?_) rfl (by kernel_rfl) (by kernel_rfl) (by kernel_rfl) (fun _ _ _ h => h) (Or.inl ⟨by rfl, ?_⟩) (by assumption) ?_
        rotate_left
        · intro w hSw
          (try dsimp only at hSw)
          first | (go_simp; done) | (go_simp; with_reducible rfl)
        try simp only [Act.put, List.setIfInBounds_toArray, List.set_cons_zero, List.set_cons_succ]
        refine wpAnyH_take (i := 9) (oi := { dst := some 67, op := Op.pick (Operand.tmp 60) (Operand.tmp 66) (Operand.const (Value.bool false)), type := 4, pos := "law.go:160", after := #[{ on := 2, ground := Ground.data }, { on := 8, ground := Ground.data }], guard := none }) (v := ?_) rfl (by kernel_rfl) (by kernel_rfl) (by kernel_rfl) (fun _ _ _ h => h) (Or.inl ⟨by rfl, ?_⟩) (by assumption) ?_
        rotate_left
        · intro w hSw
          (try dsimp only at hSw)
          first | (go_simp; done) | (go_simp; with_reducible rfl)
        try simp only [Act.put, List.setIfInBounds_toArray, List.set_cons_zero, List.set_cons_succ]
        refine wpAnyH_take (i := 10) (oi := { dst := some 68, op := Op.move (Operand.tmp 67), type := 4, pos := "law.go:160", after := #[{ on := 9, ground := Ground.data }, { on := 2, ground := Ground.chain }], guard := none }) (v := ?_) rfl (by kernel_rfl) (by kernel_rfl) (by kernel_rfl) (fun _ _ _ h => h) (Or.inl ⟨by rfl, ?_⟩) (by assumption) ?_
        rotate_left
        · intro w hSw
          (try dsimp only at hSw)
          first | (go_simp; done) | (go_simp; with_reducible rfl)
        try simp only [Act.put, List.setIfInBounds_toArray, List.set_cons_zero, List.set_cons_succ]
        refine wpAnyH_take (i := 11) (oi := { dst := some 69, op := Op.move (Operand.tmp 6), type := 4, pos := "law.go:160", after := #[{ on := 10, ground := Ground.guard }], guard := some (10, true) }) (v := ?_) rfl (by kernel_rfl) (by kernel_rfl) (by kernel_rfl) (fun _ _ _ h => h) (Or.inl ⟨by rfl, ?_⟩) (by assumption) ?_
        rotate_left
        · intro w hSw
          (try dsimp only at hSw)
          first | (go_simp; done) | (go_simp; with_reducible rfl)
        try simp only [Act.put, List.setIfInBounds_toArray, List.set_cons_zero, List.set_cons_succ]
        refine wpAnyH_take (i := 12) (oi := { dst := some 70, op := Op.move (Operand.tmp 11), type := 23, pos := "law.go:160", after := #[{ on := 10, ground := Ground.guard }], guard := some (10, true) }) (v := ?_) rfl (by kernel_rfl) (by kernel_rfl) (by kernel_rfl) (fun _ _ _ h => h) (Or.inl ⟨by rfl, ?_⟩) (by assumption) ?_
        rotate_left
        · intro w hSw
          (try dsimp only at hSw)
          first | (go_simp; done) | (go_simp; with_reducible rfl)
        try simp only [Act.put, List.setIfInBounds_toArray, List.set_cons_zero, List.set_cons_succ]
        refine wpAnyH_take (i := 13) (oi := { dst := some 71, op := Op.fieldAddr 49 (Operand.tmp 3) 0, type := 0, pos := "law.go:160", after := #[{ on := 10, ground := Ground.guard }], guard := some (10, true) }) (v := ?_) rfl (by kernel_rfl) (by kernel_rfl) (by kernel_rfl) (fun _ _ _ h => h) (Or.inl ⟨by rfl, ?_⟩) (by assumption) ?_
        rotate_left
        · intro w hSw
          (try dsimp only at hSw)
          first | (go_simp; done) | (go_simp; with_reducible rfl)
        try simp only [Act.put, List.setIfInBounds_toArray, List.set_cons_zero, List.set_cons_succ]
        refine wpAnyH_take (i := 14) (oi := { dst := some 72, op := Op.load 3 (Operand.tmp 71), type := 3, pos := "law.go:160", after := #[{ on := 13, ground := Ground.data }, { on := 10, ground := Ground.guard }], guard := some (10, true) }) (v := ?_) rfl (by kernel_rfl) (by kernel_rfl) (by kernel_rfl) (fun _ _ _ h => h) (Or.inl ⟨by rfl, ?_⟩) (by assumption) ?_
        rotate_left
        · intro w hSw
          (try dsimp only at hSw)
          first | (go_simp; done) | (go_simp; with_reducible rfl)
        try simp only [Act.put, List.setIfInBounds_toArray, List.set_cons_zero, List.set_cons_succ]
        refine wpAnyH_take (i := 15) (oi := { dst := some 73, op := Op.indexAddr 23 (Operand.tmp 70) (Operand.tmp 72), type := 0, pos := "law.go:160", after := #[{ on := 12, ground := Ground.data }, { on := 14, ground := Ground.data }, { on := 10, ground := Ground.guard }], guard := some (10, true) }) (v := ?_) rfl (by kernel_rfl) (by kernel_rfl) (by kernel_rfl) (fun _ _ _ h => h) (Or.inl ⟨by rfl, ?_⟩) (by assumption) ?_
        rotate_left
        · intro w hSw
          (try dsimp only at hSw)
          first | (go_simp; done) | (go_simp; with_reducible rfl)
        try simp only [Act.put, List.setIfInBounds_toArray, List.set_cons_zero, List.set_cons_succ]
        refine wpAnyH_take (i := 16) (oi := { dst := some 74, op := Op.load 3 (Operand.tmp 73), type := 3, pos := "law.go:160", after := #[{ on := 15, ground := Ground.data }, { on := 10, ground := Ground.guard }], guard := some (10, true) }) (v := ?_) rfl (by kernel_rfl) (by kernel_rfl) (by kernel_rfl) (fun _ _ _ h => h) (Or.inl ⟨by rfl, ?_⟩) (by assumption) ?_
        rotate_left
        · intro w hSw
          (try dsimp only at hSw)
          first | (go_simp; done) | (go_simp; with_reducible rfl)
        try simp only [Act.put, List.setIfInBounds_toArray, List.set_cons_zero, List.set_cons_succ]
        refine wpAnyH_take (i := 17) (oi := { dst := some 75, op := Op.move (Operand.tmp 11), type := 23, pos := "law.go:160", after := #[{ on := 10, ground := Ground.guard }], guard := some (10, true) }) (v := ?_) rfl (by kernel_rfl) (by kernel_rfl) (by kernel_rfl) (fun _ _ _ h => h) (Or.inl ⟨by rfl, ?_⟩) (by assumption) ?_
        rotate_left
        · intro w hSw
          (try dsimp only at hSw)
          first | (go_simp; done) | (go_simp; with_reducible rfl)
        try simp only [Act.put, List.setIfInBounds_toArray, List.set_cons_zero, List.set_cons_succ]
        refine wpAnyH_take (i := 18) (oi := { dst := some 76, op := Op.fieldAddr 49 (Operand.tmp 3) 1, type := 0, pos := "law.go:160", after := #[{ on := 10, ground := Ground.guard }], guard := some (10, true) }) (v := ?_) rfl (by kernel_rfl) (by kernel_rfl) (by kernel_rfl) (fun _ _ _ h => h) (Or.inl ⟨by rfl, ?_⟩) (by assumption) ?_
        rotate_left
        · intro w hSw
          (try dsimp only at hSw)
          first | (go_simp; done) | (go_simp; with_reducible rfl)
        try simp only [Act.put, List.setIfInBounds_toArray, List.set_cons_zero, List.set_cons_succ]
        refine wpAnyH_take (i := 19) (oi := { dst := some 77, op := Op.load 3 (Operand.tmp 76), type := 3, pos := "law.go:160", after := #[{ on := 18, ground := Ground.data }, { on := 10, ground := Ground.guard }], guard := some (10, true) }) (v := ?_) rfl (by kernel_rfl) (by kernel_rfl) (by kernel_rfl) (fun _ _ _ h => h) (Or.inl ⟨by rfl, ?_⟩) (by assumption) ?_
        rotate_left
        · intro w hSw
          (try dsimp only at hSw)
          first | (go_simp; done) | (go_simp; with_reducible rfl)
        try simp only [Act.put, List.setIfInBounds_toArray, List.set_cons_zero, List.set_cons_succ]
        refine wpAnyH_take (i := 20) (oi := { dst := some 78, op := Op.indexAddr 23 (Operand.tmp 75) (Operand.tmp 77), type := 0, pos := "law.go:160", after := #[{ on := 17, ground := Ground.data }, { on := 19, ground := Ground.data }, { on := 10, ground := Ground.guard }], guard := some (10, true) }) (v := ?_) rfl (by kernel_rfl) (by kernel_rfl) (by kernel_rfl) (fun _ _ _ h => h) (Or.inl ⟨by rfl, ?_⟩) (by assumption) ?_
        rotate_left
        · intro w hSw
          (try dsimp only at hSw)
          first | (go_simp; done) | (go_simp; with_reducible rfl)
        try simp only [Act.put, List.setIfInBounds_toArray, List.set_cons_zero, List.set_cons_succ]
        refine wpAnyH_take (i := 21) (oi := { dst := some 79, op := Op.load 3 (Operand.tmp 78), type := 3, pos := "law.go:160", after := #[{ on := 20, ground := Ground.data }, { on := 10, ground := Ground.guard }], guard := some (10, true) }) (v := ?_) rfl (by kernel_rfl) (by kernel_rfl) (by kernel_rfl) (fun _ _ _ h => h) (Or.inl ⟨by rfl, ?_⟩) (by assumption) ?_
        rotate_left
        · intro w hSw
          (try dsimp only at hSw)
          first | (go_simp; done) | (go_simp; with_reducible rfl)
        try simp only [Act.put, List.setIfInBounds_toArray, List.set_cons_zero, List.set_cons_succ]
        refine wpAnyH_take (i := 22) (oi := { dst := some 80, op := Op.binOp BinOp.neq 3 (Operand.tmp 74) (Operand.tmp 79) 3, type := 4, pos := "law.go:160", after := #[{ on := 16, ground := Ground.data }, { on := 21, ground := Ground.data }, { on := 10, ground := Ground.guard }], guard := some (10, true) }) (v := ?_) rfl (by kernel_rfl) (by kernel_rfl) (by kernel_rfl) (fun _ _ _ h => h) (Or.inl ⟨by rfl, ?_⟩) (by assumption) ?_
        rotate_left
        · intro w hSw
          (try dsimp only at hSw)
          first | (go_simp; done) | (go_simp; with_reducible rfl)
        try simp only [Act.put, List.setIfInBounds_toArray, List.set_cons_zero, List.set_cons_succ]
        refine wpAnyH_take (i := 23) (oi := { dst := some 81, op := Op.binOp BinOp.eql 4 (Operand.tmp 69) (Operand.tmp 80) 4, type := 4, pos := "law.go:160", after := #[{ on := 11, ground := Ground.data }, { on := 22, ground := Ground.data }, { on := 10, ground := Ground.guard }], guard := some (10, true) }) (v := ?_) rfl (by kernel_rfl) (by kernel_rfl) (by kernel_rfl) (fun _ _ _ h => h) (Or.inl ⟨by rfl, ?_⟩) (by assumption) ?_
        rotate_left
        · intro w hSw
          (try dsimp only at hSw)
          first | (go_simp; done) | (go_simp; with_reducible rfl)
        try simp only [Act.put, List.setIfInBounds_toArray, List.set_cons_zero, List.set_cons_succ]
        refine wpAnyH_take (i := 24) (oi := { dst := some 82, op := Op.pick (Operand.tmp 68) (Operand.tmp 81) (Operand.const (Value.bool false)), type := 4, pos := "law.go:160", after := #[{ on := 10, ground := Ground.data }, { on := 23, ground := Ground.data }], guard := none }) (v := ?_) rfl (by kernel_rfl) (by kernel_rfl) (by kernel_rfl) (fun _ _ _ h => h) (Or.inl ⟨by rfl, ?_⟩) (by assumption) ?_
        rotate_left
        · intro w hSw
          (try dsimp only at hSw)
          first | (go_simp; done) | (go_simp; with_reducible rfl)
        try simp only [Act.put, List.setIfInBounds_toArray, List.set_cons_zero, List.set_cons_succ]
        refine wpAnyH_take (i := 25) (oi := { dst := some 83, op := Op.move (Operand.tmp 82), type := 4, pos := "law.go:160", after := #[{ on := 24, ground := Ground.data }, { on := 10, ground := Ground.chain }], guard := none }) (v := ?_) rfl (by kernel_rfl) (by kernel_rfl) (by kernel_rfl) (fun _ _ _ h => h) (Or.inl ⟨by rfl, ?_⟩) (by assumption) ?_
        rotate_left
        · intro w hSw
          (try dsimp only at hSw)
          first | (go_simp; done) | (go_simp; with_reducible rfl)
        try simp only [Act.put, List.setIfInBounds_toArray, List.set_cons_zero, List.set_cons_succ]
        refine wpAnyH_take (i := 26) (oi := { dst := some 84, op := Op.move (Operand.tmp 6), type := 4, pos := "law.go:160", after := #[{ on := 25, ground := Ground.guard }], guard := some (25, true) }) (v := ?_) rfl (by kernel_rfl) (by kernel_rfl) (by kernel_rfl) (fun _ _ _ h => h) (Or.inl ⟨by rfl, ?_⟩) (by assumption) ?_
        rotate_left
        · intro w hSw
          (try dsimp only at hSw)
          first | (go_simp; done) | (go_simp; with_reducible rfl)
        try simp only [Act.put, List.setIfInBounds_toArray, List.set_cons_zero, List.set_cons_succ]
        refine wpAnyH_take (i := 27) (oi := { dst := some 85, op := Op.unOp UnOp.not 4 (Operand.tmp 84), type := 4, pos := "law.go:160", after := #[{ on := 26, ground := Ground.data }, { on := 25, ground := Ground.guard }], guard := some (25, true) }) (v := ?_) rfl (by kernel_rfl) (by kernel_rfl) (by kernel_rfl) (fun _ _ _ h => h) (Or.inl ⟨by rfl, ?_⟩) (by assumption) ?_
        rotate_left
        · intro w hSw
          (try dsimp only at hSw)
          first | (go_simp; done) | (go_simp; with_reducible rfl)
        try simp only [Act.put, List.setIfInBounds_toArray, List.set_cons_zero, List.set_cons_succ]
        refine wpAnyH_take (i := 28) (oi := { dst := some 86, op := Op.move (Operand.tmp 85), type := 4, pos := "law.go:160", after := #[{ on := 27, ground := Ground.data }, { on := 25, ground := Ground.chain }, { on := 25, ground := Ground.guard }], guard := some (25, true) }) (v := ?_) rfl (by kernel_rfl) (by kernel_rfl) (by kernel_rfl) (fun _ _ _ h => h) (Or.inl ⟨by rfl, ?_⟩) (by assumption) ?_
        rotate_left
        · intro w hSw
          (try dsimp only at hSw)
          first | (go_simp; done) | (go_simp; with_reducible rfl)
        try simp only [Act.put, List.setIfInBounds_toArray, List.set_cons_zero, List.set_cons_succ]
        refine wpAnyH_take (i := 29) (oi := { dst := some 87, op := Op.move (Operand.tmp 5), type := 23, pos := "law.go:160", after := #[{ on := 28, ground := Ground.guard }], guard := some (28, false) }) (v := _) rfl (by kernel_rfl) (by kernel_rfl) (by kernel_rfl) (fun _ _ _ h => h) (Or.inr ⟨by rfl, rfl⟩) (by assumption) ?_
        try simp only [Act.put, List.setIfInBounds_toArray, List.set_cons_zero, List.set_cons_succ]
        refine wpAnyH_take (i := 30) (oi := { dst := some 88, op := Op.call { callee := Callee.builtin Builtin.len, args := #[Operand.tmp 87], argTypes := #[23] }, type := 3, pos := "law.go:160", after := #[{ on := 29, ground := Ground.data }, { on := 28, ground := Ground.guard }], guard := some (28, false) }) (v := _) rfl (by kernel_rfl) (by kernel_rfl) (by kernel_rfl) (fun _ _ _ h => h) (Or.inr ⟨by rfl, rfl⟩) (by assumption) ?_
        try simp only [Act.put, List.setIfInBounds_toArray, List.set_cons_zero, List.set_cons_succ]
        refine wpAnyH_take (i := 31) (oi := { dst := some 89, op := Op.fieldAddr 25 (Operand.tmp 2) 1, type := 0, pos := "law.go:160", after := #[{ on := 28, ground := Ground.guard }], guard := some (28, false) }) (v := _) rfl (by kernel_rfl) (by kernel_rfl) (by kernel_rfl) (fun _ _ _ h => h) (Or.inr ⟨by rfl, rfl⟩) (by assumption) ?_
        try simp only [Act.put, List.setIfInBounds_toArray, List.set_cons_zero, List.set_cons_succ]
        refine wpAnyH_take (i := 32) (oi := { dst := some 90, op := Op.load 23 (Operand.tmp 89), type := 23, pos := "law.go:160", after := #[{ on := 31, ground := Ground.data }, { on := 28, ground := Ground.guard }], guard := some (28, false) }) (v := _) rfl (by kernel_rfl) (by kernel_rfl) (by kernel_rfl) (fun _ _ _ h => h) (Or.inr ⟨by rfl, rfl⟩) (by assumption) ?_
        try simp only [Act.put, List.setIfInBounds_toArray, List.set_cons_zero, List.set_cons_succ]
        refine wpAnyH_take (i := 33) (oi := { dst := some 91, op := Op.call { callee := Callee.builtin Builtin.len, args := #[Operand.tmp 90], argTypes := #[23] }, type := 3, pos := "law.go:160", after := #[{ on := 32, ground := Ground.data }, { on := 28, ground := Ground.guard }], guard := some (28, false) }) (v := _) rfl (by kernel_rfl) (by kernel_rfl) (by kernel_rfl) (fun _ _ _ h => h) (Or.inr ⟨by rfl, rfl⟩) (by assumption) ?_
        try simp only [Act.put, List.setIfInBounds_toArray, List.set_cons_zero, List.set_cons_succ]
        refine wpAnyH_take (i := 34) (oi := { dst := some 92, op := Op.binOp BinOp.lss 3 (Operand.tmp 88) (Operand.tmp 91) 3, type := 4, pos := "law.go:160", after := #[{ on := 30, ground := Ground.data }, { on := 33, ground := Ground.data }, { on := 28, ground := Ground.guard }], guard := some (28, false) }) (v := _) rfl (by kernel_rfl) (by kernel_rfl) (by kernel_rfl) (fun _ _ _ h => h) (Or.inr ⟨by rfl, rfl⟩) (by assumption) ?_
        try simp only [Act.put, List.setIfInBounds_toArray, List.set_cons_zero, List.set_cons_succ]
        refine wpAnyH_take (i := 35) (oi := { dst := some 93, op := Op.pick (Operand.tmp 86) (Operand.const (Value.bool true)) (Operand.tmp 92), type := 4, pos := "law.go:160", after := #[{ on := 28, ground := Ground.data }, { on := 34, ground := Ground.data }, { on := 25, ground := Ground.guard }], guard := some (25, true) }) (v := ?_) rfl (by kernel_rfl) (by kernel_rfl) (by kernel_rfl) (fun _ _ _ h => h) (Or.inl ⟨by rfl, ?_⟩) (by assumption) ?_
        rotate_left
        · intro w hSw
          (try dsimp only at hSw)
          first | (go_simp; done) | (go_simp; with_reducible rfl)
        try simp only [Act.put, List.setIfInBounds_toArray, List.set_cons_zero, List.set_cons_succ]
        refine wpAnyH_take (i := 36) (oi := { dst := some 94, op := Op.pick (Operand.tmp 83) (Operand.tmp 93) (Operand.const (Value.bool false)), type := 4, pos := "law.go:160", after := #[{ on := 25, ground := Ground.data }, { on := 35, ground := Ground.data }], guard := none }) (v := ?_) rfl (by kernel_rfl) (by kernel_rfl) (by kernel_rfl) (fun _ _ _ h => h) (Or.inl ⟨by rfl, ?_⟩) (by assumption) ?_
        rotate_left
        · intro w hSw
          (try dsimp only at hSw)
          first | (go_simp; done) | (go_simp; with_reducible rfl)
        try simp only [Act.put, List.setIfInBounds_toArray, List.set_cons_zero, List.set_cons_succ]
        refine wpAnyH_take (i := 37) (oi := { dst := some 95, op := Op.move (Operand.tmp 94), type := 4, pos := "law.go:160", after := #[{ on := 36, ground := Ground.data }, { on := 28, ground := Ground.chain }], guard := none }) (v := ?_) rfl (by kernel_rfl) (by kernel_rfl) (by kernel_rfl) (fun _ _ _ h => h) (Or.inl ⟨by rfl, ?_⟩) (by assumption) ?_
        rotate_left
        · intro w hSw
          (try dsimp only at hSw)
          first | (go_simp; done) | (go_simp; with_reducible rfl)
        try simp only [Act.put, List.setIfInBounds_toArray, List.set_cons_zero, List.set_cons_succ]
        refine wpAnyH_ready (rs := [38]) (by kernel_rfl) (by simp) ?_
        refine AllReadyH.cons (o := { dst := some 96, op := Op.call { callee := Callee.value (Operand.func 20), args := #[], argTypes := #[] }, type := 4, pos := "law.go:160", after := #[{ on := 37, ground := Ground.chain }, { on := 37, ground := Ground.guard }], guard := some (37, true) }) rfl (fun K hK => ?_) AllReadyH.nil
        rw [if_pos (by rfl)]
        go_simp
        go_at_call 20
        refine (sane_any _).mono ?_
        rintro e9 w9 ⟨rfl, b9⟩
        have B9 := hide (le_call d1.out b9)
        have S9 := hide (show (_ ∧ _ ∧ _ ∧ _ ∧ _ ∧ _) from ⟨(HSS.out w9 B9.out).1.1, (HSS.out w9 B9.out).1.2, (HSS.out w9 B9.out).2.1.1, (HSS.out w9 B9.out).2.1.2, (HSS.out w9 B9.out).2.2.1, (HSS.out w9 B9.out).2.2.2⟩)
        clear b9
        first | refine hK.out _ _ ?_ (fun hHeld => ?_) | (go_wp2_with fail; refine hK.out _ _ ?_ (fun hHeld => ?_))
        · exact S9.out
        clear hK K
        try simp only [Act.put, List.setIfInBounds_toArray, List.set_cons_zero, List.set_cons_succ]
        refine wpAnyH_take (i := 39) (oi := { dst := some 97, op := Op.pick (Operand.tmp 95) (Operand.tmp 96) (Operand.const (Value.bool false)), type := 4, pos := "law.go:160", after := #[{ on := 37, ground := Ground.data }, { on := 38, ground := Ground.data }], guard := none }) (v := ?_) rfl (by kernel_rfl) (by kernel_rfl) (by kernel_rfl) (fun _ _ _ h => h) (Or.inl ⟨by rfl, ?_⟩) (by assumption) ?_
        rotate_left
        · intro w hSw
          (try dsimp only at hSw)
          first | (go_simp; done) | (go_simp; with_reducible rfl)
        try simp only [Act.put, List.setIfInBounds_toArray, List.set_cons_zero, List.set_cons_succ]
        refine wpAnyH_take (i := 40) (oi := { dst := some 4, op := Op.assign (Operand.tmp 97), type := 4, pos := "law.go:160", after := #[{ on := 39, ground := Ground.data }, { on := 38, ground := Ground.chain }, { on := 0, ground := Ground.phase }, { on := 1, ground := Ground.phase }, { on := 2, ground := Ground.phase }, { on := 3, ground := Ground.phase }, { on := 4, ground := Ground.phase }, { on := 5, ground := Ground.phase }, { on := 6, ground := Ground.phase }, { on := 7, ground := Ground.phase }, { on := 8, ground := Ground.phase }, { on := 9, ground := Ground.phase }, { on := 10, ground := Ground.phase }, { on := 11, ground := Ground.phase }, { on := 12, ground := Ground.phase }, { on := 13, ground := Ground.phase }, { on := 14, ground := Ground.phase }, { on := 15, ground := Ground.phase }, { on := 16, ground := Ground.phase }, { on := 17, ground := Ground.phase }, { on := 18, ground := Ground.phase }, { on := 19, ground := Ground.phase }, { on := 20, ground := Ground.phase }, { on := 21, ground := Ground.phase }, { on := 22, ground := Ground.phase }, { on := 23, ground := Ground.phase }, { on := 24, ground := Ground.phase }, { on := 25, ground := Ground.phase }, { on := 26, ground := Ground.phase }, { on := 27, ground := Ground.phase }, { on := 28, ground := Ground.phase }, { on := 29, ground := Ground.phase }, { on := 30, ground := Ground.phase }, { on := 31, ground := Ground.phase }, { on := 32, ground := Ground.phase }, { on := 33, ground := Ground.phase }, { on := 34, ground := Ground.phase }, { on := 35, ground := Ground.phase }, { on := 36, ground := Ground.phase }, { on := 37, ground := Ground.phase }, { on := 38, ground := Ground.phase }, { on := 39, ground := Ground.phase }], guard := none }) (v := ?_) rfl (by kernel_rfl) (by kernel_rfl) (by kernel_rfl) (fun _ _ _ h => h) (Or.inl ⟨by rfl, ?_⟩) (by assumption) ?_
        rotate_left
        · intro w hSw
          (try dsimp only at hSw)
          first | (go_simp; done) | (go_simp; with_reducible rfl)
        try simp only [Act.put, List.setIfInBounds_toArray, List.set_cons_zero, List.set_cons_succ]
        refine wpAnyH_done (by kernel_rfl) ?_ _
        all_goals
          go_wp2_with fail
          go_ret
          exact ⟨rfl, le_call (le_call D0.out H5.out) B9.out⟩
      | some z =>
        have HT := hide (HTF.out.trans ht)
        have hkk : ¬ (((kindsV b).getD u 0 : Nat) : Int) = (((kindsV b).getD v 0 : Nat) : Int) := fun e => by have := HKT.out.1 e; rw [this] at ht; cases ht
        have hkb : ((((kindsV b).getD u 0 : Nat) : Int) != (((kindsV b).getD v 0 : Nat) : Int)) = true := bne_iff_ne.2 hkk
        have hzl : (z.length : Int) < (n' : Int) := by have := HUB.out z ht; omega
        have HTL := hide (show z.length ≤ 50 from by have h := HTL.out; rw [HT.out] at h; exact h)
        clear hkk
        clear ht
        go_enter Try.func10, Try.ntmps10
        go_upto_region 10 with (first
          | (have hgd := H4; clear hgd; go_at_call 32; refine (Kinds_any A n c A' n' c' b _ (HB.out.below H4.out (Nat.le_refl _))).mono ?_; rw [HKF.out, HX.out]; rintro e5 w5 ⟨A5, n5, c5, rfl, o5, b5⟩; have H5 := hide (le_call H4.out b5); have R2_5 := hide (le_call R2_4.out b5); have R3_5 := hide (le_call R3_4.out b5); have f0_5 := bk_two (K0.out.keep H5.out K0.out.in_); have f1a_5 := bk_two (K1.out.keep H5.out K1.out.in_); have O5 := hide o5; obtain rfl : n' = n5 := HKL.out.symm.trans o5.len; have R5_5 := hide (Below.refl w5.heap.size w5); clear o5; clear b5)
          | (have hgd := H3; clear hgd; go_at_call 27; refine (SameInts_any A2 z.length c2 A3 n3 c3 z z _ (O2.out.row.below R2_3.out (Nat.le_refl _)) O3.out.row (by have h1 := LN2.out; have h2 := HTL.out; (try simp only [Option.getD_some] at h1); omega) (by have h1 := LN3.out; have h2 := HTL.out; (try simp only [Option.getD_some] at h1); omega)).mono ?_; rintro e4 w4 ⟨rfl, qq, hqq⟩; have b4 := (show Below w3.heap.size w3 w4 from (by rw [hqq]; exact below_drewN (Below.refl _ _) qq)); clear hqq; rw [beq_self_eq_true]; have H4 := hide (le_call H3.out b4); have R2_4 := hide (le_call R2_3.out b4); have R3_4 := hide (le_call R3_3.out b4); have f0_4 := bk_two (K0.out.keep H4.out K0.out.in_); have f1a_4 := bk_two (K1.out.keep H4.out K1.out.in_); clear b4)
          | (have hgd := H2; clear hgd; go_at_call 42; refine (rTellStates_any A n c A' n' c' b (u : Int) (v : Int) _ (HB.out.below H2.out (Nat.le_refl _))).mono ?_; rw [HT.out]; rintro e3 w3 ⟨A3, n3, c3, rfl, o3, b3⟩; have H3 := hide (le_call H2.out b3); have R2_3 := hide (le_call R2_2.out b3); have f0_3 := bk_two (K0.out.keep H3.out K0.out.in_); have f1a_3 := bk_two (K1.out.keep H3.out K1.out.in_); have O3 := hide o3; have LN3 := hide o3.len; have R3_3 := hide (Below.refl w3.heap.size w3); clear o3; clear b3)
          | (have hgd := H1; clear hgd; go_at_call 41; refine (TellStates_any A n c A' n' c' b (u : Int) (v : Int) _ (HB.out.below H1.out (Nat.le_refl _))).mono ?_; rw [HT.out]; rintro e2 w2 ⟨A2, n2, c2, rfl, o2, b2⟩; have H2 := hide (le_call H1.out b2); have f0_2 := bk_two (K0.out.keep H2.out K0.out.in_); have f1a_2 := bk_two (K1.out.keep H2.out K1.out.in_); have O2 := hide o2; have LN2 := hide o2.len; obtain rfl : z.length = n2 := o2.len; have R2_2 := hide (Below.refl w2.heap.size w2); clear o2; clear b2)
          | (have hgd := H0; clear hgd; go_at_call 19; refine (Long_any A n c A' n' c' none 0 0 [] _ (R.nil EH _) hle hle').mono ?_; rintro e1 w1 ⟨rfl, b1⟩; rw [HLG.out]; have H1 := hide (le_call H0.out b1); have f0_1 := bk_two (K0.out.keep H1.out K0.out.in_); have f1a_1 := bk_two (K1.out.keep H1.out K1.out.in_); clear b1))
        obtain ⟨gk, rfl, _⟩ := O5.out.addr (by omega)
        have ku := own1 O5.out (k := u) hun
        have kv := own1 O5.out (k := v) hvn
        rw [HKU.out] at ku
        rw [HKV.out] at kv
        generalize (kindsV b).getD u 0 = y1 at *
        generalize (kindsV b).getD v 0 = y2 at *
        have HSS := hide (fun z (hz : Below w5.heap.size w5 z) => And.intro (bk_two (K0.out.keep (le_call H5.out hz) K0.out.in_)) (And.intro (bk_two (K1.out.keep (le_call H5.out hz) K1.out.in_)) (And.intro (show z.cell? ⟨gk, u, none⟩ = some (.int .i64 (y1 : Int)) from (own1 (O5.out.below hz (Nat.le_refl _)) (k := u) hun).trans (by rw [HKU.out])) (show z.cell? ⟨gk, v, none⟩ = some (.int .i64 (y2 : Int)) from (own1 (O5.out.below hz (Nat.le_refl _)) (k := v) hvn).trans (by rw [HKV.out])))))
        have d1 := hide (show Below w5.heap.size w5 w5.drew from below_drewN (Below.refl _ _) 1)
        have s0 := HSS.out _ d1.out
        clear ku kv
        go_wp2_with fail
        go_region_held_law (fun z => z.cell? ⟨w.heap.size, 0, none⟩ = some (.slice A n c) ∧ z.cell? ⟨w.heap.size, 1, none⟩ = some (.slice A' n' c') ∧ z.cell? ⟨w.heap.size + 1, 0, none⟩ = some (.int .i64 (u : Int)) ∧ z.cell? ⟨w.heap.size + 1, 1, none⟩ = some (.int .i64 (v : Int)) ∧ z.cell? ⟨gk, u, none⟩ = some (.int .i64 (y1 : Int)) ∧ z.cell? ⟨gk, v, none⟩ = some (.int .i64 (y2 : Int)))
          (first
            | exact S9.out
            | exact ⟨s0.1.1, s0.1.2, s0.2.1.1, s0.2.1.2, s0.2.2.1, s0.2.2.2⟩
            | go_keep)
          (first
            | (go_at_call 20; refine (sane_any _).mono ?_; rintro e9 w9 ⟨rfl, b9⟩; have B9 := hide (le_call d1.out b9); have S9 := hide (show (_ ∧ _ ∧ _ ∧ _ ∧ _ ∧ _) from ⟨(HSS.out w9 B9.out).1.1, (HSS.out w9 B9.out).1.2, (HSS.out w9 B9.out).2.1.1, (HSS.out w9 B9.out).2.1.2, (HSS.out w9 B9.out).2.2.1, (HSS.out w9 B9.out).2.2.2⟩); clear b9))
        all_goals
          go_wp2_with fail
          go_ret
          exact ⟨rfl, le_call (le_call D0.out H5.out) B9.out⟩
    · have hee : (errSS b i j != 0) = true := by simp [he]
      clear he
      cases ht : tellSF b i j with
      | none =>
        have HT := hide ht
        clear ht
        go_enter Try.func10, Try.ntmps10
        go_wp2_with (first
          | (have hgd := H4; clear hgd; go_at_call 20; refine (sane_any _).mono ?_; rintro e5 w5 ⟨rfl, b5⟩; have H5 := hide (le_call H4.out b5); have R2_5 := hide (le_call R2_4.out b5); have R3_5 := hide (le_call R3_4.out b5); have f0_5 := bk_two (K0.out.keep H5.out K0.out.in_); have f1a_5 := bk_two (K1.out.keep H5.out K1.out.in_); clear b5)
          | (have hgd := H3; clear hgd; go_at_call 27; refine (SameInts_any A2 n2 c2 A3 n3 c3 [] [] _ (O2.out.row.below R2_3.out (Nat.le_refl _)) O3.out.row (by have h1 := LN2.out; have h2 := HTL.out; (try simp only [Option.getD_none, List.length_nil] at h1); omega) (by have h1 := LN3.out; have h2 := HTL.out; (try simp only [Option.getD_none, List.length_nil] at h1); omega)).mono ?_; rintro e4 w4 ⟨rfl, qq, hqq⟩; have b4 := (show Below w3.heap.size w3 w4 from (by rw [hqq]; exact below_drewN (Below.refl _ _) qq)); clear hqq; rw [beq_self_eq_true]; have H4 := hide (le_call H3.out b4); have R2_4 := hide (le_call R2_3.out b4); have R3_4 := hide (le_call R3_3.out b4); have f0_4 := bk_two (K0.out.keep H4.out K0.out.in_); have f1a_4 := bk_two (K1.out.keep H4.out K1.out.in_); clear b4)
          | (have hgd := H2; clear hgd; go_at_call 42; refine (rTellStates_any A n c A' n' c' b i j _ (HB.out.below H2.out (Nat.le_refl _))).mono ?_; rw [HT.out]; rintro e3 w3 ⟨A3, n3, c3, rfl, o3, b3⟩; have H3 := hide (le_call H2.out b3); have R2_3 := hide (le_call R2_2.out b3); have f0_3 := bk_two (K0.out.keep H3.out K0.out.in_); have f1a_3 := bk_two (K1.out.keep H3.out K1.out.in_); have O3 := hide o3; have LN3 := hide o3.len; have R3_3 := hide (Below.refl w3.heap.size w3); clear o3; clear b3)
          | (have hgd := H1; clear hgd; go_at_call 41; refine (TellStates_any A n c A' n' c' b i j _ (HB.out.below H1.out (Nat.le_refl _))).mono ?_; rw [HT.out]; rintro e2 w2 ⟨A2, n2, c2, rfl, o2, b2⟩; have H2 := hide (le_call H1.out b2); have f0_2 := bk_two (K0.out.keep H2.out K0.out.in_); have f1a_2 := bk_two (K1.out.keep H2.out K1.out.in_); have O2 := hide o2; have LN2 := hide o2.len; have R2_2 := hide (Below.refl w2.heap.size w2); clear o2; clear b2)
          | (have hgd := H0; clear hgd; go_at_call 19; refine (Long_any A n c A' n' c' none 0 0 [] _ (R.nil EH _) hle hle').mono ?_; rintro e1 w1 ⟨rfl, b1⟩; rw [HLG.out]; have H1 := hide (le_call H0.out b1); have f0_1 := bk_two (K0.out.keep H1.out K0.out.in_); have f1a_1 := bk_two (K1.out.keep H1.out K1.out.in_); clear b1))
        go_ret
        exact ⟨rfl, le_call D0.out H5.out⟩
      | some z =>
        exfalso
        by_cases e : errSS b i j = 0
        · rw [e] at hee; exact absurd hee (by decide)
        · rw [tellSF_no e] at ht; cases ht
end Go.Proofs.Ytkjnhdkbojcojaa
