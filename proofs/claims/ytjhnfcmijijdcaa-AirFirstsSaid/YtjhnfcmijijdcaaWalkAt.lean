/- The walk of the document's own at: the plan of a set of starts. -/
import Derived.Test.YtjhnfcmijijdcaaMathI
namespace Go.Proofs.Ytjhnfcmijijdcaa
open Go.RowKit

set_option maxRecDepth 100000 in
set_option maxHeartbeats 4000000 in
theorem rat_any (K h : Int) (A : Option Addr) (n c : Nat) (cs : List Int) (A' : Option Addr) (c' : Nat) (ds : List Int) (x : Nat) (w : World) (hT : Tin w A n c cs A' n c' ds)
    (ok : (tk K h cs ds).Ok n) (hn1 : 1 ≤ n) (hn : n ≤ 12) :
    Calls Try.prog 73 #[.agg #[.int .i64 K, .int .i64 h, .slice A n c, .slice A' n c'], .int .i64 x] w (AtPost (tk K h cs ds) (bitS x) n w) := by
  have HT := hide hT
  have OK := hide ok
  obtain ⟨b, off, r⟩ := hT.2
  obtain rfl := r.at_ (by omega)
  have hcap := r.cap
  have hmax := r.max
  have B0 := hide ((Below.refl w.heap.size w).alloc (Nat.le_refl _) (.cells #[.int .i64 K, .int .i64 h, .slice A n c, .slice (some ⟨b, off, none⟩) n c'] 24))
  have K0 := hide (Bk.born w 24 #[.int .i64 K, .int .i64 h, .slice A n c, .slice (some ⟨b, off, none⟩) n c'])
  have R := hide r
  clear hT ok r
  obtain ⟨k0, k1, k2, k3, _⟩ := K0.out.four
  go_enter Try.func73, Try.ntmps73
  go_wp2_with (at_make; refine wpList_mk _ rfl _ _ rfl w.heap.size n rfl rfl (by omega) (by simp) ?_; intro w1 o1 b1 s1)
  have B1 := hide (B0.out.trans (b1.mono (by simp)))
  have K1 := hide (K0.out.keep b1 (by simp))
  have O1 := hide o1
  simp only [World.size_alloc] at *
  clear b1 o1 k0 k1 k2 k3
  have BT := hide (show ∀ q : Nat, bitS x q = (bits BinOp.and IntKind.i64 ((x : Int) / 2 ^ min (IntKind.u64.wrap (q : Int)).toNat 64) 1 == 1) from fun q => rfl)
  generalize hS : bitS x = S at *
  go_loopw [7] (fun i wr => ∃ k : Nat, k ≤ n ∧ i = .int .i64 k ∧ (∀ u, u < k → (tk K h cs ds).d u ≠ 0 → (tk K h cs ds).near S u (u + 1) ≠ none) ∧
      Own wr w.heap.size (some ⟨w.heap.size + 1, 0, none⟩) n n ((tk K h cs ds).aL ((tk K h cs ds).ast S) n k) ∧
      Bk wr w.heap.size 24 #[.int .i64 K, .int .i64 h, .slice A n c, .slice (some ⟨b, off, none⟩) n c'] ∧ Below w.heap.size w wr) (fun i _ => n - (intOf i).toNat)
  case atStart => exact ⟨0, by omega, rfl, fun u hu => by omega, by rw [Tk.aL_zero]; exact O1.out, K1.out, B1.out⟩
  case round =>
    obtain ⟨k, hk, rfl, hcan, ho, hb, hbel⟩ := hrel
    have HC := hide hcan
    have HO := hide ho
    have HB := hide hb
    have HBL := hide hbel
    clear hcan ho hb hbel
    obtain ⟨k0, k1, k2, k3, _⟩ := HB.out.four
    by_cases hlt : k < n
    · have d0 := OK.out.d0 k hlt
      have d1 := OK.out.d1 k hlt
      have cd := (R.out.below HBL.out (Nat.le_refl _)).cell k hlt
      rw [← tk_d K h cs ds k] at cd
      have HN := hide (fun (e : (tk K h cs ds).d k = 0) => (tk K h cs ds).aL_none ((tk K h cs ds).ast S) (n := n) e)
      generalize hy : (tk K h cs ds).d k = y at *
      have HY := hide hy
      clear hy
      have l2 : (k : Int) < n := by omega
      by_cases h0 : y = 0
      · subst h0
        go_wp2_with fail
        go_roundw
        case rel => exact ⟨k + 1, by omega, by go_num, fun u hu hd => by
          by_cases e : u = k
          · subst e; exact absurd HY.out hd
          · exact HC.out u (by omega) hd, by rw [HN.out rfl]; exact HO.out, HB.out, HBL.out⟩
        case measure => simp [intOf]; omega
      · have h0' : (y == 0) = false := by simpa using h0
        go_wp2_with fail
        clear k0 k1 k2 k3 cd
        have HTr := hide (HT.out.below HBL.out (Nat.le_refl _))
        go_loopw [8, 9] (fun v i wi => ∃ q : Nat, q ≤ k + 1 ∧ i = .int .i64 q ∧ v = .int .i64 (nearI ((tk K h cs ds).near S k q)) ∧
            Bk wi w.heap.size 24 #[.int .i64 K, .int .i64 h, .slice A n c, .slice (some ⟨b, off, none⟩) n c'] ∧ Below wr.heap.size wr wi) (fun _ i _ => k + 1 - (intOf i).toNat)
        case atStart => exact ⟨0, by omega, rfl, rfl, HB.out, Below.refl _ _⟩
        case round =>
          obtain ⟨q, hq, rfl, rfl, hb, hbel⟩ := hrel
          have HBi := hide hb
          have HLi := hide hbel
          obtain ⟨k0, k1, k2, k3, _⟩ := hb.four
          clear hb hbel
          have HTi := hide (HTr.out.below HLi.out (Nat.le_refl _))
          by_cases hqk : q ≤ k
          · have l3 : (q : Int) ≤ k := by omega
            have HW1 := hide (fun W hw => rway_any K h A n c cs (some ⟨b, off, none⟩) n c' ds q k W hw OK.out hqk hlt hn)
            have bt := BT.out q
            by_cases hSq : S q = true
            · rw [hSq] at bt
              have bt' := bt.symm
              clear bt
              have wq : IntKind.u64.wrap (q : Int) = q := IntWalk.u64_in _ (by omega)
              have wm : min q 64 = q := by omega
              rw [wq, Int.toNat_natCast, wm] at bt'
              generalize hbb : bits BinOp.and IntKind.i64 ((x : Int) / 2 ^ q) 1 = bb at *
              have bt2 : decide (bb = 1) = true := by simpa using bt'
              cases hnr : (tk K h cs ds).near S k q with
              | none =>
                have HV := hide (show nearI ((tk K h cs ds).near S k (q + 1)) = (q : Int) by rw [(tk K h cs ds).near_new hSq hnr]; rfl)
                rw [show nearI none = -1 from rfl]
                go_wp2_with fail
                go_quiet (fail)
                all_goals
                  go_wp2_with fail
                  go_roundw
                  case rel => exact ⟨q + 1, by omega, by go_num, by rw [HV.out], HBi.out.draws _, below_drewN HLi.out _⟩
                  case measure => simp [intOf]; omega
              | some bn =>
                obtain rfl : bb = 1 := by simpa using bt2
                clear bt2 bt'
                have lb : ¬ ((bn : Int) < 0) := by omega
                rw [show nearI (some bn) = (bn : Int) from rfl]
                obtain ⟨m1, m2, m3⟩ := ((tk K h cs ds).near_spec S k q).2 bn hnr
                have HW2 := hide (fun W hw => rway_any K h A n c cs (some ⟨b, off, none⟩) n c' ds bn k W hw OK.out (by omega) hlt hn)
                have HL := hide (fun (e : (tk K h cs ds).way q k < (tk K h cs ds).way bn k) => (tk K h cs ds).near_less hSq hnr e)
                have HM := hide (fun (e : ¬ (tk K h cs ds).way q k < (tk K h cs ds).way bn k) => (tk K h cs ds).near_more hSq hnr e)
                have sz := HLi.out.size
                have bl : b < wr.heap.size := by have := R.out.lt (by omega); have := HBL.out.size; omega
                clear m1 m2 m3
                generalize (tk K h cs ds).way q k = z1 at *
                generalize (tk K h cs ds).way bn k = z2 at *
                go_wp2_with fail
                refine wp_region_held_drew (S := (fun w' => w'.cell? ⟨w.heap.size, 0, none⟩ = some (.int .i64 K) ∧ w'.cell? ⟨w.heap.size, 1, none⟩ = some (.int .i64 h) ∧ w'.cell? ⟨w.heap.size, 2, none⟩ = some (.slice A n c) ∧ w'.cell? ⟨w.heap.size, 3, none⟩ = some (.slice (some ⟨b, off, none⟩) n c'))) (by kernel_rfl) ?_ (fun hHeld => ?_)
                · (try dsimp only)
                  go_keep
                refine wpAnyH_take (i := 0) (oi := { dst := some 32, op := Op.move (Operand.tmp 1), type := 3, pos := "ref.go:130", after := #[], guard := none }) (v := ?_) rfl (by kernel_rfl) (by kernel_rfl) (by kernel_rfl) (fun _ _ _ h => h) (Or.inl ⟨by rfl, ?_⟩) (by assumption) ?_
                rotate_left
                · intro w hSw
                  (try dsimp only at hSw)
                  first | (go_simp; done) | (go_simp; with_reducible rfl)
                try simp only [Act.put, List.setIfInBounds_toArray, List.set_cons_zero, List.set_cons_succ]
                refine wpAnyH_take (i := 1) (oi := { dst := some 33, op := Op.move (Operand.tmp 9), type := 3, pos := "ref.go:130", after := #[], guard := none }) (v := ?_) rfl (by kernel_rfl) (by kernel_rfl) (by kernel_rfl) (fun _ _ _ h => h) (Or.inl ⟨by rfl, ?_⟩) (by assumption) ?_
                rotate_left
                · intro w hSw
                  (try dsimp only at hSw)
                  first | (go_simp; done) | (go_simp; with_reducible rfl)
                try simp only [Act.put, List.setIfInBounds_toArray, List.set_cons_zero, List.set_cons_succ]
                refine wpAnyH_take (i := 2) (oi := { dst := some 34, op := Op.convert 3 75 (Operand.tmp 33), type := 75, pos := "ref.go:130", after := #[{ on := 1, ground := Ground.data }], guard := none }) (v := ?_) rfl (by kernel_rfl) (by kernel_rfl) (by kernel_rfl) (fun _ _ _ h => h) (Or.inl ⟨by rfl, ?_⟩) (by assumption) ?_
                rotate_left
                · intro w hSw
                  (try dsimp only at hSw)
                  first | (go_simp; done) | (go_simp; with_reducible rfl)
                try simp only [Act.put, List.setIfInBounds_toArray, List.set_cons_zero, List.set_cons_succ]
                refine wpAnyH_take (i := 3) (oi := { dst := some 35, op := Op.binOp BinOp.shr 3 (Operand.tmp 32) (Operand.tmp 34) 75, type := 3, pos := "ref.go:130", after := #[{ on := 0, ground := Ground.data }, { on := 2, ground := Ground.data }], guard := none }) (v := ?_) rfl (by kernel_rfl) (by kernel_rfl) (by kernel_rfl) (fun _ _ _ h => h) (Or.inl ⟨by rfl, ?_⟩) (by assumption) ?_
                rotate_left
                · intro w hSw
                  (try dsimp only at hSw)
                  first | (go_simp; done) | (go_simp; with_reducible rfl)
                try simp only [Act.put, List.setIfInBounds_toArray, List.set_cons_zero, List.set_cons_succ]
                refine wpAnyH_take (i := 4) (oi := { dst := some 36, op := Op.binOp BinOp.and 3 (Operand.tmp 35) (Operand.const (Value.int IntKind.i64 1)) 3, type := 3, pos := "ref.go:130", after := #[{ on := 3, ground := Ground.data }], guard := none }) (v := ?_) rfl (by kernel_rfl) (by kernel_rfl) (by kernel_rfl) (fun _ _ _ h => h) (Or.inl ⟨by rfl, ?_⟩) (by assumption) ?_
                rotate_left
                · intro w hSw
                  (try dsimp only at hSw)
                  first | (go_simp; done) | (go_simp; with_reducible rfl)
                try simp only [Act.put, List.setIfInBounds_toArray, List.set_cons_zero, List.set_cons_succ]
                refine wpAnyH_take (i := 5) (oi := { dst := some 37, op := Op.binOp BinOp.eql 3 (Operand.tmp 36) (Operand.const (Value.int IntKind.i64 1)) 3, type := 4, pos := "ref.go:130", after := #[{ on := 4, ground := Ground.data }], guard := none }) (v := .bool true) rfl (by kernel_rfl) (by kernel_rfl) (by kernel_rfl) (fun _ _ _ h => h) (Or.inl ⟨by rfl, ?_⟩) (by assumption) ?_
                · intro w hSw
                  (try dsimp only at hSw)
                  first | (go_simp; done) | (go_simp; with_reducible rfl)
                try simp only [Act.put, List.setIfInBounds_toArray, List.set_cons_zero, List.set_cons_succ]
                refine wpAnyH_take (i := 6) (oi := { dst := some 38, op := Op.move (Operand.tmp 37), type := 4, pos := "ref.go:130", after := #[{ on := 5, ground := Ground.data }], guard := none }) (v := .bool true) rfl (by kernel_rfl) (by kernel_rfl) (by kernel_rfl) (fun _ _ _ h => h) (Or.inl ⟨by rfl, ?_⟩) (by assumption) ?_
                · intro w hSw
                  (try dsimp only at hSw)
                  first | (go_simp; done) | (go_simp; with_reducible rfl)
                try simp only [Act.put, List.setIfInBounds_toArray, List.set_cons_zero, List.set_cons_succ]
                refine wpAnyH_take (i := 7) (oi := { dst := some 39, op := Op.move (Operand.tmp 8), type := 3, pos := "ref.go:130", after := #[{ on := 6, ground := Ground.guard }], guard := some (6, true) }) (v := ?_) rfl (by kernel_rfl) (by kernel_rfl) (by kernel_rfl) (fun _ _ _ h => h) (Or.inl ⟨by rfl, ?_⟩) (by assumption) ?_
                rotate_left
                · intro w hSw
                  (try dsimp only at hSw)
                  first | (go_simp; done) | (go_simp; with_reducible rfl)
                try simp only [Act.put, List.setIfInBounds_toArray, List.set_cons_zero, List.set_cons_succ]
                refine wpAnyH_take (i := 8) (oi := { dst := some 40, op := Op.binOp BinOp.lss 3 (Operand.tmp 39) (Operand.const (Value.int IntKind.i64 0)) 3, type := 4, pos := "ref.go:130", after := #[{ on := 7, ground := Ground.data }, { on := 6, ground := Ground.guard }], guard := some (6, true) }) (v := .bool false) rfl (by kernel_rfl) (by kernel_rfl) (by kernel_rfl) (fun _ _ _ h => h) (Or.inl ⟨by rfl, ?_⟩) (by assumption) ?_
                · intro w hSw
                  (try dsimp only at hSw)
                  first | (go_simp; done) | (go_simp; with_reducible rfl)
                try simp only [Act.put, List.setIfInBounds_toArray, List.set_cons_zero, List.set_cons_succ]
                refine wpAnyH_take (i := 9) (oi := { dst := some 41, op := Op.move (Operand.tmp 40), type := 4, pos := "ref.go:130", after := #[{ on := 8, ground := Ground.data }, { on := 6, ground := Ground.chain }, { on := 6, ground := Ground.guard }], guard := some (6, true) }) (v := .bool false) rfl (by kernel_rfl) (by kernel_rfl) (by kernel_rfl) (fun _ _ _ h => h) (Or.inl ⟨by rfl, ?_⟩) (by assumption) ?_
                · intro w hSw
                  (try dsimp only at hSw)
                  first | (go_simp; done) | (go_simp; with_reducible rfl)
                try simp only [Act.put, List.setIfInBounds_toArray, List.set_cons_zero, List.set_cons_succ]
                refine wpAnyH_take (i := 10) (oi := { dst := some 42, op := Op.load 24 (Operand.tmp 2), type := 24, pos := "ref.go:130", after := #[{ on := 9, ground := Ground.guard }], guard := some (9, false) }) (v := ?_) rfl (by kernel_rfl) (by kernel_rfl) (by kernel_rfl) (fun _ _ _ h => h) (Or.inl ⟨by rfl, ?_⟩) (by assumption) ?_
                rotate_left
                · intro w hSw
                  (try dsimp only at hSw)
                  first | (go_simp; done) | (go_simp; with_reducible rfl)
                try simp only [Act.put, List.setIfInBounds_toArray, List.set_cons_zero, List.set_cons_succ]
                refine wpAnyH_take (i := 11) (oi := { dst := some 43, op := Op.move (Operand.tmp 9), type := 3, pos := "ref.go:130", after := #[{ on := 9, ground := Ground.guard }], guard := some (9, false) }) (v := ?_) rfl (by kernel_rfl) (by kernel_rfl) (by kernel_rfl) (fun _ _ _ h => h) (Or.inl ⟨by rfl, ?_⟩) (by assumption) ?_
                rotate_left
                · intro w hSw
                  (try dsimp only at hSw)
                  first | (go_simp; done) | (go_simp; with_reducible rfl)
                try simp only [Act.put, List.setIfInBounds_toArray, List.set_cons_zero, List.set_cons_succ]
                refine wpAnyH_take (i := 12) (oi := { dst := some 44, op := Op.move (Operand.tmp 7), type := 3, pos := "ref.go:130", after := #[{ on := 9, ground := Ground.guard }], guard := some (9, false) }) (v := ?_) rfl (by kernel_rfl) (by kernel_rfl) (by kernel_rfl) (fun _ _ _ h => h) (Or.inl ⟨by rfl, ?_⟩) (by assumption) ?_
                rotate_left
                · intro w hSw
                  (try dsimp only at hSw)
                  first | (go_simp; done) | (go_simp; with_reducible rfl)
                try simp only [Act.put, List.setIfInBounds_toArray, List.set_cons_zero, List.set_cons_succ]
                refine wpAnyH_take (i := 14) (oi := { dst := some 46, op := Op.load 24 (Operand.tmp 2), type := 24, pos := "ref.go:130", after := #[{ on := 9, ground := Ground.guard }], guard := some (9, false) }) (v := ?_) rfl (by kernel_rfl) (by kernel_rfl) (by kernel_rfl) (fun _ _ _ h => h) (Or.inl ⟨by rfl, ?_⟩) (by assumption) ?_
                rotate_left
                · intro w hSw
                  (try dsimp only at hSw)
                  first | (go_simp; done) | (go_simp; with_reducible rfl)
                try simp only [Act.put, List.setIfInBounds_toArray, List.set_cons_zero, List.set_cons_succ]
                refine wpAnyH_take (i := 15) (oi := { dst := some 47, op := Op.move (Operand.tmp 8), type := 3, pos := "ref.go:130", after := #[{ on := 9, ground := Ground.guard }], guard := some (9, false) }) (v := ?_) rfl (by kernel_rfl) (by kernel_rfl) (by kernel_rfl) (fun _ _ _ h => h) (Or.inl ⟨by rfl, ?_⟩) (by assumption) ?_
                rotate_left
                · intro w hSw
                  (try dsimp only at hSw)
                  first | (go_simp; done) | (go_simp; with_reducible rfl)
                try simp only [Act.put, List.setIfInBounds_toArray, List.set_cons_zero, List.set_cons_succ]
                refine wpAnyH_take (i := 16) (oi := { dst := some 48, op := Op.move (Operand.tmp 7), type := 3, pos := "ref.go:130", after := #[{ on := 9, ground := Ground.guard }], guard := some (9, false) }) (v := ?_) rfl (by kernel_rfl) (by kernel_rfl) (by kernel_rfl) (fun _ _ _ h => h) (Or.inl ⟨by rfl, ?_⟩) (by assumption) ?_
                rotate_left
                · intro w hSw
                  (try dsimp only at hSw)
                  first | (go_simp; done) | (go_simp; with_reducible rfl)
                try simp only [Act.put, List.setIfInBounds_toArray, List.set_cons_zero, List.set_cons_succ]
                have T1 := hide (HTi.out.below (below_drewN (Below.refl wr.heap.size wr) 1) (Nat.le_refl _))
                refine wpAnyH_ready (rs := [13]) (by kernel_rfl) (by simp) ?_
                refine AllReadyH.cons (o := { dst := some 45, op := Op.call { callee := Callee.value (Operand.func 74), args := #[Operand.tmp 42, Operand.tmp 43, Operand.tmp 44], argTypes := #[24, 3, 3] }, type := 3, pos := "ref.go:130", after := #[{ on := 10, ground := Ground.data }, { on := 11, ground := Ground.data }, { on := 12, ground := Ground.data }, { on := 9, ground := Ground.chain }, { on := 9, ground := Ground.guard }], guard := some (9, false) }) rfl (fun K hK => ?_) AllReadyH.nil
                rw [if_pos (by rfl)]
                go_simp
                go_at_call 74
                refine (HW1.out _ T1.out).mono ?_
                rintro e8 w8 ⟨rfl, b8⟩
                have KY := hide ((HBi.out.draws 1).keep b8 HBi.out.in_)
                obtain ⟨p0, p1, p2, p3, _⟩ := KY.out.four
                first | refine hK.out _ _ ⟨p0, p1, p2, p3⟩ (fun hHeld => ?_) | (go_wp2_with fail; refine hK.out _ _ ⟨p0, p1, p2, p3⟩ (fun hHeld => ?_))
                clear hK K
                try simp only [Act.put, List.setIfInBounds_toArray, List.set_cons_zero, List.set_cons_succ]
                refine wpAnyH_ready (rs := [17]) (by kernel_rfl) (by simp) ?_
                refine AllReadyH.cons (o := { dst := some 49, op := Op.call { callee := Callee.value (Operand.func 74), args := #[Operand.tmp 46, Operand.tmp 47, Operand.tmp 48], argTypes := #[24, 3, 3] }, type := 3, pos := "ref.go:130", after := #[{ on := 14, ground := Ground.data }, { on := 15, ground := Ground.data }, { on := 16, ground := Ground.data }, { on := 13, ground := Ground.chain }, { on := 9, ground := Ground.guard }], guard := some (9, false) }) rfl (fun K hK => ?_) AllReadyH.nil
                rw [if_pos (by rfl)]
                go_simp
                go_at_call 74
                refine (HW2.out _ (T1.out.below b8 (Nat.le_refl _))).mono ?_
                rintro e9 w9 ⟨rfl, b9⟩
                have KZ := hide (KY.out.keep b9 KY.out.in_)
                obtain ⟨q0, q1, q2, q3, _⟩ := KZ.out.four
                first | refine hK.out _ _ ⟨q0, q1, q2, q3⟩ (fun hHeld => ?_) | (go_wp2_with fail; refine hK.out _ _ ⟨q0, q1, q2, q3⟩ (fun hHeld => ?_))
                clear hK K
                try simp only [Act.put, List.setIfInBounds_toArray, List.set_cons_zero, List.set_cons_succ]
                refine wpAnyH_take (i := 18) (oi := { dst := some 50, op := Op.binOp BinOp.lss 3 (Operand.tmp 45) (Operand.tmp 49) 3, type := 4, pos := "ref.go:130", after := #[{ on := 13, ground := Ground.data }, { on := 17, ground := Ground.data }, { on := 9, ground := Ground.guard }], guard := some (9, false) }) (v := ?_) rfl (by kernel_rfl) (by kernel_rfl) (by kernel_rfl) (fun _ _ _ h => h) (Or.inl ⟨by rfl, ?_⟩) (by assumption) ?_
                rotate_left
                · intro w hSw
                  (try dsimp only at hSw)
                  first | (go_simp; done) | (go_simp; with_reducible rfl)
                try simp only [Act.put, List.setIfInBounds_toArray, List.set_cons_zero, List.set_cons_succ]
                refine wpAnyH_take (i := 19) (oi := { dst := some 51, op := Op.pick (Operand.tmp 41) (Operand.const (Value.bool true)) (Operand.tmp 50), type := 4, pos := "ref.go:130", after := #[{ on := 9, ground := Ground.data }, { on := 18, ground := Ground.data }, { on := 6, ground := Ground.guard }], guard := some (6, true) }) (v := ?_) rfl (by kernel_rfl) (by kernel_rfl) (by kernel_rfl) (fun _ _ _ h => h) (Or.inl ⟨by rfl, ?_⟩) (by assumption) ?_
                rotate_left
                · intro w hSw
                  (try dsimp only at hSw)
                  first | (go_simp; done) | (go_simp; with_reducible rfl)
                try simp only [Act.put, List.setIfInBounds_toArray, List.set_cons_zero, List.set_cons_succ]
                refine wpAnyH_take (i := 20) (oi := { dst := some 52, op := Op.pick (Operand.tmp 38) (Operand.tmp 51) (Operand.const (Value.bool false)), type := 4, pos := "ref.go:130", after := #[{ on := 6, ground := Ground.data }, { on := 19, ground := Ground.data }], guard := none }) (v := ?_) rfl (by kernel_rfl) (by kernel_rfl) (by kernel_rfl) (fun _ _ _ h => h) (Or.inl ⟨by rfl, ?_⟩) (by assumption) ?_
                rotate_left
                · intro w hSw
                  (try dsimp only at hSw)
                  first | (go_simp; done) | (go_simp; with_reducible rfl)
                try simp only [Act.put, List.setIfInBounds_toArray, List.set_cons_zero, List.set_cons_succ]
                refine wpAnyH_done (by kernel_rfl) ?_ _
                have LZ := hide (((below_drewN HLi.out 1).trans (b8.mono (by simp; omega))).trans (b9.mono (by have := b8.size; simp at this; omega)))
                by_cases hz : z1 < z2
                · go_wp2_with fail
                  go_roundw
                  case rel => exact ⟨q + 1, by omega, by go_num, by rw [HL.out (by omega)]; rfl, KZ.out, LZ.out⟩
                  case measure => simp [intOf]; omega
                · go_wp2_with fail
                  go_roundw
                  case rel => exact ⟨q + 1, by omega, by go_num, by rw [HM.out (by omega)]; rfl, KZ.out, LZ.out⟩
                  case measure => simp [intOf]; omega
            · have hSq' : S q = false := by simpa using hSq
              rw [hSq'] at bt
              have bt' := bt.symm
              clear bt
              have wq : IntKind.u64.wrap (q : Int) = q := IntWalk.u64_in _ (by omega)
              have wm : min q 64 = q := by omega
              rw [wq, Int.toNat_natCast, wm] at bt'
              generalize hbb : bits BinOp.and IntKind.i64 ((x : Int) / 2 ^ q) 1 = bb at *
              have bt2 : decide (bb = 1) = false := by simpa using bt'
              have HV := hide ((tk K h cs ds).near_out k hSq)
              go_wp2_with fail
              go_quiet (fail)
              all_goals
                go_wp2_with fail
                go_roundw
                case rel => exact ⟨q + 1, by omega, by go_num, by rw [HV.out], HBi.out.draws _, below_drewN HLi.out _⟩
                case measure => simp [intOf]; omega
          · obtain rfl : q = k + 1 := by omega
            cases hnr : (tk K h cs ds).near S k (k + 1) with
            | none =>
              have HF := hide (show ¬ (tk K h cs ds).Can S n from fun f => f k hlt (by rw [HY.out]; exact h0) hnr)
              rw [show nearI none = -1 from rfl]
              go_wp2_with fail
              go_ret2
              exact ⟨HBL.out.trans (HLi.out.mono HBL.out.size), Or.inl ⟨HF.out, rfl⟩⟩
            | some bn =>
              rw [show nearI (some bn) = (bn : Int) from rfl]
              have m1 := (((tk K h cs ds).near_spec S k (k + 1)).2 bn hnr).1
              have ea : (tk K h cs ds).ast S k = bn := by unfold Tk.ast; rw [hnr]; rfl
              have HOi := hide (HO.out.below HLi.out (Nat.le_refl _))
              have hbn : bn < n := by omega
              have cx := HOi.out.cell hbn
              have fz := HOi.out.frozen bn
              have HNX := hide (fun x e => (tk K h cs ds).aL_next ((tk K h cs ds).ast S) (n := n) (k := k) (x := x) (by rw [ea]; exact hbn) e)
              rw [ea, HY.out] at HNX
              have as0 := (Tk.asg_bound OK.out hn (a := (tk K h cs ds).ast S) (m := k) (by omega) bn)
              rw [← Tk.aL_get _ _ hbn] at as0
              have cd := (R.out.below (HBL.out.trans (HLi.out.mono HBL.out.size)) (Nat.le_refl _)).cell k hlt
              rw [← tk_d K h cs ds k, HY.out] at cd
              generalize hva : ((tk K h cs ds).aL ((tk K h cs ds).ast S) n k).getD bn 0 = va at *
              have HVA := hide hva
              clear hva
              have wv : IntKind.i64.wrap (va + y) = va + y := IntWalk.i64_in _ (by omega)
              have l5 : (bn : Int) < n := by omega
              have l6 : ¬ (k : Int) + 1 ≤ k := by omega
              go_wp2_with fail
              go_region
              all_goals
                clear wv
                go_wp2_with fail
                go_roundw
                case rel => exact ⟨k + 1, by omega, by go_num, fun u hu hd => by
                  by_cases e : u = k
                  · subst e; rw [hnr]; exact fun f => by cases f
                  · exact HC.out u (by omega) hd, by rw [← HNX.out (va + y) (by first | rfl | (rw [HVA.out]))]; exact (HOi.out.stored bn _).drew, Bk.draw (HBi.out.apart (p := ⟨w.heap.size + 1, bn, none⟩) (by simp) _), ((HBL.out.trans (HLi.out.mono HBL.out.size)).setCell (p := ⟨w.heap.size + 1, bn, none⟩) (by simp) _).drew⟩
                case measure => simp [intOf]; omega
    · obtain rfl : k = n := by omega
      go_wp2_with fail
      go_ret2
      exact ⟨HBL.out, Or.inr ⟨HC.out, _, _, rfl, HO.out⟩⟩

end Go.Proofs.Ytjhnfcmijijdcaa
