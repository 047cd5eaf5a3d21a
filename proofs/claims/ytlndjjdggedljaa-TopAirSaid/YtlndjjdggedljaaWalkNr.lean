/- Walks of the program's own plans of sets of starts: nearest, at. -/
import Derived.Test.YtlndjjdggedljaaG11
namespace Go.Proofs.Ytlndjjdggedljaa
open Go.RowKit

def fndI (o : Option Nat) : Int := match o with
  | none => 0
  | some b => (b : Int)

set_option maxRecDepth 100000 in
set_option maxHeartbeats 4000000 in
theorem nearest_any (K h : Int) (A : Option Addr) (n c : Nat) (cs : List Int) (A' : Option Addr) (c' : Nat) (ds : List Int) (Sp : Option Addr) (ns sc : Nat) (ss : List Int) (u : Nat) (w : World)
    (hT : Tin w A n c cs A' n c' ds) (hS : Row w Sp ns sc ss) (ok : (tk K h cs ds).Ok n) (hn : n ≤ 12) (hs : SetTo ss n ns) (hu : u < n) :
    Calls Try.prog 85 #[.agg #[.int .i64 K, .int .i64 h, .slice A n c, .slice A' n c'], .slice Sp ns sc, .int .i64 u] w fun e w' =>
      e = .returned (.tuple #[.int .i64 (fndI ((tk K h cs ds).ln ss u ns)), .bool ((tk K h cs ds).ln ss u ns).isSome]) ∧ Below w.heap.size w w' := by
  have HT := hide hT
  have HSr := hide hS
  have OK := hide ok
  have HSt := hide hs
  have LS := hide hS.length
  have B0 := hide ((Below.refl w.heap.size w).alloc (Nat.le_refl _) (.cells #[.int .i64 K, .int .i64 h, .slice A n c, .slice A' n c'] 24))
  have K0 := hide (Bk.born w 24 #[.int .i64 K, .int .i64 h, .slice A n c, .slice A' n c'])
  clear hT hS ok hs
  go_enter Try.func85, Try.ntmps85
  go_wp2_with fail
  go_loopw [8, 9, 14] (fun f o i wr => ∃ k : Nat, k ≤ ns ∧ i = .int .i64 k ∧ f = .int .i64 (fndI ((tk K h cs ds).ln ss u k)) ∧ o = .bool ((tk K h cs ds).ln ss u k).isSome ∧
      Bk wr w.heap.size 24 #[.int .i64 K, .int .i64 h, .slice A n c, .slice A' n c'] ∧ Below w.heap.size w wr) (fun _ _ i _ => ns - (intOf i).toNat)
  case atStart => exact ⟨0, by omega, rfl, rfl, rfl, K0.out, B0.out⟩
  case round =>
    obtain ⟨k, hk, rfl, rfl, rfl, hb, hbel⟩ := hrel
    have HB := hide hb
    have HBL := hide hbel
    clear hb hbel
    by_cases hlt : k < ns
    · obtain ⟨bs, os, rs⟩ := HSr.out
      obtain rfl := rs.at_ (by omega)
      have rcap := rs.cap
      have rmax := rs.max
      have cx := (rs.below HBL.out (Nat.le_refl _)).cell k hlt
      have RS := hide rs
      clear rs
      have x0 := (HSt.out k hlt).1
      obtain ⟨x, hx⟩ : ∃ x : Nat, ss.getD k 0 = (x : Int) := ⟨(ss.getD k 0).toNat, by omega⟩
      rw [hx] at cx x0
      have HX := hide hx
      clear hx
      obtain ⟨k0, k1, k2, k3, _⟩ := HB.out.four
      have l2 : (k : Int) < ns := by omega
      by_cases hxu : x ≤ u
      · have l3 : (x : Int) ≤ u := by omega
        cases e : (tk K h cs ds).ln ss u k with
        | none =>
          have HV := hide (Tk.ln_first e HX.out hxu)
          rw [show fndI none = 0 from rfl, show (none : Option Nat).isSome = false from rfl]
          go_wp2_with fail
          go_quiet (fail)
          all_goals
            go_wp2_with fail
            go_roundw
            case rel => exact ⟨k + 1, by omega, by go_num, by rw [HV.out]; rfl, by rw [HV.out]; rfl, HB.out.draws _, below_drewN HBL.out _⟩
            case measure => simp [intOf]; omega
        | some bn =>
          have HL := hide (fun l => Tk.ln_less e HX.out hxu l)
          have HM := hide (fun l => Tk.ln_more e HX.out l)
          obtain ⟨m1, m2⟩ := (tk K h cs ds).ln_in (by rw [LS.out]; exact HSt.out) (by rw [LS.out]; omega) e
          have HTi := hide (HT.out.below HBL.out (Nat.le_refl _))
          have HW1 := hide (fun W hw => way_any K h A n c cs A' n c' ds x u W hw OK.out hxu hu hn)
          have HW2 := hide (fun W hw => way_any K h A n c cs A' n c' ds bn u W hw OK.out m1 hu hn)
          clear m1 m2
          generalize (tk K h cs ds).way x u = z1 at *
          generalize (tk K h cs ds).way bn u = z2 at *
          rw [show fndI (some bn) = (bn : Int) from rfl, show (some bn).isSome = true from rfl]
          go_wp2_with fail
          refine wp_region_held_drew (S := (fun w' => w'.cell? ⟨w.heap.size, 0, none⟩ = some (.int .i64 K) ∧ w'.cell? ⟨w.heap.size, 1, none⟩ = some (.int .i64 h) ∧ w'.cell? ⟨w.heap.size, 2, none⟩ = some (.slice A n c) ∧ w'.cell? ⟨w.heap.size, 3, none⟩ = some (.slice A' n c'))) (by kernel_rfl) ?_ (fun hHeld => ?_)
          · (try dsimp only)
            go_keep
          refine wpAnyH_take (i := 0) (oi := { dst := some 18, op := Op.move (Operand.tmp 11), type := 3, pos := "best.go:122", after := #[], guard := none }) (v := ?_) rfl (by kernel_rfl) (by kernel_rfl) (by kernel_rfl) (fun _ _ _ h => h) (Or.inl ⟨by rfl, ?_⟩) (by assumption) ?_
          rotate_left
          · intro w hSw
            (try dsimp only at hSw)
            first | (go_simp; done) | (go_simp; with_reducible rfl)
          try simp only [Act.put, List.setIfInBounds_toArray, List.set_cons_zero, List.set_cons_succ]
          refine wpAnyH_take (i := 1) (oi := { dst := some 19, op := Op.move (Operand.tmp 2), type := 3, pos := "best.go:122", after := #[], guard := none }) (v := ?_) rfl (by kernel_rfl) (by kernel_rfl) (by kernel_rfl) (fun _ _ _ h => h) (Or.inl ⟨by rfl, ?_⟩) (by assumption) ?_
          rotate_left
          · intro w hSw
            (try dsimp only at hSw)
            first | (go_simp; done) | (go_simp; with_reducible rfl)
          try simp only [Act.put, List.setIfInBounds_toArray, List.set_cons_zero, List.set_cons_succ]
          refine wpAnyH_take (i := 2) (oi := { dst := some 20, op := Op.binOp BinOp.leq 3 (Operand.tmp 18) (Operand.tmp 19) 3, type := 4, pos := "best.go:122", after := #[{ on := 0, ground := Ground.data }, { on := 1, ground := Ground.data }], guard := none }) (v := .bool true) rfl (by kernel_rfl) (by kernel_rfl) (by kernel_rfl) (fun _ _ _ h => h) (Or.inl ⟨by rfl, ?_⟩) (by assumption) ?_
          · intro w hSw
            (try dsimp only at hSw)
            first | (go_simp; done) | (go_simp; with_reducible rfl)
          try simp only [Act.put, List.setIfInBounds_toArray, List.set_cons_zero, List.set_cons_succ]
          refine wpAnyH_take (i := 3) (oi := { dst := some 21, op := Op.move (Operand.tmp 20), type := 4, pos := "best.go:122", after := #[{ on := 2, ground := Ground.data }], guard := none }) (v := .bool true) rfl (by kernel_rfl) (by kernel_rfl) (by kernel_rfl) (fun _ _ _ h => h) (Or.inl ⟨by rfl, ?_⟩) (by assumption) ?_
          · intro w hSw
            (try dsimp only at hSw)
            first | (go_simp; done) | (go_simp; with_reducible rfl)
          try simp only [Act.put, List.setIfInBounds_toArray, List.set_cons_zero, List.set_cons_succ]
          refine wpAnyH_take (i := 4) (oi := { dst := some 22, op := Op.move (Operand.tmp 9), type := 4, pos := "best.go:122", after := #[{ on := 3, ground := Ground.guard }], guard := some (3, true) }) (v := .bool true) rfl (by kernel_rfl) (by kernel_rfl) (by kernel_rfl) (fun _ _ _ h => h) (Or.inl ⟨by rfl, ?_⟩) (by assumption) ?_
          · intro w hSw
            (try dsimp only at hSw)
            first | (go_simp; done) | (go_simp; with_reducible rfl)
          try simp only [Act.put, List.setIfInBounds_toArray, List.set_cons_zero, List.set_cons_succ]
          refine wpAnyH_take (i := 5) (oi := { dst := some 23, op := Op.unOp UnOp.not 4 (Operand.tmp 22), type := 4, pos := "best.go:122", after := #[{ on := 4, ground := Ground.data }, { on := 3, ground := Ground.guard }], guard := some (3, true) }) (v := .bool false) rfl (by kernel_rfl) (by kernel_rfl) (by kernel_rfl) (fun _ _ _ h => h) (Or.inl ⟨by rfl, ?_⟩) (by assumption) ?_
          · intro w hSw
            (try dsimp only at hSw)
            first | (go_simp; done) | (go_simp; with_reducible rfl)
          try simp only [Act.put, List.setIfInBounds_toArray, List.set_cons_zero, List.set_cons_succ]
          refine wpAnyH_take (i := 6) (oi := { dst := some 24, op := Op.move (Operand.tmp 23), type := 4, pos := "best.go:122", after := #[{ on := 5, ground := Ground.data }, { on := 3, ground := Ground.chain }, { on := 3, ground := Ground.guard }], guard := some (3, true) }) (v := .bool false) rfl (by kernel_rfl) (by kernel_rfl) (by kernel_rfl) (fun _ _ _ h => h) (Or.inl ⟨by rfl, ?_⟩) (by assumption) ?_
          · intro w hSw
            (try dsimp only at hSw)
            first | (go_simp; done) | (go_simp; with_reducible rfl)
          try simp only [Act.put, List.setIfInBounds_toArray, List.set_cons_zero, List.set_cons_succ]
          refine wpAnyH_take (i := 7) (oi := { dst := some 25, op := Op.load 24 (Operand.tmp 3), type := 24, pos := "best.go:122", after := #[{ on := 6, ground := Ground.guard }], guard := some (6, false) }) (v := ?_) rfl (by kernel_rfl) (by kernel_rfl) (by kernel_rfl) (fun _ _ _ h => h) (Or.inl ⟨by rfl, ?_⟩) (by assumption) ?_
          rotate_left
          · intro w hSw
            (try dsimp only at hSw)
            first | (go_simp; done) | (go_simp; with_reducible rfl)
          try simp only [Act.put, List.setIfInBounds_toArray, List.set_cons_zero, List.set_cons_succ]
          refine wpAnyH_take (i := 8) (oi := { dst := some 26, op := Op.move (Operand.tmp 11), type := 3, pos := "best.go:122", after := #[{ on := 6, ground := Ground.guard }], guard := some (6, false) }) (v := ?_) rfl (by kernel_rfl) (by kernel_rfl) (by kernel_rfl) (fun _ _ _ h => h) (Or.inl ⟨by rfl, ?_⟩) (by assumption) ?_
          rotate_left
          · intro w hSw
            (try dsimp only at hSw)
            first | (go_simp; done) | (go_simp; with_reducible rfl)
          try simp only [Act.put, List.setIfInBounds_toArray, List.set_cons_zero, List.set_cons_succ]
          refine wpAnyH_take (i := 9) (oi := { dst := some 27, op := Op.move (Operand.tmp 2), type := 3, pos := "best.go:122", after := #[{ on := 6, ground := Ground.guard }], guard := some (6, false) }) (v := ?_) rfl (by kernel_rfl) (by kernel_rfl) (by kernel_rfl) (fun _ _ _ h => h) (Or.inl ⟨by rfl, ?_⟩) (by assumption) ?_
          rotate_left
          · intro w hSw
            (try dsimp only at hSw)
            first | (go_simp; done) | (go_simp; with_reducible rfl)
          try simp only [Act.put, List.setIfInBounds_toArray, List.set_cons_zero, List.set_cons_succ]
          refine wpAnyH_take (i := 11) (oi := { dst := some 29, op := Op.load 24 (Operand.tmp 3), type := 24, pos := "best.go:122", after := #[{ on := 6, ground := Ground.guard }], guard := some (6, false) }) (v := ?_) rfl (by kernel_rfl) (by kernel_rfl) (by kernel_rfl) (fun _ _ _ h => h) (Or.inl ⟨by rfl, ?_⟩) (by assumption) ?_
          rotate_left
          · intro w hSw
            (try dsimp only at hSw)
            first | (go_simp; done) | (go_simp; with_reducible rfl)
          try simp only [Act.put, List.setIfInBounds_toArray, List.set_cons_zero, List.set_cons_succ]
          refine wpAnyH_take (i := 12) (oi := { dst := some 30, op := Op.move (Operand.tmp 8), type := 3, pos := "best.go:122", after := #[{ on := 6, ground := Ground.guard }], guard := some (6, false) }) (v := ?_) rfl (by kernel_rfl) (by kernel_rfl) (by kernel_rfl) (fun _ _ _ h => h) (Or.inl ⟨by rfl, ?_⟩) (by assumption) ?_
          rotate_left
          · intro w hSw
            (try dsimp only at hSw)
            first | (go_simp; done) | (go_simp; with_reducible rfl)
          try simp only [Act.put, List.setIfInBounds_toArray, List.set_cons_zero, List.set_cons_succ]
          refine wpAnyH_take (i := 13) (oi := { dst := some 31, op := Op.move (Operand.tmp 2), type := 3, pos := "best.go:122", after := #[{ on := 6, ground := Ground.guard }], guard := some (6, false) }) (v := ?_) rfl (by kernel_rfl) (by kernel_rfl) (by kernel_rfl) (fun _ _ _ h => h) (Or.inl ⟨by rfl, ?_⟩) (by assumption) ?_
          rotate_left
          · intro w hSw
            (try dsimp only at hSw)
            first | (go_simp; done) | (go_simp; with_reducible rfl)
          try simp only [Act.put, List.setIfInBounds_toArray, List.set_cons_zero, List.set_cons_succ]
          have T1 := hide (HTi.out.below (below_drewN (Below.refl wr.heap.size wr) 1) (Nat.le_refl _))
          refine wpAnyH_ready (rs := [10]) (by kernel_rfl) (by simp) ?_
          refine AllReadyH.cons (o := { dst := some 28, op := Op.call { callee := Callee.value (Operand.func 87), args := #[Operand.tmp 25, Operand.tmp 26, Operand.tmp 27], argTypes := #[24, 3, 3] }, type := 3, pos := "best.go:122", after := #[{ on := 7, ground := Ground.data }, { on := 8, ground := Ground.data }, { on := 9, ground := Ground.data }, { on := 6, ground := Ground.chain }, { on := 6, ground := Ground.guard }], guard := some (6, false) }) rfl (fun K hK => ?_) AllReadyH.nil
          rw [if_pos (by rfl)]
          go_simp
          go_at_call 87
          refine (HW1.out _ T1.out).mono ?_
          rintro e8 w8 ⟨rfl, b8⟩
          have KY := hide ((HB.out.draws 1).keep b8 HB.out.in_)
          obtain ⟨p0, p1, p2, p3, _⟩ := KY.out.four
          first | refine hK.out _ _ ⟨p0, p1, p2, p3⟩ (fun hHeld => ?_) | (go_wp2_with fail; refine hK.out _ _ ⟨p0, p1, p2, p3⟩ (fun hHeld => ?_))
          clear hK K
          try simp only [Act.put, List.setIfInBounds_toArray, List.set_cons_zero, List.set_cons_succ]
          refine wpAnyH_ready (rs := [14]) (by kernel_rfl) (by simp) ?_
          refine AllReadyH.cons (o := { dst := some 32, op := Op.call { callee := Callee.value (Operand.func 87), args := #[Operand.tmp 29, Operand.tmp 30, Operand.tmp 31], argTypes := #[24, 3, 3] }, type := 3, pos := "best.go:122", after := #[{ on := 11, ground := Ground.data }, { on := 12, ground := Ground.data }, { on := 13, ground := Ground.data }, { on := 10, ground := Ground.chain }, { on := 6, ground := Ground.guard }], guard := some (6, false) }) rfl (fun K hK => ?_) AllReadyH.nil
          rw [if_pos (by rfl)]
          go_simp
          go_at_call 87
          refine (HW2.out _ (T1.out.below b8 (Nat.le_refl _))).mono ?_
          rintro e9 w9 ⟨rfl, b9⟩
          have KZ := hide (KY.out.keep b9 KY.out.in_)
          obtain ⟨q0, q1, q2, q3, _⟩ := KZ.out.four
          first | refine hK.out _ _ ⟨q0, q1, q2, q3⟩ (fun hHeld => ?_) | (go_wp2_with fail; refine hK.out _ _ ⟨q0, q1, q2, q3⟩ (fun hHeld => ?_))
          clear hK K
          try simp only [Act.put, List.setIfInBounds_toArray, List.set_cons_zero, List.set_cons_succ]
          refine wpAnyH_take (i := 15) (oi := { dst := some 33, op := Op.binOp BinOp.lss 3 (Operand.tmp 28) (Operand.tmp 32) 3, type := 4, pos := "best.go:122", after := #[{ on := 10, ground := Ground.data }, { on := 14, ground := Ground.data }, { on := 6, ground := Ground.guard }], guard := some (6, false) }) (v := ?_) rfl (by kernel_rfl) (by kernel_rfl) (by kernel_rfl) (fun _ _ _ h => h) (Or.inl ⟨by rfl, ?_⟩) (by assumption) ?_
          rotate_left
          · intro w hSw
            (try dsimp only at hSw)
            first | (go_simp; done) | (go_simp; with_reducible rfl)
          try simp only [Act.put, List.setIfInBounds_toArray, List.set_cons_zero, List.set_cons_succ]
          refine wpAnyH_take (i := 16) (oi := { dst := some 34, op := Op.pick (Operand.tmp 24) (Operand.const (Value.bool true)) (Operand.tmp 33), type := 4, pos := "best.go:122", after := #[{ on := 6, ground := Ground.data }, { on := 15, ground := Ground.data }, { on := 3, ground := Ground.guard }], guard := some (3, true) }) (v := ?_) rfl (by kernel_rfl) (by kernel_rfl) (by kernel_rfl) (fun _ _ _ h => h) (Or.inl ⟨by rfl, ?_⟩) (by assumption) ?_
          rotate_left
          · intro w hSw
            (try dsimp only at hSw)
            first | (go_simp; done) | (go_simp; with_reducible rfl)
          try simp only [Act.put, List.setIfInBounds_toArray, List.set_cons_zero, List.set_cons_succ]
          refine wpAnyH_take (i := 17) (oi := { dst := some 35, op := Op.pick (Operand.tmp 21) (Operand.tmp 34) (Operand.const (Value.bool false)), type := 4, pos := "best.go:122", after := #[{ on := 3, ground := Ground.data }, { on := 16, ground := Ground.data }], guard := none }) (v := ?_) rfl (by kernel_rfl) (by kernel_rfl) (by kernel_rfl) (fun _ _ _ h => h) (Or.inl ⟨by rfl, ?_⟩) (by assumption) ?_
          rotate_left
          · intro w hSw
            (try dsimp only at hSw)
            first | (go_simp; done) | (go_simp; with_reducible rfl)
          try simp only [Act.put, List.setIfInBounds_toArray, List.set_cons_zero, List.set_cons_succ]
          refine wpAnyH_done (by kernel_rfl) ?_ _
          have LZ := hide (((below_drewN HBL.out 1).trans (b8.mono HBL.out.size)).trans (b9.mono (Nat.le_trans HBL.out.size b8.size)))
          by_cases hz : z1 < z2
          · go_wp2_with fail
            go_roundw
            case rel => exact ⟨k + 1, by omega, by go_num, by rw [HL.out hz]; rfl, by rw [HL.out hz]; rfl, KZ.out, LZ.out⟩
            case measure => simp [intOf]; omega
          · go_wp2_with fail
            go_roundw
            case rel => exact ⟨k + 1, by omega, by go_num, by rw [HM.out (by omega)]; rfl, by rw [HM.out (by omega)]; rfl, KZ.out, LZ.out⟩
            case measure => simp [intOf]; omega
      · have l3 : ¬ (x : Int) ≤ u := by omega
        have HV := hide (congrArg fndI (Tk.ln_late (t := tk K h cs ds) HX.out hxu))
        have HU := hide (congrArg Option.isSome (Tk.ln_late (t := tk K h cs ds) HX.out hxu))
        generalize fndI ((tk K h cs ds).ln ss u k) = fv at *
        generalize ((tk K h cs ds).ln ss u k).isSome = ov at *
        go_wp2_with fail
        go_quiet (fail)
        all_goals
          go_wp2_with fail
          go_roundw
          case rel => exact ⟨k + 1, by omega, by go_num, by rw [HV.out], by rw [HU.out], HB.out.draws _, below_drewN HBL.out _⟩
          case measure => simp [intOf]; omega
    · obtain rfl : k = ns := by omega
      go_wp2_with fail
      go_ret2
      exact ⟨rfl, HBL.out⟩

set_option maxHeartbeats 4000000 in
theorem at_any (K h : Int) (A : Option Addr) (n c : Nat) (cs : List Int) (A' : Option Addr) (c' : Nat) (ds : List Int) (Sp : Option Addr) (ns sc : Nat) (ss : List Int) (w : World)
    (hT : Tin w A n c cs A' n c' ds) (hS : Row w Sp ns sc ss) (ok : (tk K h cs ds).Ok n) (hn1 : 1 ≤ n) (hn : n ≤ 12) (hs : SetTo ss n ns) :
    Calls Try.prog 71 #[.agg #[.int .i64 K, .int .i64 h, .slice A n c, .slice A' n c'], .slice Sp ns sc] w (AtPost (tk K h cs ds) (inS ss) n w) := by
  have HT := hide hT
  have HSr := hide hS
  have OK := hide ok
  have HSt := hide hs
  have LS := hide hS.length
  obtain ⟨b, off, r⟩ := hT.2
  obtain rfl := r.at_ (by omega)
  have hcap := r.cap
  have hmax := r.max
  have R := hide r
  have B0 := hide ((Below.refl w.heap.size w).alloc (Nat.le_refl _) (.cells #[.int .i64 K, .int .i64 h, .slice A n c, .slice (some ⟨b, off, none⟩) n c'] 24))
  have K0 := hide (Bk.born w 24 #[.int .i64 K, .int .i64 h, .slice A n c, .slice (some ⟨b, off, none⟩) n c'])
  clear hT hS ok hs r
  obtain ⟨k0, k1, k2, k3, _⟩ := K0.out.four
  go_enter Try.func71, Try.ntmps71
  go_wp2_with (at_make; refine wpList_mk _ rfl _ _ rfl w.heap.size n rfl rfl (by omega) (by simp) ?_; intro w1 o1 b1 s1)
  have B1 := hide (B0.out.trans (b1.mono (by simp)))
  have K1 := hide (K0.out.keep b1 (by simp))
  have O1 := hide o1
  simp only [World.size_alloc] at *
  clear b1 o1 k0 k1 k2 k3
  generalize hSS : inS ss = S at *
  go_loopw [16] (fun i wr => ∃ k : Nat, k ≤ n ∧ i = .int .i64 k ∧ (∀ u, u < k → (tk K h cs ds).d u ≠ 0 → (tk K h cs ds).near S u (u + 1) ≠ none) ∧
      Own wr w.heap.size (some ⟨w.heap.size + 1, 0, none⟩) n n ((tk K h cs ds).aL ((tk K h cs ds).ast S) n k) ∧
      Bk wr w.heap.size 24 #[.int .i64 K, .int .i64 h, .slice A n c, .slice (some ⟨b, off, none⟩) n c'] ∧ Below w.heap.size w wr) (fun i _ => n - (intOf i).toNat)
  case atStart => exact ⟨0, by omega, rfl, fun u hu => by omega, by rw [Tk.aL_zero]; exact O1.out, K1.out, B1.out⟩
  case round =>
    obtain ⟨k, hk, rfl, hcan, ho, hb, hbel⟩ := hrel
    have HC := hide hcan
    have HO := hide ho
    have HB := hide hb
    have HBL := hide hbel
    clear hcan ho hb hbel
    obtain ⟨k0, k1, k2, k3, _⟩ := HB.out.four
    by_cases hlt : k < n
    · have d0 := OK.out.d0 k hlt
      have d1 := OK.out.d1 k hlt
      have cd := (R.out.below HBL.out (Nat.le_refl _)).cell k hlt
      rw [← tk_d K h cs ds k] at cd
      have HN := hide (fun (e : (tk K h cs ds).d k = 0) => (tk K h cs ds).aL_none ((tk K h cs ds).ast S) (n := n) e)
      generalize hy : (tk K h cs ds).d k = y at *
      have HY := hide hy
      clear hy
      have l2 : (k : Int) < n := by omega
      by_cases h0 : y = 0
      · subst h0
        go_wp2_with fail
        go_roundw
        case rel => exact ⟨k + 1, by omega, by go_num, fun u hu hd => by
          by_cases e : u = k
          · subst e; exact absurd HY.out hd
          · exact HC.out u (by omega) hd, by rw [HN.out rfl]; exact HO.out, HB.out, HBL.out⟩
        case measure => simp [intOf]; omega
      · have h0' : (y == 0) = false := by simpa using h0
        have HTr := hide (HT.out.below HBL.out (Nat.le_refl _))
        have HSx := hide (HSr.out.below HBL.out (Nat.le_refl _))
        have HLN := hide (show (tk K h cs ds).ln ss k ns = (tk K h cs ds).near S k (k + 1) by rw [← hSS, ← LS.out]; exact (tk K h cs ds).ln_all (by rw [LS.out]; exact HSt.out) hlt)
        go_wp2_with fail
        refine (nearest_any K h A n c cs (some ⟨b, off, none⟩) c' ds Sp ns sc ss k _ HTr.out HSx.out OK.out hn HSt.out hlt).mono ?_
        rw [HLN.out]
        rintro e w2 ⟨rfl, b2⟩
        have HB2 := hide (HB.out.keep b2 HB.out.in_)
        have HO2 := hide (HO.out.below b2 (Nat.le_refl _))
        have HL2 := hide (HBL.out.trans (b2.mono HBL.out.size))
        clear b2 k0 k1 k2 k3 cd
        obtain ⟨k0, k1, k2, k3, _⟩ := HB2.out.four
        cases hnr : (tk K h cs ds).near S k (k + 1) with
        | none =>
          have HF := hide (show ¬ (tk K h cs ds).Can S n from fun f => f k hlt (by rw [HY.out]; exact h0) hnr)
          rw [show fndI none = 0 from rfl, show (none : Option Nat).isSome = false from rfl]
          go_wp2_with fail
          go_ret2
          exact ⟨HL2.out, Or.inl ⟨HF.out, rfl⟩⟩
        | some bn =>
          rw [show fndI (some bn) = (bn : Int) from rfl, show (some bn).isSome = true from rfl]
          have m1 := (((tk K h cs ds).near_spec S k (k + 1)).2 bn hnr).1
          have ea : (tk K h cs ds).ast S k = bn := by unfold Tk.ast; rw [hnr]; rfl
          have hbn : bn < n := by omega
          have cx := HO2.out.cell hbn
          have fz := HO2.out.frozen bn
          have HNX := hide (fun x e => (tk K h cs ds).aL_next ((tk K h cs ds).ast S) (n := n) (k := k) (x := x) (by rw [ea]; exact hbn) e)
          rw [ea, HY.out] at HNX
          have as0 := (Tk.asg_bound OK.out hn (a := (tk K h cs ds).ast S) (m := k) (by omega) bn)
          rw [← Tk.aL_get _ _ hbn] at as0
          have cd := (R.out.below HL2.out (Nat.le_refl _)).cell k hlt
          rw [← tk_d K h cs ds k, HY.out] at cd
          generalize hva : ((tk K h cs ds).aL ((tk K h cs ds).ast S) n k).getD bn 0 = va at *
          have HVA := hide hva
          clear hva
          have wv : IntKind.i64.wrap (va + y) = va + y := IntWalk.i64_in _ (by omega)
          have l5 : (bn : Int) < n := by omega
          go_wp2_with fail
          go_region
          all_goals
            clear wv
            go_wp2_with fail
            go_roundw
            case rel => exact ⟨k + 1, by omega, by go_num, fun u hu hd => by
              by_cases e : u = k
              · subst e; rw [hnr]; exact fun f => by cases f
              · exact HC.out u (by omega) hd, by rw [← HNX.out (va + y) (by first | rfl | (rw [HVA.out]))]; exact (HO2.out.stored bn _).drew, Bk.draw (HB2.out.apart (p := ⟨w.heap.size + 1, bn, none⟩) (by simp) _), (HL2.out.setCell (p := ⟨w.heap.size + 1, bn, none⟩) (by simp) _).drew⟩
            case measure => simp [intOf]; omega
    · obtain rfl : k = n := by omega
      go_wp2_with fail
      go_ret2
      exact ⟨HBL.out, Or.inr ⟨HC.out, _, _, rfl, HO.out⟩⟩

open Classical in
/-- The error of a task and a list of hours. -/
noncomputable def errS (K h : Int) (cs ds ss : List Int) : Int := if OkT K h cs ds ∧ SetTo ss ds.length ss.length then 0 else 1
theorem errS_task {K h : Int} {cs ds ss : List Int} (o : ¬ OkT K h cs ds) : errS K h cs ds ss = 1 := by unfold errS; rw [if_neg fun x => o x.1]
theorem errS_set {K h : Int} {cs ds ss : List Int} (o : ¬ SetTo ss ds.length ss.length) : errS K h cs ds ss = 1 := by unfold errS; rw [if_neg fun x => o x.2]
theorem errS_ok {K h : Int} {cs ds ss : List Int} (o : OkT K h cs ds) (s : SetTo ss ds.length ss.length) : errS K h cs ds ss = 0 := by unfold errS; rw [if_pos ⟨o, s⟩]
theorem errS_zero {K h : Int} {cs ds ss : List Int} (e : errS K h cs ds ss = 0) : OkT K h cs ds ∧ SetTo ss ds.length ss.length := by
  unfold errS at e
  split at e
  · assumption
  · contradiction
theorem errT_not {K h : Int} {cs ds : List Int} (e : ¬ errT K h cs ds = 0) : ¬ OkT K h cs ds := fun o => e (errT_ok o)
def At3 (t : Tk) (S : Nat → Bool) (n : Nat) (er : Int) (w : World) (e : Ending) (w' : World) : Prop :=
  Below w.heap.size w w' ∧ (((er ≠ 0 ∨ ¬ t.Can S n) ∧ e = .returned (.tuple #[.slice none 0 0, .bool false, .int .i64 er])) ∨
    (er = 0 ∧ t.Can S n ∧ ∃ A c, e = .returned (.tuple #[.slice A n c, .bool true, .int .i64 0]) ∧ Own w' w.heap.size A n c (t.aL (t.ast S) n n)))

set_option maxHeartbeats 4000000 in
theorem At_any (K h : Int) (A : Option Addr) (n c : Nat) (cs : List Int) (A' : Option Addr) (n' c' : Nat) (ds : List Int) (Sp : Option Addr) (ns sc : Nat) (ss : List Int) (w : World)
    (hT : Tin w A n c cs A' n' c' ds) (hS : Row w Sp ns sc ss) :
    Calls Try.prog 37 #[.agg #[.int .i64 K, .int .i64 h, .slice A n c, .slice A' n' c'], .slice Sp ns sc] w (At3 (tk K h cs ds) (inS ss) n' (errS K h cs ds ss) w) := by
  have HT := hide hT
  have HSr := hide hS
  have LS := hide hS.length
  have L2 := hT.2.length
  have B0 := hide ((Below.refl w.heap.size w).alloc (Nat.le_refl _) (.cells #[.int .i64 K, .int .i64 h, .slice A n c, .slice A' n' c'] 24))
  have K0 := hide (Bk.born w 24 #[.int .i64 K, .int .i64 h, .slice A n c, .slice A' n' c'])
  clear hT hS
  by_cases he : errT K h cs ds = 0
  case neg =>
    have HE := hide (errS_task (ss := ss) (errT_not he))
    have H1 := hide (errT_ne he)
    clear he
    go_enter Try.func37, Try.ntmps37
    go_wp2_with fail
    refine (Validate_any K h _ n c cs _ n' c' ds _ (HT.out.below B0.out (Nat.le_refl _))).mono ?_
    rw [H1.out]
    rintro e w1 ⟨rfl, b1⟩
    go_wp2_with fail
    go_ret3
    rw [HE.out]
    exact ⟨B0.out.trans (b1.mono B0.out.size), Or.inl ⟨Or.inl (by decide), rfl⟩⟩
  have o := errT_zero he
  have hn1 : 1 ≤ n' := by have := o.n1; omega
  have hn2 : n' ≤ 12 := by have := o.n2; omega
  obtain rfl : n = n' := by have := o.c.1; have := HT.out.1.length; omega
  have OK := hide (by have := o.tk; rw [L2] at this; exact this)
  have HG := hide (fun (s : SetTo ss n ns) => errS_ok (ss := ss) o (by rw [L2, LS.out]; exact s))
  have HB1 := hide (fun (s : ¬ SetTo ss n ns) => errS_set (K := K) (h := h) (cs := cs) (ds := ds) (ss := ss) (by rw [L2, LS.out]; exact s))
  have HE := hide he
  clear he o L2
  go_enter Try.func37, Try.ntmps37
  go_wp2_with fail
  refine (Validate_any K h _ n c cs _ n c' ds _ (HT.out.below B0.out (Nat.le_refl _))).mono ?_
  rw [HE.out]
  rintro e w1 ⟨rfl, b1⟩
  have B1 := hide (B0.out.trans (b1.mono B0.out.size))
  have K1 := hide (K0.out.keep b1 K0.out.in_)
  clear b1
  go_wp2_with fail
  go_loopw [19] (fun i wr => ∃ k : Nat, k ≤ ns ∧ i = .int .i64 k ∧ SetTo ss n k ∧
      Bk wr w.heap.size 24 #[.int .i64 K, .int .i64 h, .slice A n c, .slice A' n c'] ∧ Below w.heap.size w wr) (fun i _ => ns - (intOf i).toNat)
  case atStart => exact ⟨0, by omega, rfl, SetTo.zero _ _, K1.out, B1.out⟩
  case round =>
    obtain ⟨k, hk, rfl, hst, hb, hbel⟩ := hrel
    have HST := hide hst
    have HB := hide hb
    have HBL := hide hbel
    clear hst hb hbel
    obtain ⟨k0, k1, k2, k3, _⟩ := HB.out.four
    by_cases hlt : k < ns
    · obtain ⟨bs, os, rs⟩ := HSr.out
      obtain rfl := rs.at_ (by omega)
      have rcap := rs.cap
      have rmax := rs.max
      have RS := hide (rs.below HBL.out (Nat.le_refl _))
      clear rs
      have cx := RS.out.cell k hlt
      have l2 : (k : Int) < ns := by omega
      have HY := hide (fun a b => HST.out.succ (k := k) a b)
      have HN := hide (fun (q : ¬ (0 ≤ ss.getD k 0 ∧ ss.getD k 0 ≤ (n : Int) - 1)) => HB1.out fun f => q (f k hlt).1)
      have HP := hide (fun (q0 : 0 < k) (q : ¬ ss.getD (k - 1) 0 < ss.getD k 0) => HB1.out fun f => q ((f k hlt).2 q0))
      generalize hx : ss.getD k 0 = x at *
      clear hx
      by_cases h0 : x < 0
      · have h0' : ¬ 0 ≤ x := by omega
        go_wp2_with fail
        go_ret3
        rw [HN.out (by omega)]
        exact ⟨HBL.out, Or.inl ⟨Or.inl (by decide), rfl⟩⟩
      · by_cases h1 : x < n
        · cases k with
          | zero =>
            rw [Nat.add_zero] at cx
            go_wp2_with fail
            go_roundw
            case rel => exact ⟨1, by omega, by go_num, HY.out ⟨by omega, by omega⟩ fun q => by omega, HB.out, HBL.out⟩
            case measure => simp [intOf]; omega
          | succ j =>
            have cp := RS.out.cell j (by omega)
            rw [show j + 1 - 1 = j from rfl] at HY HP
            generalize hp : ss.getD j 0 = p at *
            clear hp
            have wj : IntKind.i64.wrap ((j : Int) + 1 - 1) = j := by rw [Int.add_sub_cancel]; exact IntWalk.i64_in _ (by omega)
            have l3 : (j : Int) < ns := by omega
            have l4 : (0 : Int) < (j : Int) + 1 := by omega
            by_cases h2 : p < x
            · have h2' : ¬ x ≤ p := by omega
              go_wp2_with fail
              go_roundw
              case rel => exact ⟨j + 2, by omega, by go_num, HY.out ⟨by omega, by omega⟩ fun _ => h2, HB.out, HBL.out⟩
              case measure => simp [intOf]; omega
            · have h2' : x ≤ p := by omega
              go_wp2_with fail
              go_ret3
              rw [HP.out (by omega) h2]
              exact ⟨HBL.out, Or.inl ⟨Or.inl (by decide), rfl⟩⟩
        · have h1' : (n : Int) ≤ x := by omega
          go_wp2_with fail
          go_ret3
          rw [HN.out (by omega)]
          exact ⟨HBL.out, Or.inl ⟨Or.inl (by decide), rfl⟩⟩
    · obtain rfl : k = ns := by omega
      go_wp2_with fail
      refine (at_any K h _ n c cs _ c' ds Sp k sc ss _ (HT.out.below HBL.out (Nat.le_refl _)) (HSr.out.below HBL.out (Nat.le_refl _)) OK.out hn1 hn2 HST.out).mono ?_
      rintro e w2 ⟨b2, (⟨hc, rfl⟩ | ⟨hc, A2, c2, rfl, o2⟩)⟩
      · have HC := hide hc
        go_wp2_with fail
        go_ret3
        rw [HG.out HST.out]
        exact ⟨HBL.out.trans (b2.mono HBL.out.size), Or.inl ⟨Or.inr HC.out, rfl⟩⟩
      · have HC := hide hc
        have HO := hide o2
        clear o2
        go_wp2_with fail
        go_ret3
        rw [HG.out HST.out]
        exact ⟨HBL.out.trans (b2.mono HBL.out.size), Or.inr ⟨rfl, HC.out, _, _, rfl, HO.out.more HBL.out.size⟩⟩

end Go.Proofs.Ytlndjjdggedljaa
