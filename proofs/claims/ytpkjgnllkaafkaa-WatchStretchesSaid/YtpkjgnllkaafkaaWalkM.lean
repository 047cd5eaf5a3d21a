/- The iterator over the pairs of shifts that overlap. -/
import Derived.Test.YtpkjgnllkaafkaaWalkL
import Derived.Test.YtpkjgnllkaafkaaMA
import Derived.Stop.RegionWithIn
namespace Go.Proofs.Ytpkjgnllkaafkaa
open Go.RowKit Go.Shelf
attribute [local go_sem] Oper.semAt_some

/-- A pair of numbers of shifts. -/
abbrev Ep (n : Nat) := { p : Nat × Nat // p.1 < n ∧ p.2 < n }
def epE {n : Nat} (x : Ep n) : Array Value := #[.int .i64 x.1.1, .int .i64 x.1.2]
/-- What came: pairs, the first ones of all. -/
def vals {n : Nat} (ys : List (Ep n)) : List (Nat × Nat) := ys.map (·.1)
theorem vals_snoc {n : Nat} (ys : List (Ep n)) (x : Ep n) : vals (ys ++ [x]) = vals ys ++ [x.1] := by simp [vals]
theorem vals_len {n : Nat} (ys : List (Ep n)) : (vals ys).length = ys.length := by simp [vals]
theorem abides_below {β : Type} {B : Nat} {J : β → World → Prop} (h : AbidesFrom B J) {s : β} {W W' : World} (hs : J s W) (hb : Below W.heap.size W W') : J s W' :=
  h s W _ none hs (grown_of_below hb (Nat.le_refl _) none) (fun r e => by cases e)
theorem below_undrew {B : Nat} {W W' : World} (h : Below B W.drew W') : Below B W W' := ⟨h.os, h.tape, h.output, h.size, h.block⟩
/-- A round's answer, as one. -/
def Said {α : Type} (J Jx : List α → World → Prop) (Kp : World → World → Prop) (pre : List α) (W : World) (b : Bool) (W' : World) : Prop :=
  (b = true → J pre W' ∧ Kp W W') ∧ (b = false → Jx pre W')

set_option maxRecDepth 100000 in
set_option maxHeartbeats 4000000 in
theorem overlaps1_in (l Bs b off n c : Nat) (A : Option Addr) (xs : Ls) (hn : n ≤ 12)
    (J Jx : List (Ep n) → World → Prop) (hAb : ∃ B, AbidesFrom B J)
    (hY : ∀ pre x W, J pre W → pre.length < 1000 → YieldAt Fence.wide 1 Try.prog l (epE x) W fun e W' =>
      (e = .returned (.bool true) ∧ J (pre ++ [x]) W' ∧ KB2 b Bs W W') ∨ (e = .returned (.bool false) ∧ Jx (pre ++ [x]) W'))
    (W : World) (hBs : W.cell? ⟨Bs, 0, none⟩ = some (.slice A n c)) (hc : RAt E3 W A n c xs b off) (h0 : J [] W) :
    CallsIn Fence.wide 2 Try.prog 91 #[.func (.yield l) #[] #[], .pointer (some ⟨Bs, 0, none⟩)] W fun e W' => (∃ v, e = .returned v) ∧
      ((∃ ys, vals ys = allp xs n ∧ J ys W') ∨ (∃ pre, (∃ q, vals pre ++ q = allp xs n) ∧ Jx pre W')) := by
  obtain ⟨BA, hAb⟩ := hAb
  have HAB := hide hAb
  have HL := hide hc.len
  have HC := hide hc
  have HGL := hide hc.lt
  have hcap := hc.cap
  have hmax := hc.max
  have HBS := hide hBs
  have HYB := hide (fun pre x W h1 h2 => (hY pre x W h1 h2).mono (R' := fun e W' => ∃ bb : Bool, e = .returned (.bool bb) ∧ Said J Jx (KB2 b Bs) (pre ++ [x]) W bb W') (by
    rintro e W' (⟨rfl, h3, h4⟩ | ⟨rfl, h3⟩)
    · exact ⟨true, rfl, (fun _ => ⟨h3, h4⟩), (fun h => by cases h)⟩
    · exact ⟨false, rfl, (fun h => by cases h), (fun _ => h3)⟩))
  clear hc hAb hY
  refine callsIn_of_wp Try.func91 rfl trivial ?_ rfl
  simp only [Try.ntmps91, List.size_toArray, List.length_cons, List.length_nil, Nat.reduceAdd, Nat.reduceSub, Array.replicate_succ, Array.replicate_zero, List.push_toArray, List.append_toArray, List.nil_append, List.cons_append]
  gi_wp2
  clear hBs
  gi_loopw [7] (fun i wr => ∃ (j : Nat) (ys : List (Ep n)), j ≤ n ∧ i = .int .i64 j ∧ Hid (vals ys = allp xs j) ∧ Hid (J ys wr) ∧ Hid (KB2 b Bs W wr))
    (fun i _ => n - (intOf i).toNat)
  case atStart => exact ⟨0, [], Nat.zero_le _, rfl, hide rfl, hide h0, hide ⟨KB.refl _ _, KB.refl _ _⟩⟩
  case round =>
    obtain ⟨j, ys, hj, rfl, HV, HJ, HK⟩ := hrel
    by_cases hlt : j < n
    · gi_wp2
      gi_loopw [11] (fun i wr => ∃ (k : Nat) (ys : List (Ep n)), k ≤ j ∧ i = .int .i64 k ∧ Hid (vals ys = allp xs j ++ rowTo xs j k) ∧ Hid (J ys wr) ∧ Hid (KB2 b Bs W wr))
        (fun i _ => j - (intOf i).toNat)
      case atStart => exact ⟨0, ys, Nat.zero_le _, rfl, hide (by rw [HV.out, rowTo_zero, List.append_nil]), HJ, HK⟩
      case round =>
        clear HV HJ HK
        obtain ⟨k, zs, hk, rfl, HV, HJ, HK⟩ := hrel
        by_cases hkj : k < j
        · obtain rfl := HC.out.at_ (by omega)
          have hRr := HC.out.kb HK.out.1
          obtain ⟨a1, a2, a3⟩ := c3 hRr (k := k) (by omega)
          obtain ⟨d1, d2, d3⟩ := c3 hRr (k := j) hlt
          have hBr := (kb_cell (i := 0) HK.out.2).trans HBS.out
          have hbr : b < wr.heap.size := hRr.lt (by omega)
          have hBsr : Bs < wr.heap.size := World.block_lt_of_cell? wr _ hBr
          have hzl : zs.length < 1000 := by
            have h1 := vals_len zs
            rw [HV.out, List.length_append] at h1
            have h2 := allp_len xs j (by omega)
            have h3 := rowTo_len xs j k
            omega
          have HYS := hide (rowTo_yes (l := xs) (j := j) (i := k))
          have HNO := hide (rowTo_no (l := xs) (j := j) (i := k))
          clear hRr
          generalize xs.getD k sh0 = x at *
          generalize xs.getD j sh0 = y at *
          obtain ⟨x1, x2, x3⟩ := x
          obtain ⟨y1, y2, y3⟩ := y
          dsimp only at a1 a2 a3 d1 d2 d3
          have i1 : (k : Int) < (n : Int) := by omega
          have hkn : k < n := by omega
          have i2 : (j : Int) < (n : Int) := by omega
          cases hov : ovB (x1, x2, x3) (y1, y2, y3) with
          | true =>
            have HR1 := hide (HYS.out hov)
            have HOV := hide hov
            clear hov HNO HYS
            gi_wp2
            refine wpIn_region_any (by kernel_rfl) ?_
            try (change wpAnyIn _ _ _ _ _ _ _ _ _ (World.drew _))
            refine wpAnyIn_take (i := 1) (oi := { dst := some 15, op := Op.move (Operand.tmp 4), type := 3, pos := "watch.go:77", after := #[], guard := none }) (v := ?_) rfl rfl (by kernel_rfl) (by kernel_rfl) (by kernel_rfl) (fun _ _ _ h => h) ⟨Or.inl ⟨by rfl, ?_⟩, fun _ => rfl⟩ ?_
            rotate_left
            · intro w
              first | (go_simp; done) | (go_simp; with_reducible rfl)
            try simp only [Act.put, List.setIfInBounds_toArray, List.set_cons_zero, List.set_cons_succ]
            refine wpAnyIn_take (i := 5) (oi := { dst := some 19, op := Op.move (Operand.tmp 3), type := 3, pos := "watch.go:77", after := #[], guard := none }) (v := ?_) rfl rfl (by kernel_rfl) (by kernel_rfl) (by kernel_rfl) (fun _ _ _ h => h) ⟨Or.inl ⟨by rfl, ?_⟩, fun _ => rfl⟩ ?_
            rotate_left
            · intro w
              first | (go_simp; done) | (go_simp; with_reducible rfl)
            try simp only [Act.put, List.setIfInBounds_toArray, List.set_cons_zero, List.set_cons_succ]
            refine wpAnyIn_ready (rs := [0, 4]) (by kernel_rfl) (by simp) ?_
            refine AllReadyIn.cons (o := { dst := some 14, op := Op.load 22 (Operand.tmp 1), type := 22, pos := "watch.go:77", after := #[], guard := none }) rfl (fun K hK => ?_) ?_
            · go_simp
              (try gi_wp2)
              (try (refine hK _ _ ?_; clear hK K))
              try simp only [Act.put, List.setIfInBounds_toArray, List.set_cons_zero, List.set_cons_succ]
              refine wpAnyIn_take (i := 2) (oi := { dst := some 16, op := Op.indexAddr 22 (Operand.tmp 14) (Operand.tmp 15), type := 0, pos := "watch.go:77", after := #[{ on := 0, ground := Ground.data }, { on := 1, ground := Ground.data }], guard := none }) (v := ?_) rfl rfl (by kernel_rfl) (by kernel_rfl) (by kernel_rfl) (fun _ _ _ h => h) ⟨Or.inl ⟨by rfl, ?_⟩, fun _ => rfl⟩ ?_
              rotate_left
              · intro w
                first | (go_simp; done) | (go_simp; with_reducible rfl)
              try simp only [Act.put, List.setIfInBounds_toArray, List.set_cons_zero, List.set_cons_succ]
              refine wpAnyIn_ready (rs := [3, 4]) (by kernel_rfl) (by simp) ?_
              refine AllReadyIn.cons (o := { dst := some 17, op := Op.load 57 (Operand.tmp 16), type := 57, pos := "watch.go:77", after := #[{ on := 2, ground := Ground.data }], guard := none }) rfl (fun K hK => ?_) ?_
              · go_simp
                (try gi_wp2)
                (try (refine hK _ _ ?_; clear hK K))
                try simp only [Act.put, List.setIfInBounds_toArray, List.set_cons_zero, List.set_cons_succ]
                refine wpAnyIn_ready (rs := [4]) (by kernel_rfl) (by simp) ?_
                refine AllReadyIn.cons (o := { dst := some 18, op := Op.load 22 (Operand.tmp 1), type := 22, pos := "watch.go:77", after := #[], guard := none }) rfl (fun K hK => ?_) ?_
                · go_simp
                  (try gi_wp2)
                  (try (refine hK _ _ ?_; clear hK K))
                  try simp only [Act.put, List.setIfInBounds_toArray, List.set_cons_zero, List.set_cons_succ]
                  refine wpAnyIn_take (i := 6) (oi := { dst := some 20, op := Op.indexAddr 22 (Operand.tmp 18) (Operand.tmp 19), type := 0, pos := "watch.go:77", after := #[{ on := 4, ground := Ground.data }, { on := 5, ground := Ground.data }], guard := none }) (v := ?_) rfl rfl (by kernel_rfl) (by kernel_rfl) (by kernel_rfl) (fun _ _ _ h => h) ⟨Or.inl ⟨by rfl, ?_⟩, fun _ => rfl⟩ ?_
                  rotate_left
                  · intro w
                    first | (go_simp; done) | (go_simp; with_reducible rfl)
                  try simp only [Act.put, List.setIfInBounds_toArray, List.set_cons_zero, List.set_cons_succ]
                  refine wpAnyIn_ready (rs := [7]) (by kernel_rfl) (by simp) ?_
                  refine AllReadyIn.cons (o := { dst := some 21, op := Op.load 57 (Operand.tmp 20), type := 57, pos := "watch.go:77", after := #[{ on := 6, ground := Ground.data }], guard := none }) rfl (fun K hK => ?_) ?_
                  · go_simp
                    (try gi_wp2)
                    (try (refine hK _ _ ?_; clear hK K))
                    try simp only [Act.put, List.setIfInBounds_toArray, List.set_cons_zero, List.set_cons_succ]
                    refine wpAnyIn_ready (rs := [8]) (by kernel_rfl) (by simp) ?_
                    refine AllReadyIn.cons (o := { dst := some 22, op := Op.call { callee := Callee.value (Operand.func 59), args := #[Operand.tmp 17, Operand.tmp 21], argTypes := #[57, 57] }, type := 4, pos := "watch.go:77", after := #[{ on := 3, ground := Ground.data }, { on := 7, ground := Ground.data }], guard := none }) rfl (fun K hK => ?_) AllReadyIn.nil
                    rw [if_pos (by rfl)]
                    go_simp
                    refine ⟨trivial, ?_⟩; gi_at_call 59; refine (callsIn_wide.2 (overlap_any _ _ _ _ _ _ _)).mono ?_; rintro e w3 ⟨rfl, b3⟩; rw [HOV.out]
                    have hJ3 := abides_below HAB.out HJ.out (below_undrew b3)
                    have HK3 := hide (HK.out.trans ⟨KB.of_below (below_undrew b3) hbr, KB.of_below (below_undrew b3) hBsr⟩)
                    clear b3
                    obtain ⟨fn, tmps, assign, body, hy, hR⟩ := HYB.out zs ⟨(k, j), hkn, hlt⟩ w3 hJ3 hzl
                    dsimp only [epE] at hy
                    first | (refine hK _ _ ?_; clear hK K) | (gi_wp2; refine hK _ _ ?_; clear hK K)
                    try simp only [Act.put, List.setIfInBounds_toArray, List.set_cons_zero, List.set_cons_succ]
                    refine wpAnyIn_take (i := 9) (oi := { dst := some 23, op := Op.move (Operand.tmp 22), type := 4, pos := "watch.go:77", after := #[{ on := 8, ground := Ground.data }, { on := 8, ground := Ground.chain }], guard := none }) (v := ?_) rfl rfl (by kernel_rfl) (by kernel_rfl) (by kernel_rfl) (fun _ _ _ h => h) ⟨Or.inl ⟨by rfl, ?_⟩, fun _ => rfl⟩ ?_
                    rotate_left
                    · intro w
                      first | (go_simp; done) | (go_simp; with_reducible rfl)
                    try simp only [Act.put, List.setIfInBounds_toArray, List.set_cons_zero, List.set_cons_succ]
                    refine wpAnyIn_take (i := 10) (oi := { dst := some 24, op := Op.move (Operand.tmp 0), type := 98, pos := "watch.go:77", after := #[{ on := 9, ground := Ground.guard }], guard := some (9, true) }) (v := ?_) rfl rfl (by kernel_rfl) (by kernel_rfl) (by kernel_rfl) (fun _ _ _ h => h) ⟨Or.inl ⟨by rfl, ?_⟩, fun _ => rfl⟩ ?_
                    rotate_left
                    · intro w
                      first | (go_simp; done) | (go_simp; with_reducible rfl)
                    try simp only [Act.put, List.setIfInBounds_toArray, List.set_cons_zero, List.set_cons_succ]
                    refine wpAnyIn_take (i := 11) (oi := { dst := some 25, op := Op.move (Operand.tmp 4), type := 3, pos := "watch.go:77", after := #[{ on := 9, ground := Ground.guard }], guard := some (9, true) }) (v := ?_) rfl rfl (by kernel_rfl) (by kernel_rfl) (by kernel_rfl) (fun _ _ _ h => h) ⟨Or.inl ⟨by rfl, ?_⟩, fun _ => rfl⟩ ?_
                    rotate_left
                    · intro w
                      first | (go_simp; done) | (go_simp; with_reducible rfl)
                    try simp only [Act.put, List.setIfInBounds_toArray, List.set_cons_zero, List.set_cons_succ]
                    refine wpAnyIn_take (i := 12) (oi := { dst := some 26, op := Op.move (Operand.tmp 3), type := 3, pos := "watch.go:77", after := #[{ on := 9, ground := Ground.guard }], guard := some (9, true) }) (v := ?_) rfl rfl (by kernel_rfl) (by kernel_rfl) (by kernel_rfl) (fun _ _ _ h => h) ⟨Or.inl ⟨by rfl, ?_⟩, fun _ => rfl⟩ ?_
                    rotate_left
                    · intro w
                      first | (go_simp; done) | (go_simp; with_reducible rfl)
                    try simp only [Act.put, List.setIfInBounds_toArray, List.set_cons_zero, List.set_cons_succ]
                    refine wpAnyIn_ready (rs := [13]) (by kernel_rfl) (by simp) ?_
                    refine AllReadyIn.cons (o := { dst := some 27, op := Op.call { callee := Callee.value (Operand.tmp 24), args := #[Operand.tmp 25, Operand.tmp 26], argTypes := #[3, 3] }, type := 4, pos := "watch.go:77", after := #[{ on := 10, ground := Ground.data }, { on := 11, ground := Ground.data }, { on := 12, ground := Ground.data }, { on := 9, ground := Ground.chain }, { on := 9, ground := Ground.guard }], guard := some (9, true) }) rfl (fun K hK => ?_) AllReadyIn.nil
                    rw [if_pos (by rfl)]
                    go_simp
                    refine hR.mono ?_
                    rintro e W3 ⟨bb, rfl, hs⟩
                    have HSD := hide hs
                    clear hs hR hy
                    first | (refine hK _ _ ?_; clear hK K) | (gi_wp2; refine hK _ _ ?_; clear hK K)
                    try simp only [Act.put, List.setIfInBounds_toArray, List.set_cons_zero, List.set_cons_succ]
                    refine wpAnyIn_take (i := 14) (oi := { dst := some 28, op := Op.unOp UnOp.not 4 (Operand.tmp 27), type := 4, pos := "watch.go:77", after := #[{ on := 13, ground := Ground.data }, { on := 9, ground := Ground.guard }], guard := some (9, true) }) (v := ?_) rfl rfl (by kernel_rfl) (by kernel_rfl) (by kernel_rfl) (fun _ _ _ h => h) ⟨Or.inl ⟨by rfl, ?_⟩, fun _ => rfl⟩ ?_
                    rotate_left
                    · intro w
                      first | (go_simp; done) | (go_simp; with_reducible rfl)
                    try simp only [Act.put, List.setIfInBounds_toArray, List.set_cons_zero, List.set_cons_succ]
                    refine wpAnyIn_take (i := 15) (oi := { dst := some 29, op := Op.pick (Operand.tmp 23) (Operand.tmp 28) (Operand.const (Value.bool false)), type := 4, pos := "watch.go:77", after := #[{ on := 9, ground := Ground.data }, { on := 14, ground := Ground.data }], guard := none }) (v := ?_) rfl rfl (by kernel_rfl) (by kernel_rfl) (by kernel_rfl) (fun _ _ _ h => h) ⟨Or.inl ⟨by rfl, ?_⟩, fun _ => rfl⟩ ?_
                    rotate_left
                    · intro w
                      first | (go_simp; done) | (go_simp; with_reducible rfl)
                    try simp only [Act.put, List.setIfInBounds_toArray, List.set_cons_zero, List.set_cons_succ]
                    refine wpAnyIn_done (by kernel_rfl) ?_ _
                    cases bb with
                    | true =>
                      have hs := HSD.out.1 rfl
                      have HJ3 := hide hs.1
                      have HKZ := hide (HK3.out.trans hs.2)
                      clear hs hJ3
                      gi_wp2
                      go_roundw
                      case rel => exact ⟨k + 1, zs ++ [⟨(k, j), hkn, hlt⟩], by omega, by go_num, hide (by rw [vals_snoc, HV.out, HR1.out, List.append_assoc]), HJ3, HKZ⟩
                      case measure => simp [intOf]; omega
                    | false =>
                      have hs := HSD.out.2 rfl
                      have HJX := hide hs
                      clear hs hJ3
                      gi_wp2
                      refine bodyPost_ret (results_none rfl _ _ _) rfl ?_
                      refine ⟨⟨_, rfl⟩, .inr ⟨_, ?_, HJX.out⟩⟩
                      rw [vals_snoc, HV.out, List.append_assoc, ← HR1.out]
                      exact allp_pre xs hkj hlt
                  exact AllReadyIn.nil
                exact AllReadyIn.nil
              refine AllReadyIn.cons (o := { dst := some 18, op := Op.load 22 (Operand.tmp 1), type := 22, pos := "watch.go:77", after := #[], guard := none }) rfl (fun K hK => ?_) ?_
              · go_simp
                (try gi_wp2)
                (try (refine hK _ _ ?_; clear hK K))
                try simp only [Act.put, List.setIfInBounds_toArray, List.set_cons_zero, List.set_cons_succ]
                refine wpAnyIn_take (i := 6) (oi := { dst := some 20, op := Op.indexAddr 22 (Operand.tmp 18) (Operand.tmp 19), type := 0, pos := "watch.go:77", after := #[{ on := 4, ground := Ground.data }, { on := 5, ground := Ground.data }], guard := none }) (v := ?_) rfl rfl (by kernel_rfl) (by kernel_rfl) (by kernel_rfl) (fun _ _ _ h => h) ⟨Or.inl ⟨by rfl, ?_⟩, fun _ => rfl⟩ ?_
                rotate_left
                · intro w
                  first | (go_simp; done) | (go_simp; with_reducible rfl)
                try simp only [Act.put, List.setIfInBounds_toArray, List.set_cons_zero, List.set_cons_succ]
                refine wpAnyIn_ready (rs := [3, 7]) (by kernel_rfl) (by simp) ?_
                refine AllReadyIn.cons (o := { dst := some 17, op := Op.load 57 (Operand.tmp 16), type := 57, pos := "watch.go:77", after := #[{ on := 2, ground := Ground.data }], guard := none }) rfl (fun K hK => ?_) ?_
                · go_simp
                  (try gi_wp2)
                  (try (refine hK _ _ ?_; clear hK K))
                  try simp only [Act.put, List.setIfInBounds_toArray, List.set_cons_zero, List.set_cons_succ]
                  refine wpAnyIn_ready (rs := [7]) (by kernel_rfl) (by simp) ?_
                  refine AllReadyIn.cons (o := { dst := some 21, op := Op.load 57 (Operand.tmp 20), type := 57, pos := "watch.go:77", after := #[{ on := 6, ground := Ground.data }], guard := none }) rfl (fun K hK => ?_) ?_
                  · go_simp
                    (try gi_wp2)
                    (try (refine hK _ _ ?_; clear hK K))
                    try simp only [Act.put, List.setIfInBounds_toArray, List.set_cons_zero, List.set_cons_succ]
                    refine wpAnyIn_ready (rs := [8]) (by kernel_rfl) (by simp) ?_
                    refine AllReadyIn.cons (o := { dst := some 22, op := Op.call { callee := Callee.value (Operand.func 59), args := #[Operand.tmp 17, Operand.tmp 21], argTypes := #[57, 57] }, type := 4, pos := "watch.go:77", after := #[{ on := 3, ground := Ground.data }, { on := 7, ground := Ground.data }], guard := none }) rfl (fun K hK => ?_) AllReadyIn.nil
                    rw [if_pos (by rfl)]
                    go_simp
                    refine ⟨trivial, ?_⟩; gi_at_call 59; refine (callsIn_wide.2 (overlap_any _ _ _ _ _ _ _)).mono ?_; rintro e w3 ⟨rfl, b3⟩; rw [HOV.out]
                    have hJ3 := abides_below HAB.out HJ.out (below_undrew b3)
                    have HK3 := hide (HK.out.trans ⟨KB.of_below (below_undrew b3) hbr, KB.of_below (below_undrew b3) hBsr⟩)
                    clear b3
                    obtain ⟨fn, tmps, assign, body, hy, hR⟩ := HYB.out zs ⟨(k, j), hkn, hlt⟩ w3 hJ3 hzl
                    dsimp only [epE] at hy
                    first | (refine hK _ _ ?_; clear hK K) | (gi_wp2; refine hK _ _ ?_; clear hK K)
                    try simp only [Act.put, List.setIfInBounds_toArray, List.set_cons_zero, List.set_cons_succ]
                    refine wpAnyIn_take (i := 9) (oi := { dst := some 23, op := Op.move (Operand.tmp 22), type := 4, pos := "watch.go:77", after := #[{ on := 8, ground := Ground.data }, { on := 8, ground := Ground.chain }], guard := none }) (v := ?_) rfl rfl (by kernel_rfl) (by kernel_rfl) (by kernel_rfl) (fun _ _ _ h => h) ⟨Or.inl ⟨by rfl, ?_⟩, fun _ => rfl⟩ ?_
                    rotate_left
                    · intro w
                      first | (go_simp; done) | (go_simp; with_reducible rfl)
                    try simp only [Act.put, List.setIfInBounds_toArray, List.set_cons_zero, List.set_cons_succ]
                    refine wpAnyIn_take (i := 10) (oi := { dst := some 24, op := Op.move (Operand.tmp 0), type := 98, pos := "watch.go:77", after := #[{ on := 9, ground := Ground.guard }], guard := some (9, true) }) (v := ?_) rfl rfl (by kernel_rfl) (by kernel_rfl) (by kernel_rfl) (fun _ _ _ h => h) ⟨Or.inl ⟨by rfl, ?_⟩, fun _ => rfl⟩ ?_
                    rotate_left
                    · intro w
                      first | (go_simp; done) | (go_simp; with_reducible rfl)
                    try simp only [Act.put, List.setIfInBounds_toArray, List.set_cons_zero, List.set_cons_succ]
                    refine wpAnyIn_take (i := 11) (oi := { dst := some 25, op := Op.move (Operand.tmp 4), type := 3, pos := "watch.go:77", after := #[{ on := 9, ground := Ground.guard }], guard := some (9, true) }) (v := ?_) rfl rfl (by kernel_rfl) (by kernel_rfl) (by kernel_rfl) (fun _ _ _ h => h) ⟨Or.inl ⟨by rfl, ?_⟩, fun _ => rfl⟩ ?_
                    rotate_left
                    · intro w
                      first | (go_simp; done) | (go_simp; with_reducible rfl)
                    try simp only [Act.put, List.setIfInBounds_toArray, List.set_cons_zero, List.set_cons_succ]
                    refine wpAnyIn_take (i := 12) (oi := { dst := some 26, op := Op.move (Operand.tmp 3), type := 3, pos := "watch.go:77", after := #[{ on := 9, ground := Ground.guard }], guard := some (9, true) }) (v := ?_) rfl rfl (by kernel_rfl) (by kernel_rfl) (by kernel_rfl) (fun _ _ _ h => h) ⟨Or.inl ⟨by rfl, ?_⟩, fun _ => rfl⟩ ?_
                    rotate_left
                    · intro w
                      first | (go_simp; done) | (go_simp; with_reducible rfl)
                    try simp only [Act.put, List.setIfInBounds_toArray, List.set_cons_zero, List.set_cons_succ]
                    refine wpAnyIn_ready (rs := [13]) (by kernel_rfl) (by simp) ?_
                    refine AllReadyIn.cons (o := { dst := some 27, op := Op.call { callee := Callee.value (Operand.tmp 24), args := #[Operand.tmp 25, Operand.tmp 26], argTypes := #[3, 3] }, type := 4, pos := "watch.go:77", after := #[{ on := 10, ground := Ground.data }, { on := 11, ground := Ground.data }, { on := 12, ground := Ground.data }, { on := 9, ground := Ground.chain }, { on := 9, ground := Ground.guard }], guard := some (9, true) }) rfl (fun K hK => ?_) AllReadyIn.nil
                    rw [if_pos (by rfl)]
                    go_simp
                    refine hR.mono ?_
                    rintro e W3 ⟨bb, rfl, hs⟩
                    have HSD := hide hs
                    clear hs hR hy
                    first | (refine hK _ _ ?_; clear hK K) | (gi_wp2; refine hK _ _ ?_; clear hK K)
                    try simp only [Act.put, List.setIfInBounds_toArray, List.set_cons_zero, List.set_cons_succ]
                    refine wpAnyIn_take (i := 14) (oi := { dst := some 28, op := Op.unOp UnOp.not 4 (Operand.tmp 27), type := 4, pos := "watch.go:77", after := #[{ on := 13, ground := Ground.data }, { on := 9, ground := Ground.guard }], guard := some (9, true) }) (v := ?_) rfl rfl (by kernel_rfl) (by kernel_rfl) (by kernel_rfl) (fun _ _ _ h => h) ⟨Or.inl ⟨by rfl, ?_⟩, fun _ => rfl⟩ ?_
                    rotate_left
                    · intro w
                      first | (go_simp; done) | (go_simp; with_reducible rfl)
                    try simp only [Act.put, List.setIfInBounds_toArray, List.set_cons_zero, List.set_cons_succ]
                    refine wpAnyIn_take (i := 15) (oi := { dst := some 29, op := Op.pick (Operand.tmp 23) (Operand.tmp 28) (Operand.const (Value.bool false)), type := 4, pos := "watch.go:77", after := #[{ on := 9, ground := Ground.data }, { on := 14, ground := Ground.data }], guard := none }) (v := ?_) rfl rfl (by kernel_rfl) (by kernel_rfl) (by kernel_rfl) (fun _ _ _ h => h) ⟨Or.inl ⟨by rfl, ?_⟩, fun _ => rfl⟩ ?_
                    rotate_left
                    · intro w
                      first | (go_simp; done) | (go_simp; with_reducible rfl)
                    try simp only [Act.put, List.setIfInBounds_toArray, List.set_cons_zero, List.set_cons_succ]
                    refine wpAnyIn_done (by kernel_rfl) ?_ _
                    cases bb with
                    | true =>
                      have hs := HSD.out.1 rfl
                      have HJ3 := hide hs.1
                      have HKZ := hide (HK3.out.trans hs.2)
                      clear hs hJ3
                      gi_wp2
                      go_roundw
                      case rel => exact ⟨k + 1, zs ++ [⟨(k, j), hkn, hlt⟩], by omega, by go_num, hide (by rw [vals_snoc, HV.out, HR1.out, List.append_assoc]), HJ3, HKZ⟩
                      case measure => simp [intOf]; omega
                    | false =>
                      have hs := HSD.out.2 rfl
                      have HJX := hide hs
                      clear hs hJ3
                      gi_wp2
                      refine bodyPost_ret (results_none rfl _ _ _) rfl ?_
                      refine ⟨⟨_, rfl⟩, .inr ⟨_, ?_, HJX.out⟩⟩
                      rw [vals_snoc, HV.out, List.append_assoc, ← HR1.out]
                      exact allp_pre xs hkj hlt
                  exact AllReadyIn.nil
                refine AllReadyIn.cons (o := { dst := some 21, op := Op.load 57 (Operand.tmp 20), type := 57, pos := "watch.go:77", after := #[{ on := 6, ground := Ground.data }], guard := none }) rfl (fun K hK => ?_) ?_
                · go_simp
                  (try gi_wp2)
                  (try (refine hK _ _ ?_; clear hK K))
                  try simp only [Act.put, List.setIfInBounds_toArray, List.set_cons_zero, List.set_cons_succ]
                  refine wpAnyIn_ready (rs := [3]) (by kernel_rfl) (by simp) ?_
                  refine AllReadyIn.cons (o := { dst := some 17, op := Op.load 57 (Operand.tmp 16), type := 57, pos := "watch.go:77", after := #[{ on := 2, ground := Ground.data }], guard := none }) rfl (fun K hK => ?_) ?_
                  · go_simp
                    (try gi_wp2)
                    (try (refine hK _ _ ?_; clear hK K))
                    try simp only [Act.put, List.setIfInBounds_toArray, List.set_cons_zero, List.set_cons_succ]
                    refine wpAnyIn_ready (rs := [8]) (by kernel_rfl) (by simp) ?_
                    refine AllReadyIn.cons (o := { dst := some 22, op := Op.call { callee := Callee.value (Operand.func 59), args := #[Operand.tmp 17, Operand.tmp 21], argTypes := #[57, 57] }, type := 4, pos := "watch.go:77", after := #[{ on := 3, ground := Ground.data }, { on := 7, ground := Ground.data }], guard := none }) rfl (fun K hK => ?_) AllReadyIn.nil
                    rw [if_pos (by rfl)]
                    go_simp
                    refine ⟨trivial, ?_⟩; gi_at_call 59; refine (callsIn_wide.2 (overlap_any _ _ _ _ _ _ _)).mono ?_; rintro e w3 ⟨rfl, b3⟩; rw [HOV.out]
                    have hJ3 := abides_below HAB.out HJ.out (below_undrew b3)
                    have HK3 := hide (HK.out.trans ⟨KB.of_below (below_undrew b3) hbr, KB.of_below (below_undrew b3) hBsr⟩)
                    clear b3
                    obtain ⟨fn, tmps, assign, body, hy, hR⟩ := HYB.out zs ⟨(k, j), hkn, hlt⟩ w3 hJ3 hzl
                    dsimp only [epE] at hy
                    first | (refine hK _ _ ?_; clear hK K) | (gi_wp2; refine hK _ _ ?_; clear hK K)
                    try simp only [Act.put, List.setIfInBounds_toArray, List.set_cons_zero, List.set_cons_succ]
                    refine wpAnyIn_take (i := 9) (oi := { dst := some 23, op := Op.move (Operand.tmp 22), type := 4, pos := "watch.go:77", after := #[{ on := 8, ground := Ground.data }, { on := 8, ground := Ground.chain }], guard := none }) (v := ?_) rfl rfl (by kernel_rfl) (by kernel_rfl) (by kernel_rfl) (fun _ _ _ h => h) ⟨Or.inl ⟨by rfl, ?_⟩, fun _ => rfl⟩ ?_
                    rotate_left
                    · intro w
                      first | (go_simp; done) | (go_simp; with_reducible rfl)
                    try simp only [Act.put, List.setIfInBounds_toArray, List.set_cons_zero, List.set_cons_succ]
                    refine wpAnyIn_take (i := 10) (oi := { dst := some 24, op := Op.move (Operand.tmp 0), type := 98, pos := "watch.go:77", after := #[{ on := 9, ground := Ground.guard }], guard := some (9, true) }) (v := ?_) rfl rfl (by kernel_rfl) (by kernel_rfl) (by kernel_rfl) (fun _ _ _ h => h) ⟨Or.inl ⟨by rfl, ?_⟩, fun _ => rfl⟩ ?_
                    rotate_left
                    · intro w
                      first | (go_simp; done) | (go_simp; with_reducible rfl)
                    try simp only [Act.put, List.setIfInBounds_toArray, List.set_cons_zero, List.set_cons_succ]
                    refine wpAnyIn_take (i := 11) (oi := { dst := some 25, op := Op.move (Operand.tmp 4), type := 3, pos := "watch.go:77", after := #[{ on := 9, ground := Ground.guard }], guard := some (9, true) }) (v := ?_) rfl rfl (by kernel_rfl) (by kernel_rfl) (by kernel_rfl) (fun _ _ _ h => h) ⟨Or.inl ⟨by rfl, ?_⟩, fun _ => rfl⟩ ?_
                    rotate_left
                    · intro w
                      first | (go_simp; done) | (go_simp; with_reducible rfl)
                    try simp only [Act.put, List.setIfInBounds_toArray, List.set_cons_zero, List.set_cons_succ]
                    refine wpAnyIn_take (i := 12) (oi := { dst := some 26, op := Op.move (Operand.tmp 3), type := 3, pos := "watch.go:77", after := #[{ on := 9, ground := Ground.guard }], guard := some (9, true) }) (v := ?_) rfl rfl (by kernel_rfl) (by kernel_rfl) (by kernel_rfl) (fun _ _ _ h => h) ⟨Or.inl ⟨by rfl, ?_⟩, fun _ => rfl⟩ ?_
                    rotate_left
                    · intro w
                      first | (go_simp; done) | (go_simp; with_reducible rfl)
                    try simp only [Act.put, List.setIfInBounds_toArray, List.set_cons_zero, List.set_cons_succ]
                    refine wpAnyIn_ready (rs := [13]) (by kernel_rfl) (by simp) ?_
                    refine AllReadyIn.cons (o := { dst := some 27, op := Op.call { callee := Callee.value (Operand.tmp 24), args := #[Operand.tmp 25, Operand.tmp 26], argTypes := #[3, 3] }, type := 4, pos := "watch.go:77", after := #[{ on := 10, ground := Ground.data }, { on := 11, ground := Ground.data }, { on := 12, ground := Ground.data }, { on := 9, ground := Ground.chain }, { on := 9, ground := Ground.guard }], guard := some (9, true) }) rfl (fun K hK => ?_) AllReadyIn.nil
                    rw [if_pos (by rfl)]
                    go_simp
                    refine hR.mono ?_
                    rintro e W3 ⟨bb, rfl, hs⟩
                    have HSD := hide hs
                    clear hs hR hy
                    first | (refine hK _ _ ?_; clear hK K) | (gi_wp2; refine hK _ _ ?_; clear hK K)
                    try simp only [Act.put, List.setIfInBounds_toArray, List.set_cons_zero, List.set_cons_succ]
                    refine wpAnyIn_take (i := 14) (oi := { dst := some 28, op := Op.unOp UnOp.not 4 (Operand.tmp 27), type := 4, pos := "watch.go:77", after := #[{ on := 13, ground := Ground.data }, { on := 9, ground := Ground.guard }], guard := some (9, true) }) (v := ?_) rfl rfl (by kernel_rfl) (by kernel_rfl) (by kernel_rfl) (fun _ _ _ h => h) ⟨Or.inl ⟨by rfl, ?_⟩, fun _ => rfl⟩ ?_
                    rotate_left
                    · intro w
                      first | (go_simp; done) | (go_simp; with_reducible rfl)
                    try simp only [Act.put, List.setIfInBounds_toArray, List.set_cons_zero, List.set_cons_succ]
                    refine wpAnyIn_take (i := 15) (oi := { dst := some 29, op := Op.pick (Operand.tmp 23) (Operand.tmp 28) (Operand.const (Value.bool false)), type := 4, pos := "watch.go:77", after := #[{ on := 9, ground := Ground.data }, { on := 14, ground := Ground.data }], guard := none }) (v := ?_) rfl rfl (by kernel_rfl) (by kernel_rfl) (by kernel_rfl) (fun _ _ _ h => h) ⟨Or.inl ⟨by rfl, ?_⟩, fun _ => rfl⟩ ?_
                    rotate_left
                    · intro w
                      first | (go_simp; done) | (go_simp; with_reducible rfl)
                    try simp only [Act.put, List.setIfInBounds_toArray, List.set_cons_zero, List.set_cons_succ]
                    refine wpAnyIn_done (by kernel_rfl) ?_ _
                    cases bb with
                    | true =>
                      have hs := HSD.out.1 rfl
                      have HJ3 := hide hs.1
                      have HKZ := hide (HK3.out.trans hs.2)
                      clear hs hJ3
                      gi_wp2
                      go_roundw
                      case rel => exact ⟨k + 1, zs ++ [⟨(k, j), hkn, hlt⟩], by omega, by go_num, hide (by rw [vals_snoc, HV.out, HR1.out, List.append_assoc]), HJ3, HKZ⟩
                      case measure => simp [intOf]; omega
                    | false =>
                      have hs := HSD.out.2 rfl
                      have HJX := hide hs
                      clear hs hJ3
                      gi_wp2
                      refine bodyPost_ret (results_none rfl _ _ _) rfl ?_
                      refine ⟨⟨_, rfl⟩, .inr ⟨_, ?_, HJX.out⟩⟩
                      rw [vals_snoc, HV.out, List.append_assoc, ← HR1.out]
                      exact allp_pre xs hkj hlt
                  exact AllReadyIn.nil
                exact AllReadyIn.nil
              exact AllReadyIn.nil
            refine AllReadyIn.cons (o := { dst := some 18, op := Op.load 22 (Operand.tmp 1), type := 22, pos := "watch.go:77", after := #[], guard := none }) rfl (fun K hK => ?_) ?_
            · go_simp
              (try gi_wp2)
              (try (refine hK _ _ ?_; clear hK K))
              try simp only [Act.put, List.setIfInBounds_toArray, List.set_cons_zero, List.set_cons_succ]
              refine wpAnyIn_take (i := 6) (oi := { dst := some 20, op := Op.indexAddr 22 (Operand.tmp 18) (Operand.tmp 19), type := 0, pos := "watch.go:77", after := #[{ on := 4, ground := Ground.data }, { on := 5, ground := Ground.data }], guard := none }) (v := ?_) rfl rfl (by kernel_rfl) (by kernel_rfl) (by kernel_rfl) (fun _ _ _ h => h) ⟨Or.inl ⟨by rfl, ?_⟩, fun _ => rfl⟩ ?_
              rotate_left
              · intro w
                first | (go_simp; done) | (go_simp; with_reducible rfl)
              try simp only [Act.put, List.setIfInBounds_toArray, List.set_cons_zero, List.set_cons_succ]
              refine wpAnyIn_ready (rs := [0, 7]) (by kernel_rfl) (by simp) ?_
              refine AllReadyIn.cons (o := { dst := some 14, op := Op.load 22 (Operand.tmp 1), type := 22, pos := "watch.go:77", after := #[], guard := none }) rfl (fun K hK => ?_) ?_
              · go_simp
                (try gi_wp2)
                (try (refine hK _ _ ?_; clear hK K))
                try simp only [Act.put, List.setIfInBounds_toArray, List.set_cons_zero, List.set_cons_succ]
                refine wpAnyIn_take (i := 2) (oi := { dst := some 16, op := Op.indexAddr 22 (Operand.tmp 14) (Operand.tmp 15), type := 0, pos := "watch.go:77", after := #[{ on := 0, ground := Ground.data }, { on := 1, ground := Ground.data }], guard := none }) (v := ?_) rfl rfl (by kernel_rfl) (by kernel_rfl) (by kernel_rfl) (fun _ _ _ h => h) ⟨Or.inl ⟨by rfl, ?_⟩, fun _ => rfl⟩ ?_
                rotate_left
                · intro w
                  first | (go_simp; done) | (go_simp; with_reducible rfl)
                try simp only [Act.put, List.setIfInBounds_toArray, List.set_cons_zero, List.set_cons_succ]
                refine wpAnyIn_ready (rs := [3, 7]) (by kernel_rfl) (by simp) ?_
                refine AllReadyIn.cons (o := { dst := some 17, op := Op.load 57 (Operand.tmp 16), type := 57, pos := "watch.go:77", after := #[{ on := 2, ground := Ground.data }], guard := none }) rfl (fun K hK => ?_) ?_
                · go_simp
                  (try gi_wp2)
                  (try (refine hK _ _ ?_; clear hK K))
                  try simp only [Act.put, List.setIfInBounds_toArray, List.set_cons_zero, List.set_cons_succ]
                  refine wpAnyIn_ready (rs := [7]) (by kernel_rfl) (by simp) ?_
                  refine AllReadyIn.cons (o := { dst := some 21, op := Op.load 57 (Operand.tmp 20), type := 57, pos := "watch.go:77", after := #[{ on := 6, ground := Ground.data }], guard := none }) rfl (fun K hK => ?_) ?_
                  · go_simp
                    (try gi_wp2)
                    (try (refine hK _ _ ?_; clear hK K))
                    try simp only [Act.put, List.setIfInBounds_toArray, List.set_cons_zero, List.set_cons_succ]
                    refine wpAnyIn_ready (rs := [8]) (by kernel_rfl) (by simp) ?_
                    refine AllReadyIn.cons (o := { dst := some 22, op := Op.call { callee := Callee.value (Operand.func 59), args := #[Operand.tmp 17, Operand.tmp 21], argTypes := #[57, 57] }, type := 4, pos := "watch.go:77", after := #[{ on := 3, ground := Ground.data }, { on := 7, ground := Ground.data }], guard := none }) rfl (fun K hK => ?_) AllReadyIn.nil
                    rw [if_pos (by rfl)]
                    go_simp
                    refine ⟨trivial, ?_⟩; gi_at_call 59; refine (callsIn_wide.2 (overlap_any _ _ _ _ _ _ _)).mono ?_; rintro e w3 ⟨rfl, b3⟩; rw [HOV.out]
                    have hJ3 := abides_below HAB.out HJ.out (below_undrew b3)
                    have HK3 := hide (HK.out.trans ⟨KB.of_below (below_undrew b3) hbr, KB.of_below (below_undrew b3) hBsr⟩)
                    clear b3
                    obtain ⟨fn, tmps, assign, body, hy, hR⟩ := HYB.out zs ⟨(k, j), hkn, hlt⟩ w3 hJ3 hzl
                    dsimp only [epE] at hy
                    first | (refine hK _ _ ?_; clear hK K) | (gi_wp2; refine hK _ _ ?_; clear hK K)
                    try simp only [Act.put, List.setIfInBounds_toArray, List.set_cons_zero, List.set_cons_succ]
                    refine wpAnyIn_take (i := 9) (oi := { dst := some 23, op := Op.move (Operand.tmp 22), type := 4, pos := "watch.go:77", after := #[{ on := 8, ground := Ground.data }, { on := 8, ground := Ground.chain }], guard := none }) (v := ?_) rfl rfl (by kernel_rfl) (by kernel_rfl) (by kernel_rfl) (fun _ _ _ h => h) ⟨Or.inl ⟨by rfl, ?_⟩, fun _ => rfl⟩ ?_
                    rotate_left
                    · intro w
                      first | (go_simp; done) | (go_simp; with_reducible rfl)
                    try simp only [Act.put, List.setIfInBounds_toArray, List.set_cons_zero, List.set_cons_succ]
                    refine wpAnyIn_take (i := 10) (oi := { dst := some 24, op := Op.move (Operand.tmp 0), type := 98, pos := "watch.go:77", after := #[{ on := 9, ground := Ground.guard }], guard := some (9, true) }) (v := ?_) rfl rfl (by kernel_rfl) (by kernel_rfl) (by kernel_rfl) (fun _ _ _ h => h) ⟨Or.inl ⟨by rfl, ?_⟩, fun _ => rfl⟩ ?_
                    rotate_left
                    · intro w
                      first | (go_simp; done) | (go_simp; with_reducible rfl)
                    try simp only [Act.put, List.setIfInBounds_toArray, List.set_cons_zero, List.set_cons_succ]
                    refine wpAnyIn_take (i := 11) (oi := { dst := some 25, op := Op.move (Operand.tmp 4), type := 3, pos := "watch.go:77", after := #[{ on := 9, ground := Ground.guard }], guard := some (9, true) }) (v := ?_) rfl rfl (by kernel_rfl) (by kernel_rfl) (by kernel_rfl) (fun _ _ _ h => h) ⟨Or.inl ⟨by rfl, ?_⟩, fun _ => rfl⟩ ?_
                    rotate_left
                    · intro w
                      first | (go_simp; done) | (go_simp; with_reducible rfl)
                    try simp only [Act.put, List.setIfInBounds_toArray, List.set_cons_zero, List.set_cons_succ]
                    refine wpAnyIn_take (i := 12) (oi := { dst := some 26, op := Op.move (Operand.tmp 3), type := 3, pos := "watch.go:77", after := #[{ on := 9, ground := Ground.guard }], guard := some (9, true) }) (v := ?_) rfl rfl (by kernel_rfl) (by kernel_rfl) (by kernel_rfl) (fun _ _ _ h => h) ⟨Or.inl ⟨by rfl, ?_⟩, fun _ => rfl⟩ ?_
                    rotate_left
                    · intro w
                      first | (go_simp; done) | (go_simp; with_reducible rfl)
                    try simp only [Act.put, List.setIfInBounds_toArray, List.set_cons_zero, List.set_cons_succ]
                    refine wpAnyIn_ready (rs := [13]) (by kernel_rfl) (by simp) ?_
                    refine AllReadyIn.cons (o := { dst := some 27, op := Op.call { callee := Callee.value (Operand.tmp 24), args := #[Operand.tmp 25, Operand.tmp 26], argTypes := #[3, 3] }, type := 4, pos := "watch.go:77", after := #[{ on := 10, ground := Ground.data }, { on := 11, ground := Ground.data }, { on := 12, ground := Ground.data }, { on := 9, ground := Ground.chain }, { on := 9, ground := Ground.guard }], guard := some (9, true) }) rfl (fun K hK => ?_) AllReadyIn.nil
                    rw [if_pos (by rfl)]
                    go_simp
                    refine hR.mono ?_
                    rintro e W3 ⟨bb, rfl, hs⟩
                    have HSD := hide hs
                    clear hs hR hy
                    first | (refine hK _ _ ?_; clear hK K) | (gi_wp2; refine hK _ _ ?_; clear hK K)
                    try simp only [Act.put, List.setIfInBounds_toArray, List.set_cons_zero, List.set_cons_succ]
                    refine wpAnyIn_take (i := 14) (oi := { dst := some 28, op := Op.unOp UnOp.not 4 (Operand.tmp 27), type := 4, pos := "watch.go:77", after := #[{ on := 13, ground := Ground.data }, { on := 9, ground := Ground.guard }], guard := some (9, true) }) (v := ?_) rfl rfl (by kernel_rfl) (by kernel_rfl) (by kernel_rfl) (fun _ _ _ h => h) ⟨Or.inl ⟨by rfl, ?_⟩, fun _ => rfl⟩ ?_
                    rotate_left
                    · intro w
                      first | (go_simp; done) | (go_simp; with_reducible rfl)
                    try simp only [Act.put, List.setIfInBounds_toArray, List.set_cons_zero, List.set_cons_succ]
                    refine wpAnyIn_take (i := 15) (oi := { dst := some 29, op := Op.pick (Operand.tmp 23) (Operand.tmp 28) (Operand.const (Value.bool false)), type := 4, pos := "watch.go:77", after := #[{ on := 9, ground := Ground.data }, { on := 14, ground := Ground.data }], guard := none }) (v := ?_) rfl rfl (by kernel_rfl) (by kernel_rfl) (by kernel_rfl) (fun _ _ _ h => h) ⟨Or.inl ⟨by rfl, ?_⟩, fun _ => rfl⟩ ?_
                    rotate_left
                    · intro w
                      first | (go_simp; done) | (go_simp; with_reducible rfl)
                    try simp only [Act.put, List.setIfInBounds_toArray, List.set_cons_zero, List.set_cons_succ]
                    refine wpAnyIn_done (by kernel_rfl) ?_ _
                    cases bb with
                    | true =>
                      have hs := HSD.out.1 rfl
                      have HJ3 := hide hs.1
                      have HKZ := hide (HK3.out.trans hs.2)
                      clear hs hJ3
                      gi_wp2
                      go_roundw
                      case rel => exact ⟨k + 1, zs ++ [⟨(k, j), hkn, hlt⟩], by omega, by go_num, hide (by rw [vals_snoc, HV.out, HR1.out, List.append_assoc]), HJ3, HKZ⟩
                      case measure => simp [intOf]; omega
                    | false =>
                      have hs := HSD.out.2 rfl
                      have HJX := hide hs
                      clear hs hJ3
                      gi_wp2
                      refine bodyPost_ret (results_none rfl _ _ _) rfl ?_
                      refine ⟨⟨_, rfl⟩, .inr ⟨_, ?_, HJX.out⟩⟩
                      rw [vals_snoc, HV.out, List.append_assoc, ← HR1.out]
                      exact allp_pre xs hkj hlt
                  exact AllReadyIn.nil
                refine AllReadyIn.cons (o := { dst := some 21, op := Op.load 57 (Operand.tmp 20), type := 57, pos := "watch.go:77", after := #[{ on := 6, ground := Ground.data }], guard := none }) rfl (fun K hK => ?_) ?_
                · go_simp
                  (try gi_wp2)
                  (try (refine hK _ _ ?_; clear hK K))
                  try simp only [Act.put, List.setIfInBounds_toArray, List.set_cons_zero, List.set_cons_succ]
                  refine wpAnyIn_ready (rs := [3]) (by kernel_rfl) (by simp) ?_
                  refine AllReadyIn.cons (o := { dst := some 17, op := Op.load 57 (Operand.tmp 16), type := 57, pos := "watch.go:77", after := #[{ on := 2, ground := Ground.data }], guard := none }) rfl (fun K hK => ?_) ?_
                  · go_simp
                    (try gi_wp2)
                    (try (refine hK _ _ ?_; clear hK K))
                    try simp only [Act.put, List.setIfInBounds_toArray, List.set_cons_zero, List.set_cons_succ]
                    refine wpAnyIn_ready (rs := [8]) (by kernel_rfl) (by simp) ?_
                    refine AllReadyIn.cons (o := { dst := some 22, op := Op.call { callee := Callee.value (Operand.func 59), args := #[Operand.tmp 17, Operand.tmp 21], argTypes := #[57, 57] }, type := 4, pos := "watch.go:77", after := #[{ on := 3, ground := Ground.data }, { on := 7, ground := Ground.data }], guard := none }) rfl (fun K hK => ?_) AllReadyIn.nil
                    rw [if_pos (by rfl)]
                    go_simp
                    refine ⟨trivial, ?_⟩; gi_at_call 59; refine (callsIn_wide.2 (overlap_any _ _ _ _ _ _ _)).mono ?_; rintro e w3 ⟨rfl, b3⟩; rw [HOV.out]
                    have hJ3 := abides_below HAB.out HJ.out (below_undrew b3)
                    have HK3 := hide (HK.out.trans ⟨KB.of_below (below_undrew b3) hbr, KB.of_below (below_undrew b3) hBsr⟩)
                    clear b3
                    obtain ⟨fn, tmps, assign, body, hy, hR⟩ := HYB.out zs ⟨(k, j), hkn, hlt⟩ w3 hJ3 hzl
                    dsimp only [epE] at hy
                    first | (refine hK _ _ ?_; clear hK K) | (gi_wp2; refine hK _ _ ?_; clear hK K)
                    try simp only [Act.put, List.setIfInBounds_toArray, List.set_cons_zero, List.set_cons_succ]
                    refine wpAnyIn_take (i := 9) (oi := { dst := some 23, op := Op.move (Operand.tmp 22), type := 4, pos := "watch.go:77", after := #[{ on := 8, ground := Ground.data }, { on := 8, ground := Ground.chain }], guard := none }) (v := ?_) rfl rfl (by kernel_rfl) (by kernel_rfl) (by kernel_rfl) (fun _ _ _ h => h) ⟨Or.inl ⟨by rfl, ?_⟩, fun _ => rfl⟩ ?_
                    rotate_left
                    · intro w
                      first | (go_simp; done) | (go_simp; with_reducible rfl)
                    try simp only [Act.put, List.setIfInBounds_toArray, List.set_cons_zero, List.set_cons_succ]
                    refine wpAnyIn_take (i := 10) (oi := { dst := some 24, op := Op.move (Operand.tmp 0), type := 98, pos := "watch.go:77", after := #[{ on := 9, ground := Ground.guard }], guard := some (9, true) }) (v := ?_) rfl rfl (by kernel_rfl) (by kernel_rfl) (by kernel_rfl) (fun _ _ _ h => h) ⟨Or.inl ⟨by rfl, ?_⟩, fun _ => rfl⟩ ?_
                    rotate_left
                    · intro w
                      first | (go_simp; done) | (go_simp; with_reducible rfl)
                    try simp only [Act.put, List.setIfInBounds_toArray, List.set_cons_zero, List.set_cons_succ]
                    refine wpAnyIn_take (i := 11) (oi := { dst := some 25, op := Op.move (Operand.tmp 4), type := 3, pos := "watch.go:77", after := #[{ on := 9, ground := Ground.guard }], guard := some (9, true) }) (v := ?_) rfl rfl (by kernel_rfl) (by kernel_rfl) (by kernel_rfl) (fun _ _ _ h => h) ⟨Or.inl ⟨by rfl, ?_⟩, fun _ => rfl⟩ ?_
                    rotate_left
                    · intro w
                      first | (go_simp; done) | (go_simp; with_reducible rfl)
                    try simp only [Act.put, List.setIfInBounds_toArray, List.set_cons_zero, List.set_cons_succ]
                    refine wpAnyIn_take (i := 12) (oi := { dst := some 26, op := Op.move (Operand.tmp 3), type := 3, pos := "watch.go:77", after := #[{ on := 9, ground := Ground.guard }], guard := some (9, true) }) (v := ?_) rfl rfl (by kernel_rfl) (by kernel_rfl) (by kernel_rfl) (fun _ _ _ h => h) ⟨Or.inl ⟨by rfl, ?_⟩, fun _ => rfl⟩ ?_
                    rotate_left
                    · intro w
                      first | (go_simp; done) | (go_simp; with_reducible rfl)
                    try simp only [Act.put, List.setIfInBounds_toArray, List.set_cons_zero, List.set_cons_succ]
                    refine wpAnyIn_ready (rs := [13]) (by kernel_rfl) (by simp) ?_
                    refine AllReadyIn.cons (o := { dst := some 27, op := Op.call { callee := Callee.value (Operand.tmp 24), args := #[Operand.tmp 25, Operand.tmp 26], argTypes := #[3, 3] }, type := 4, pos := "watch.go:77", after := #[{ on := 10, ground := Ground.data }, { on := 11, ground := Ground.data }, { on := 12, ground := Ground.data }, { on := 9, ground := Ground.chain }, { on := 9, ground := Ground.guard }], guard := some (9, true) }) rfl (fun K hK => ?_) AllReadyIn.nil
                    rw [if_pos (by rfl)]
                    go_simp
                    refine hR.mono ?_
                    rintro e W3 ⟨bb, rfl, hs⟩
                    have HSD := hide hs
                    clear hs hR hy
                    first | (refine hK _ _ ?_; clear hK K) | (gi_wp2; refine hK _ _ ?_; clear hK K)
                    try simp only [Act.put, List.setIfInBounds_toArray, List.set_cons_zero, List.set_cons_succ]
                    refine wpAnyIn_take (i := 14) (oi := { dst := some 28, op := Op.unOp UnOp.not 4 (Operand.tmp 27), type := 4, pos := "watch.go:77", after := #[{ on := 13, ground := Ground.data }, { on := 9, ground := Ground.guard }], guard := some (9, true) }) (v := ?_) rfl rfl (by kernel_rfl) (by kernel_rfl) (by kernel_rfl) (fun _ _ _ h => h) ⟨Or.inl ⟨by rfl, ?_⟩, fun _ => rfl⟩ ?_
                    rotate_left
                    · intro w
                      first | (go_simp; done) | (go_simp; with_reducible rfl)
                    try simp only [Act.put, List.setIfInBounds_toArray, List.set_cons_zero, List.set_cons_succ]
                    refine wpAnyIn_take (i := 15) (oi := { dst := some 29, op := Op.pick (Operand.tmp 23) (Operand.tmp 28) (Operand.const (Value.bool false)), type := 4, pos := "watch.go:77", after := #[{ on := 9, ground := Ground.data }, { on := 14, ground := Ground.data }], guard := none }) (v := ?_) rfl rfl (by kernel_rfl) (by kernel_rfl) (by kernel_rfl) (fun _ _ _ h => h) ⟨Or.inl ⟨by rfl, ?_⟩, fun _ => rfl⟩ ?_
                    rotate_left
                    · intro w
                      first | (go_simp; done) | (go_simp; with_reducible rfl)
                    try simp only [Act.put, List.setIfInBounds_toArray, List.set_cons_zero, List.set_cons_succ]
                    refine wpAnyIn_done (by kernel_rfl) ?_ _
                    cases bb with
                    | true =>
                      have hs := HSD.out.1 rfl
                      have HJ3 := hide hs.1
                      have HKZ := hide (HK3.out.trans hs.2)
                      clear hs hJ3
                      gi_wp2
                      go_roundw
                      case rel => exact ⟨k + 1, zs ++ [⟨(k, j), hkn, hlt⟩], by omega, by go_num, hide (by rw [vals_snoc, HV.out, HR1.out, List.append_assoc]), HJ3, HKZ⟩
                      case measure => simp [intOf]; omega
                    | false =>
                      have hs := HSD.out.2 rfl
                      have HJX := hide hs
                      clear hs hJ3
                      gi_wp2
                      refine bodyPost_ret (results_none rfl _ _ _) rfl ?_
                      refine ⟨⟨_, rfl⟩, .inr ⟨_, ?_, HJX.out⟩⟩
                      rw [vals_snoc, HV.out, List.append_assoc, ← HR1.out]
                      exact allp_pre xs hkj hlt
                  exact AllReadyIn.nil
                exact AllReadyIn.nil
              refine AllReadyIn.cons (o := { dst := some 21, op := Op.load 57 (Operand.tmp 20), type := 57, pos := "watch.go:77", after := #[{ on := 6, ground := Ground.data }], guard := none }) rfl (fun K hK => ?_) ?_
              · go_simp
                (try gi_wp2)
                (try (refine hK _ _ ?_; clear hK K))
                try simp only [Act.put, List.setIfInBounds_toArray, List.set_cons_zero, List.set_cons_succ]
                refine wpAnyIn_ready (rs := [0]) (by kernel_rfl) (by simp) ?_
                refine AllReadyIn.cons (o := { dst := some 14, op := Op.load 22 (Operand.tmp 1), type := 22, pos := "watch.go:77", after := #[], guard := none }) rfl (fun K hK => ?_) ?_
                · go_simp
                  (try gi_wp2)
                  (try (refine hK _ _ ?_; clear hK K))
                  try simp only [Act.put, List.setIfInBounds_toArray, List.set_cons_zero, List.set_cons_succ]
                  refine wpAnyIn_take (i := 2) (oi := { dst := some 16, op := Op.indexAddr 22 (Operand.tmp 14) (Operand.tmp 15), type := 0, pos := "watch.go:77", after := #[{ on := 0, ground := Ground.data }, { on := 1, ground := Ground.data }], guard := none }) (v := ?_) rfl rfl (by kernel_rfl) (by kernel_rfl) (by kernel_rfl) (fun _ _ _ h => h) ⟨Or.inl ⟨by rfl, ?_⟩, fun _ => rfl⟩ ?_
                  rotate_left
                  · intro w
                    first | (go_simp; done) | (go_simp; with_reducible rfl)
                  try simp only [Act.put, List.setIfInBounds_toArray, List.set_cons_zero, List.set_cons_succ]
                  refine wpAnyIn_ready (rs := [3]) (by kernel_rfl) (by simp) ?_
                  refine AllReadyIn.cons (o := { dst := some 17, op := Op.load 57 (Operand.tmp 16), type := 57, pos := "watch.go:77", after := #[{ on := 2, ground := Ground.data }], guard := none }) rfl (fun K hK => ?_) ?_
                  · go_simp
                    (try gi_wp2)
                    (try (refine hK _ _ ?_; clear hK K))
                    try simp only [Act.put, List.setIfInBounds_toArray, List.set_cons_zero, List.set_cons_succ]
                    refine wpAnyIn_ready (rs := [8]) (by kernel_rfl) (by simp) ?_
                    refine AllReadyIn.cons (o := { dst := some 22, op := Op.call { callee := Callee.value (Operand.func 59), args := #[Operand.tmp 17, Operand.tmp 21], argTypes := #[57, 57] }, type := 4, pos := "watch.go:77", after := #[{ on := 3, ground := Ground.data }, { on := 7, ground := Ground.data }], guard := none }) rfl (fun K hK => ?_) AllReadyIn.nil
                    rw [if_pos (by rfl)]
                    go_simp
                    refine ⟨trivial, ?_⟩; gi_at_call 59; refine (callsIn_wide.2 (overlap_any _ _ _ _ _ _ _)).mono ?_; rintro e w3 ⟨rfl, b3⟩; rw [HOV.out]
                    have hJ3 := abides_below HAB.out HJ.out (below_undrew b3)
                    have HK3 := hide (HK.out.trans ⟨KB.of_below (below_undrew b3) hbr, KB.of_below (below_undrew b3) hBsr⟩)
                    clear b3
                    obtain ⟨fn, tmps, assign, body, hy, hR⟩ := HYB.out zs ⟨(k, j), hkn, hlt⟩ w3 hJ3 hzl
                    dsimp only [epE] at hy
                    first | (refine hK _ _ ?_; clear hK K) | (gi_wp2; refine hK _ _ ?_; clear hK K)
                    try simp only [Act.put, List.setIfInBounds_toArray, List.set_cons_zero, List.set_cons_succ]
                    refine wpAnyIn_take (i := 9) (oi := { dst := some 23, op := Op.move (Operand.tmp 22), type := 4, pos := "watch.go:77", after := #[{ on := 8, ground := Ground.data }, { on := 8, ground := Ground.chain }], guard := none }) (v := ?_) rfl rfl (by kernel_rfl) (by kernel_rfl) (by kernel_rfl) (fun _ _ _ h => h) ⟨Or.inl ⟨by rfl, ?_⟩, fun _ => rfl⟩ ?_
                    rotate_left
                    · intro w
                      first | (go_simp; done) | (go_simp; with_reducible rfl)
                    try simp only [Act.put, List.setIfInBounds_toArray, List.set_cons_zero, List.set_cons_succ]
                    refine wpAnyIn_take (i := 10) (oi := { dst := some 24, op := Op.move (Operand.tmp 0), type := 98, pos := "watch.go:77", after := #[{ on := 9, ground := Ground.guard }], guard := some (9, true) }) (v := ?_) rfl rfl (by kernel_rfl) (by kernel_rfl) (by kernel_rfl) (fun _ _ _ h => h) ⟨Or.inl ⟨by rfl, ?_⟩, fun _ => rfl⟩ ?_
                    rotate_left
                    · intro w
                      first | (go_simp; done) | (go_simp; with_reducible rfl)
                    try simp only [Act.put, List.setIfInBounds_toArray, List.set_cons_zero, List.set_cons_succ]
                    refine wpAnyIn_take (i := 11) (oi := { dst := some 25, op := Op.move (Operand.tmp 4), type := 3, pos := "watch.go:77", after := #[{ on := 9, ground := Ground.guard }], guard := some (9, true) }) (v := ?_) rfl rfl (by kernel_rfl) (by kernel_rfl) (by kernel_rfl) (fun _ _ _ h => h) ⟨Or.inl ⟨by rfl, ?_⟩, fun _ => rfl⟩ ?_
                    rotate_left
                    · intro w
                      first | (go_simp; done) | (go_simp; with_reducible rfl)
                    try simp only [Act.put, List.setIfInBounds_toArray, List.set_cons_zero, List.set_cons_succ]
                    refine wpAnyIn_take (i := 12) (oi := { dst := some 26, op := Op.move (Operand.tmp 3), type := 3, pos := "watch.go:77", after := #[{ on := 9, ground := Ground.guard }], guard := some (9, true) }) (v := ?_) rfl rfl (by kernel_rfl) (by kernel_rfl) (by kernel_rfl) (fun _ _ _ h => h) ⟨Or.inl ⟨by rfl, ?_⟩, fun _ => rfl⟩ ?_
                    rotate_left
                    · intro w
                      first | (go_simp; done) | (go_simp; with_reducible rfl)
                    try simp only [Act.put, List.setIfInBounds_toArray, List.set_cons_zero, List.set_cons_succ]
                    refine wpAnyIn_ready (rs := [13]) (by kernel_rfl) (by simp) ?_
                    refine AllReadyIn.cons (o := { dst := some 27, op := Op.call { callee := Callee.value (Operand.tmp 24), args := #[Operand.tmp 25, Operand.tmp 26], argTypes := #[3, 3] }, type := 4, pos := "watch.go:77", after := #[{ on := 10, ground := Ground.data }, { on := 11, ground := Ground.data }, { on := 12, ground := Ground.data }, { on := 9, ground := Ground.chain }, { on := 9, ground := Ground.guard }], guard := some (9, true) }) rfl (fun K hK => ?_) AllReadyIn.nil
                    rw [if_pos (by rfl)]
                    go_simp
                    refine hR.mono ?_
                    rintro e W3 ⟨bb, rfl, hs⟩
                    have HSD := hide hs
                    clear hs hR hy
                    first | (refine hK _ _ ?_; clear hK K) | (gi_wp2; refine hK _ _ ?_; clear hK K)
                    try simp only [Act.put, List.setIfInBounds_toArray, List.set_cons_zero, List.set_cons_succ]
                    refine wpAnyIn_take (i := 14) (oi := { dst := some 28, op := Op.unOp UnOp.not 4 (Operand.tmp 27), type := 4, pos := "watch.go:77", after := #[{ on := 13, ground := Ground.data }, { on := 9, ground := Ground.guard }], guard := some (9, true) }) (v := ?_) rfl rfl (by kernel_rfl) (by kernel_rfl) (by kernel_rfl) (fun _ _ _ h => h) ⟨Or.inl ⟨by rfl, ?_⟩, fun _ => rfl⟩ ?_
                    rotate_left
                    · intro w
                      first | (go_simp; done) | (go_simp; with_reducible rfl)
                    try simp only [Act.put, List.setIfInBounds_toArray, List.set_cons_zero, List.set_cons_succ]
                    refine wpAnyIn_take (i := 15) (oi := { dst := some 29, op := Op.pick (Operand.tmp 23) (Operand.tmp 28) (Operand.const (Value.bool false)), type := 4, pos := "watch.go:77", after := #[{ on := 9, ground := Ground.data }, { on := 14, ground := Ground.data }], guard := none }) (v := ?_) rfl rfl (by kernel_rfl) (by kernel_rfl) (by kernel_rfl) (fun _ _ _ h => h) ⟨Or.inl ⟨by rfl, ?_⟩, fun _ => rfl⟩ ?_
                    rotate_left
                    · intro w
                      first | (go_simp; done) | (go_simp; with_reducible rfl)
                    try simp only [Act.put, List.setIfInBounds_toArray, List.set_cons_zero, List.set_cons_succ]
                    refine wpAnyIn_done (by kernel_rfl) ?_ _
                    cases bb with
                    | true =>
                      have hs := HSD.out.1 rfl
                      have HJ3 := hide hs.1
                      have HKZ := hide (HK3.out.trans hs.2)
                      clear hs hJ3
                      gi_wp2
                      go_roundw
                      case rel => exact ⟨k + 1, zs ++ [⟨(k, j), hkn, hlt⟩], by omega, by go_num, hide (by rw [vals_snoc, HV.out, HR1.out, List.append_assoc]), HJ3, HKZ⟩
                      case measure => simp [intOf]; omega
                    | false =>
                      have hs := HSD.out.2 rfl
                      have HJX := hide hs
                      clear hs hJ3
                      gi_wp2
                      refine bodyPost_ret (results_none rfl _ _ _) rfl ?_
                      refine ⟨⟨_, rfl⟩, .inr ⟨_, ?_, HJX.out⟩⟩
                      rw [vals_snoc, HV.out, List.append_assoc, ← HR1.out]
                      exact allp_pre xs hkj hlt
                  exact AllReadyIn.nil
                exact AllReadyIn.nil
              exact AllReadyIn.nil
            exact AllReadyIn.nil
          | false =>
            have HR1 := hide (HNO.out hov)
            have HOV := hide hov
            clear hov HNO HYS
            gi_wp2
            refine wpIn_region_any (by kernel_rfl) ?_
            try (change wpAnyIn _ _ _ _ _ _ _ _ _ (World.drew _))
            refine wpAnyIn_take (i := 1) (oi := { dst := some 15, op := Op.move (Operand.tmp 4), type := 3, pos := "watch.go:77", after := #[], guard := none }) (v := ?_) rfl rfl (by kernel_rfl) (by kernel_rfl) (by kernel_rfl) (fun _ _ _ h => h) ⟨Or.inl ⟨by rfl, ?_⟩, fun _ => rfl⟩ ?_
            rotate_left
            · intro w
              first | (go_simp; done) | (go_simp; with_reducible rfl)
            try simp only [Act.put, List.setIfInBounds_toArray, List.set_cons_zero, List.set_cons_succ]
            refine wpAnyIn_take (i := 5) (oi := { dst := some 19, op := Op.move (Operand.tmp 3), type := 3, pos := "watch.go:77", after := #[], guard := none }) (v := ?_) rfl rfl (by kernel_rfl) (by kernel_rfl) (by kernel_rfl) (fun _ _ _ h => h) ⟨Or.inl ⟨by rfl, ?_⟩, fun _ => rfl⟩ ?_
            rotate_left
            · intro w
              first | (go_simp; done) | (go_simp; with_reducible rfl)
            try simp only [Act.put, List.setIfInBounds_toArray, List.set_cons_zero, List.set_cons_succ]
            refine wpAnyIn_ready (rs := [0, 4]) (by kernel_rfl) (by simp) ?_
            refine AllReadyIn.cons (o := { dst := some 14, op := Op.load 22 (Operand.tmp 1), type := 22, pos := "watch.go:77", after := #[], guard := none }) rfl (fun K hK => ?_) ?_
            · go_simp
              (try gi_wp2)
              (try (refine hK _ _ ?_; clear hK K))
              try simp only [Act.put, List.setIfInBounds_toArray, List.set_cons_zero, List.set_cons_succ]
              refine wpAnyIn_take (i := 2) (oi := { dst := some 16, op := Op.indexAddr 22 (Operand.tmp 14) (Operand.tmp 15), type := 0, pos := "watch.go:77", after := #[{ on := 0, ground := Ground.data }, { on := 1, ground := Ground.data }], guard := none }) (v := ?_) rfl rfl (by kernel_rfl) (by kernel_rfl) (by kernel_rfl) (fun _ _ _ h => h) ⟨Or.inl ⟨by rfl, ?_⟩, fun _ => rfl⟩ ?_
              rotate_left
              · intro w
                first | (go_simp; done) | (go_simp; with_reducible rfl)
              try simp only [Act.put, List.setIfInBounds_toArray, List.set_cons_zero, List.set_cons_succ]
              refine wpAnyIn_ready (rs := [3, 4]) (by kernel_rfl) (by simp) ?_
              refine AllReadyIn.cons (o := { dst := some 17, op := Op.load 57 (Operand.tmp 16), type := 57, pos := "watch.go:77", after := #[{ on := 2, ground := Ground.data }], guard := none }) rfl (fun K hK => ?_) ?_
              · go_simp
                (try gi_wp2)
                (try (refine hK _ _ ?_; clear hK K))
                try simp only [Act.put, List.setIfInBounds_toArray, List.set_cons_zero, List.set_cons_succ]
                refine wpAnyIn_ready (rs := [4]) (by kernel_rfl) (by simp) ?_
                refine AllReadyIn.cons (o := { dst := some 18, op := Op.load 22 (Operand.tmp 1), type := 22, pos := "watch.go:77", after := #[], guard := none }) rfl (fun K hK => ?_) ?_
                · go_simp
                  (try gi_wp2)
                  (try (refine hK _ _ ?_; clear hK K))
                  try simp only [Act.put, List.setIfInBounds_toArray, List.set_cons_zero, List.set_cons_succ]
                  refine wpAnyIn_take (i := 6) (oi := { dst := some 20, op := Op.indexAddr 22 (Operand.tmp 18) (Operand.tmp 19), type := 0, pos := "watch.go:77", after := #[{ on := 4, ground := Ground.data }, { on := 5, ground := Ground.data }], guard := none }) (v := ?_) rfl rfl (by kernel_rfl) (by kernel_rfl) (by kernel_rfl) (fun _ _ _ h => h) ⟨Or.inl ⟨by rfl, ?_⟩, fun _ => rfl⟩ ?_
                  rotate_left
                  · intro w
                    first | (go_simp; done) | (go_simp; with_reducible rfl)
                  try simp only [Act.put, List.setIfInBounds_toArray, List.set_cons_zero, List.set_cons_succ]
                  refine wpAnyIn_ready (rs := [7]) (by kernel_rfl) (by simp) ?_
                  refine AllReadyIn.cons (o := { dst := some 21, op := Op.load 57 (Operand.tmp 20), type := 57, pos := "watch.go:77", after := #[{ on := 6, ground := Ground.data }], guard := none }) rfl (fun K hK => ?_) ?_
                  · go_simp
                    (try gi_wp2)
                    (try (refine hK _ _ ?_; clear hK K))
                    try simp only [Act.put, List.setIfInBounds_toArray, List.set_cons_zero, List.set_cons_succ]
                    refine wpAnyIn_ready (rs := [8]) (by kernel_rfl) (by simp) ?_
                    refine AllReadyIn.cons (o := { dst := some 22, op := Op.call { callee := Callee.value (Operand.func 59), args := #[Operand.tmp 17, Operand.tmp 21], argTypes := #[57, 57] }, type := 4, pos := "watch.go:77", after := #[{ on := 3, ground := Ground.data }, { on := 7, ground := Ground.data }], guard := none }) rfl (fun K hK => ?_) AllReadyIn.nil
                    rw [if_pos (by rfl)]
                    go_simp
                    refine ⟨trivial, ?_⟩; gi_at_call 59; refine (callsIn_wide.2 (overlap_any _ _ _ _ _ _ _)).mono ?_; rintro e w3 ⟨rfl, b3⟩; rw [HOV.out]
                    first | (refine hK _ _ ?_; clear hK K) | (gi_wp2; refine hK _ _ ?_; clear hK K)
                    try simp only [Act.put, List.setIfInBounds_toArray, List.set_cons_zero, List.set_cons_succ]
                    refine wpAnyIn_take (i := 9) (oi := { dst := some 23, op := Op.move (Operand.tmp 22), type := 4, pos := "watch.go:77", after := #[{ on := 8, ground := Ground.data }, { on := 8, ground := Ground.chain }], guard := none }) (v := ?_) rfl rfl (by kernel_rfl) (by kernel_rfl) (by kernel_rfl) (fun _ _ _ h => h) ⟨Or.inl ⟨by rfl, ?_⟩, fun _ => rfl⟩ ?_
                    rotate_left
                    · intro w
                      first | (go_simp; done) | (go_simp; with_reducible rfl)
                    try simp only [Act.put, List.setIfInBounds_toArray, List.set_cons_zero, List.set_cons_succ]
                    refine wpAnyIn_take (i := 10) (oi := { dst := some 24, op := Op.move (Operand.tmp 0), type := 98, pos := "watch.go:77", after := #[{ on := 9, ground := Ground.guard }], guard := some (9, true) }) (v := _) rfl rfl (by kernel_rfl) (by kernel_rfl) (by kernel_rfl) (fun _ _ _ h => h) ⟨Or.inr ⟨by rfl, rfl⟩, fun _ => rfl⟩ ?_
                    try simp only [Act.put, List.setIfInBounds_toArray, List.set_cons_zero, List.set_cons_succ]
                    refine wpAnyIn_take (i := 11) (oi := { dst := some 25, op := Op.move (Operand.tmp 4), type := 3, pos := "watch.go:77", after := #[{ on := 9, ground := Ground.guard }], guard := some (9, true) }) (v := _) rfl rfl (by kernel_rfl) (by kernel_rfl) (by kernel_rfl) (fun _ _ _ h => h) ⟨Or.inr ⟨by rfl, rfl⟩, fun _ => rfl⟩ ?_
                    try simp only [Act.put, List.setIfInBounds_toArray, List.set_cons_zero, List.set_cons_succ]
                    refine wpAnyIn_take (i := 12) (oi := { dst := some 26, op := Op.move (Operand.tmp 3), type := 3, pos := "watch.go:77", after := #[{ on := 9, ground := Ground.guard }], guard := some (9, true) }) (v := _) rfl rfl (by kernel_rfl) (by kernel_rfl) (by kernel_rfl) (fun _ _ _ h => h) ⟨Or.inr ⟨by rfl, rfl⟩, fun _ => rfl⟩ ?_
                    try simp only [Act.put, List.setIfInBounds_toArray, List.set_cons_zero, List.set_cons_succ]
                    refine wpAnyIn_take (i := 13) (oi := { dst := some 27, op := Op.call { callee := Callee.value (Operand.tmp 24), args := #[Operand.tmp 25, Operand.tmp 26], argTypes := #[3, 3] }, type := 4, pos := "watch.go:77", after := #[{ on := 10, ground := Ground.data }, { on := 11, ground := Ground.data }, { on := 12, ground := Ground.data }, { on := 9, ground := Ground.chain }, { on := 9, ground := Ground.guard }], guard := some (9, true) }) (v := _) rfl rfl (by kernel_rfl) (by kernel_rfl) (by kernel_rfl) (fun _ _ _ h => h) ⟨Or.inr ⟨by rfl, rfl⟩, fun _ => rfl⟩ ?_
                    try simp only [Act.put, List.setIfInBounds_toArray, List.set_cons_zero, List.set_cons_succ]
                    refine wpAnyIn_take (i := 14) (oi := { dst := some 28, op := Op.unOp UnOp.not 4 (Operand.tmp 27), type := 4, pos := "watch.go:77", after := #[{ on := 13, ground := Ground.data }, { on := 9, ground := Ground.guard }], guard := some (9, true) }) (v := _) rfl rfl (by kernel_rfl) (by kernel_rfl) (by kernel_rfl) (fun _ _ _ h => h) ⟨Or.inr ⟨by rfl, rfl⟩, fun _ => rfl⟩ ?_
                    try simp only [Act.put, List.setIfInBounds_toArray, List.set_cons_zero, List.set_cons_succ]
                    refine wpAnyIn_take (i := 15) (oi := { dst := some 29, op := Op.pick (Operand.tmp 23) (Operand.tmp 28) (Operand.const (Value.bool false)), type := 4, pos := "watch.go:77", after := #[{ on := 9, ground := Ground.data }, { on := 14, ground := Ground.data }], guard := none }) (v := ?_) rfl rfl (by kernel_rfl) (by kernel_rfl) (by kernel_rfl) (fun _ _ _ h => h) ⟨Or.inl ⟨by rfl, ?_⟩, fun _ => rfl⟩ ?_
                    rotate_left
                    · intro w
                      first | (go_simp; done) | (go_simp; with_reducible rfl)
                    try simp only [Act.put, List.setIfInBounds_toArray, List.set_cons_zero, List.set_cons_succ]
                    refine wpAnyIn_done (by kernel_rfl) ?_ _
                    have HJ3 := hide (abides_below HAB.out HJ.out (below_undrew b3))
                    have HK3 := hide (HK.out.trans ⟨KB.of_below (below_undrew b3) hbr, KB.of_below (below_undrew b3) hBsr⟩)
                    clear b3
                    gi_wp2
                    go_roundw
                    case rel => exact ⟨k + 1, zs, by omega, by go_num, hide (by rw [HV.out, HR1.out]), HJ3, HK3⟩
                    case measure => simp [intOf]; omega
                  exact AllReadyIn.nil
                exact AllReadyIn.nil
              refine AllReadyIn.cons (o := { dst := some 18, op := Op.load 22 (Operand.tmp 1), type := 22, pos := "watch.go:77", after := #[], guard := none }) rfl (fun K hK => ?_) ?_
              · go_simp
                (try gi_wp2)
                (try (refine hK _ _ ?_; clear hK K))
                try simp only [Act.put, List.setIfInBounds_toArray, List.set_cons_zero, List.set_cons_succ]
                refine wpAnyIn_take (i := 6) (oi := { dst := some 20, op := Op.indexAddr 22 (Operand.tmp 18) (Operand.tmp 19), type := 0, pos := "watch.go:77", after := #[{ on := 4, ground := Ground.data }, { on := 5, ground := Ground.data }], guard := none }) (v := ?_) rfl rfl (by kernel_rfl) (by kernel_rfl) (by kernel_rfl) (fun _ _ _ h => h) ⟨Or.inl ⟨by rfl, ?_⟩, fun _ => rfl⟩ ?_
                rotate_left
                · intro w
                  first | (go_simp; done) | (go_simp; with_reducible rfl)
                try simp only [Act.put, List.setIfInBounds_toArray, List.set_cons_zero, List.set_cons_succ]
                refine wpAnyIn_ready (rs := [3, 7]) (by kernel_rfl) (by simp) ?_
                refine AllReadyIn.cons (o := { dst := some 17, op := Op.load 57 (Operand.tmp 16), type := 57, pos := "watch.go:77", after := #[{ on := 2, ground := Ground.data }], guard := none }) rfl (fun K hK => ?_) ?_
                · go_simp
                  (try gi_wp2)
                  (try (refine hK _ _ ?_; clear hK K))
                  try simp only [Act.put, List.setIfInBounds_toArray, List.set_cons_zero, List.set_cons_succ]
                  refine wpAnyIn_ready (rs := [7]) (by kernel_rfl) (by simp) ?_
                  refine AllReadyIn.cons (o := { dst := some 21, op := Op.load 57 (Operand.tmp 20), type := 57, pos := "watch.go:77", after := #[{ on := 6, ground := Ground.data }], guard := none }) rfl (fun K hK => ?_) ?_
                  · go_simp
                    (try gi_wp2)
                    (try (refine hK _ _ ?_; clear hK K))
                    try simp only [Act.put, List.setIfInBounds_toArray, List.set_cons_zero, List.set_cons_succ]
                    refine wpAnyIn_ready (rs := [8]) (by kernel_rfl) (by simp) ?_
                    refine AllReadyIn.cons (o := { dst := some 22, op := Op.call { callee := Callee.value (Operand.func 59), args := #[Operand.tmp 17, Operand.tmp 21], argTypes := #[57, 57] }, type := 4, pos := "watch.go:77", after := #[{ on := 3, ground := Ground.data }, { on := 7, ground := Ground.data }], guard := none }) rfl (fun K hK => ?_) AllReadyIn.nil
                    rw [if_pos (by rfl)]
                    go_simp
                    refine ⟨trivial, ?_⟩; gi_at_call 59; refine (callsIn_wide.2 (overlap_any _ _ _ _ _ _ _)).mono ?_; rintro e w3 ⟨rfl, b3⟩; rw [HOV.out]
                    first | (refine hK _ _ ?_; clear hK K) | (gi_wp2; refine hK _ _ ?_; clear hK K)
                    try simp only [Act.put, List.setIfInBounds_toArray, List.set_cons_zero, List.set_cons_succ]
                    refine wpAnyIn_take (i := 9) (oi := { dst := some 23, op := Op.move (Operand.tmp 22), type := 4, pos := "watch.go:77", after := #[{ on := 8, ground := Ground.data }, { on := 8, ground := Ground.chain }], guard := none }) (v := ?_) rfl rfl (by kernel_rfl) (by kernel_rfl) (by kernel_rfl) (fun _ _ _ h => h) ⟨Or.inl ⟨by rfl, ?_⟩, fun _ => rfl⟩ ?_
                    rotate_left
                    · intro w
                      first | (go_simp; done) | (go_simp; with_reducible rfl)
                    try simp only [Act.put, List.setIfInBounds_toArray, List.set_cons_zero, List.set_cons_succ]
                    refine wpAnyIn_take (i := 10) (oi := { dst := some 24, op := Op.move (Operand.tmp 0), type := 98, pos := "watch.go:77", after := #[{ on := 9, ground := Ground.guard }], guard := some (9, true) }) (v := _) rfl rfl (by kernel_rfl) (by kernel_rfl) (by kernel_rfl) (fun _ _ _ h => h) ⟨Or.inr ⟨by rfl, rfl⟩, fun _ => rfl⟩ ?_
                    try simp only [Act.put, List.setIfInBounds_toArray, List.set_cons_zero, List.set_cons_succ]
                    refine wpAnyIn_take (i := 11) (oi := { dst := some 25, op := Op.move (Operand.tmp 4), type := 3, pos := "watch.go:77", after := #[{ on := 9, ground := Ground.guard }], guard := some (9, true) }) (v := _) rfl rfl (by kernel_rfl) (by kernel_rfl) (by kernel_rfl) (fun _ _ _ h => h) ⟨Or.inr ⟨by rfl, rfl⟩, fun _ => rfl⟩ ?_
                    try simp only [Act.put, List.setIfInBounds_toArray, List.set_cons_zero, List.set_cons_succ]
                    refine wpAnyIn_take (i := 12) (oi := { dst := some 26, op := Op.move (Operand.tmp 3), type := 3, pos := "watch.go:77", after := #[{ on := 9, ground := Ground.guard }], guard := some (9, true) }) (v := _) rfl rfl (by kernel_rfl) (by kernel_rfl) (by kernel_rfl) (fun _ _ _ h => h) ⟨Or.inr ⟨by rfl, rfl⟩, fun _ => rfl⟩ ?_
                    try simp only [Act.put, List.setIfInBounds_toArray, List.set_cons_zero, List.set_cons_succ]
                    refine wpAnyIn_take (i := 13) (oi := { dst := some 27, op := Op.call { callee := Callee.value (Operand.tmp 24), args := #[Operand.tmp 25, Operand.tmp 26], argTypes := #[3, 3] }, type := 4, pos := "watch.go:77", after := #[{ on := 10, ground := Ground.data }, { on := 11, ground := Ground.data }, { on := 12, ground := Ground.data }, { on := 9, ground := Ground.chain }, { on := 9, ground := Ground.guard }], guard := some (9, true) }) (v := _) rfl rfl (by kernel_rfl) (by kernel_rfl) (by kernel_rfl) (fun _ _ _ h => h) ⟨Or.inr ⟨by rfl, rfl⟩, fun _ => rfl⟩ ?_
                    try simp only [Act.put, List.setIfInBounds_toArray, List.set_cons_zero, List.set_cons_succ]
                    refine wpAnyIn_take (i := 14) (oi := { dst := some 28, op := Op.unOp UnOp.not 4 (Operand.tmp 27), type := 4, pos := "watch.go:77", after := #[{ on := 13, ground := Ground.data }, { on := 9, ground := Ground.guard }], guard := some (9, true) }) (v := _) rfl rfl (by kernel_rfl) (by kernel_rfl) (by kernel_rfl) (fun _ _ _ h => h) ⟨Or.inr ⟨by rfl, rfl⟩, fun _ => rfl⟩ ?_
                    try simp only [Act.put, List.setIfInBounds_toArray, List.set_cons_zero, List.set_cons_succ]
                    refine wpAnyIn_take (i := 15) (oi := { dst := some 29, op := Op.pick (Operand.tmp 23) (Operand.tmp 28) (Operand.const (Value.bool false)), type := 4, pos := "watch.go:77", after := #[{ on := 9, ground := Ground.data }, { on := 14, ground := Ground.data }], guard := none }) (v := ?_) rfl rfl (by kernel_rfl) (by kernel_rfl) (by kernel_rfl) (fun _ _ _ h => h) ⟨Or.inl ⟨by rfl, ?_⟩, fun _ => rfl⟩ ?_
                    rotate_left
                    · intro w
                      first | (go_simp; done) | (go_simp; with_reducible rfl)
                    try simp only [Act.put, List.setIfInBounds_toArray, List.set_cons_zero, List.set_cons_succ]
                    refine wpAnyIn_done (by kernel_rfl) ?_ _
                    have HJ3 := hide (abides_below HAB.out HJ.out (below_undrew b3))
                    have HK3 := hide (HK.out.trans ⟨KB.of_below (below_undrew b3) hbr, KB.of_below (below_undrew b3) hBsr⟩)
                    clear b3
                    gi_wp2
                    go_roundw
                    case rel => exact ⟨k + 1, zs, by omega, by go_num, hide (by rw [HV.out, HR1.out]), HJ3, HK3⟩
                    case measure => simp [intOf]; omega
                  exact AllReadyIn.nil
                refine AllReadyIn.cons (o := { dst := some 21, op := Op.load 57 (Operand.tmp 20), type := 57, pos := "watch.go:77", after := #[{ on := 6, ground := Ground.data }], guard := none }) rfl (fun K hK => ?_) ?_
                · go_simp
                  (try gi_wp2)
                  (try (refine hK _ _ ?_; clear hK K))
                  try simp only [Act.put, List.setIfInBounds_toArray, List.set_cons_zero, List.set_cons_succ]
                  refine wpAnyIn_ready (rs := [3]) (by kernel_rfl) (by simp) ?_
                  refine AllReadyIn.cons (o := { dst := some 17, op := Op.load 57 (Operand.tmp 16), type := 57, pos := "watch.go:77", after := #[{ on := 2, ground := Ground.data }], guard := none }) rfl (fun K hK => ?_) ?_
                  · go_simp
                    (try gi_wp2)
                    (try (refine hK _ _ ?_; clear hK K))
                    try simp only [Act.put, List.setIfInBounds_toArray, List.set_cons_zero, List.set_cons_succ]
                    refine wpAnyIn_ready (rs := [8]) (by kernel_rfl) (by simp) ?_
                    refine AllReadyIn.cons (o := { dst := some 22, op := Op.call { callee := Callee.value (Operand.func 59), args := #[Operand.tmp 17, Operand.tmp 21], argTypes := #[57, 57] }, type := 4, pos := "watch.go:77", after := #[{ on := 3, ground := Ground.data }, { on := 7, ground := Ground.data }], guard := none }) rfl (fun K hK => ?_) AllReadyIn.nil
                    rw [if_pos (by rfl)]
                    go_simp
                    refine ⟨trivial, ?_⟩; gi_at_call 59; refine (callsIn_wide.2 (overlap_any _ _ _ _ _ _ _)).mono ?_; rintro e w3 ⟨rfl, b3⟩; rw [HOV.out]
                    first | (refine hK _ _ ?_; clear hK K) | (gi_wp2; refine hK _ _ ?_; clear hK K)
                    try simp only [Act.put, List.setIfInBounds_toArray, List.set_cons_zero, List.set_cons_succ]
                    refine wpAnyIn_take (i := 9) (oi := { dst := some 23, op := Op.move (Operand.tmp 22), type := 4, pos := "watch.go:77", after := #[{ on := 8, ground := Ground.data }, { on := 8, ground := Ground.chain }], guard := none }) (v := ?_) rfl rfl (by kernel_rfl) (by kernel_rfl) (by kernel_rfl) (fun _ _ _ h => h) ⟨Or.inl ⟨by rfl, ?_⟩, fun _ => rfl⟩ ?_
                    rotate_left
                    · intro w
                      first | (go_simp; done) | (go_simp; with_reducible rfl)
                    try simp only [Act.put, List.setIfInBounds_toArray, List.set_cons_zero, List.set_cons_succ]
                    refine wpAnyIn_take (i := 10) (oi := { dst := some 24, op := Op.move (Operand.tmp 0), type := 98, pos := "watch.go:77", after := #[{ on := 9, ground := Ground.guard }], guard := some (9, true) }) (v := _) rfl rfl (by kernel_rfl) (by kernel_rfl) (by kernel_rfl) (fun _ _ _ h => h) ⟨Or.inr ⟨by rfl, rfl⟩, fun _ => rfl⟩ ?_
                    try simp only [Act.put, List.setIfInBounds_toArray, List.set_cons_zero, List.set_cons_succ]
                    refine wpAnyIn_take (i := 11) (oi := { dst := some 25, op := Op.move (Operand.tmp 4), type := 3, pos := "watch.go:77", after := #[{ on := 9, ground := Ground.guard }], guard := some (9, true) }) (v := _) rfl rfl (by kernel_rfl) (by kernel_rfl) (by kernel_rfl) (fun _ _ _ h => h) ⟨Or.inr ⟨by rfl, rfl⟩, fun _ => rfl⟩ ?_
                    try simp only [Act.put, List.setIfInBounds_toArray, List.set_cons_zero, List.set_cons_succ]
                    refine wpAnyIn_take (i := 12) (oi := { dst := some 26, op := Op.move (Operand.tmp 3), type := 3, pos := "watch.go:77", after := #[{ on := 9, ground := Ground.guard }], guard := some (9, true) }) (v := _) rfl rfl (by kernel_rfl) (by kernel_rfl) (by kernel_rfl) (fun _ _ _ h => h) ⟨Or.inr ⟨by rfl, rfl⟩, fun _ => rfl⟩ ?_
                    try simp only [Act.put, List.setIfInBounds_toArray, List.set_cons_zero, List.set_cons_succ]
                    refine wpAnyIn_take (i := 13) (oi := { dst := some 27, op := Op.call { callee := Callee.value (Operand.tmp 24), args := #[Operand.tmp 25, Operand.tmp 26], argTypes := #[3, 3] }, type := 4, pos := "watch.go:77", after := #[{ on := 10, ground := Ground.data }, { on := 11, ground := Ground.data }, { on := 12, ground := Ground.data }, { on := 9, ground := Ground.chain }, { on := 9, ground := Ground.guard }], guard := some (9, true) }) (v := _) rfl rfl (by kernel_rfl) (by kernel_rfl) (by kernel_rfl) (fun _ _ _ h => h) ⟨Or.inr ⟨by rfl, rfl⟩, fun _ => rfl⟩ ?_
                    try simp only [Act.put, List.setIfInBounds_toArray, List.set_cons_zero, List.set_cons_succ]
                    refine wpAnyIn_take (i := 14) (oi := { dst := some 28, op := Op.unOp UnOp.not 4 (Operand.tmp 27), type := 4, pos := "watch.go:77", after := #[{ on := 13, ground := Ground.data }, { on := 9, ground := Ground.guard }], guard := some (9, true) }) (v := _) rfl rfl (by kernel_rfl) (by kernel_rfl) (by kernel_rfl) (fun _ _ _ h => h) ⟨Or.inr ⟨by rfl, rfl⟩, fun _ => rfl⟩ ?_
                    try simp only [Act.put, List.setIfInBounds_toArray, List.set_cons_zero, List.set_cons_succ]
                    refine wpAnyIn_take (i := 15) (oi := { dst := some 29, op := Op.pick (Operand.tmp 23) (Operand.tmp 28) (Operand.const (Value.bool false)), type := 4, pos := "watch.go:77", after := #[{ on := 9, ground := Ground.data }, { on := 14, ground := Ground.data }], guard := none }) (v := ?_) rfl rfl (by kernel_rfl) (by kernel_rfl) (by kernel_rfl) (fun _ _ _ h => h) ⟨Or.inl ⟨by rfl, ?_⟩, fun _ => rfl⟩ ?_
                    rotate_left
                    · intro w
                      first | (go_simp; done) | (go_simp; with_reducible rfl)
                    try simp only [Act.put, List.setIfInBounds_toArray, List.set_cons_zero, List.set_cons_succ]
                    refine wpAnyIn_done (by kernel_rfl) ?_ _
                    have HJ3 := hide (abides_below HAB.out HJ.out (below_undrew b3))
                    have HK3 := hide (HK.out.trans ⟨KB.of_below (below_undrew b3) hbr, KB.of_below (below_undrew b3) hBsr⟩)
                    clear b3
                    gi_wp2
                    go_roundw
                    case rel => exact ⟨k + 1, zs, by omega, by go_num, hide (by rw [HV.out, HR1.out]), HJ3, HK3⟩
                    case measure => simp [intOf]; omega
                  exact AllReadyIn.nil
                exact AllReadyIn.nil
              exact AllReadyIn.nil
            refine AllReadyIn.cons (o := { dst := some 18, op := Op.load 22 (Operand.tmp 1), type := 22, pos := "watch.go:77", after := #[], guard := none }) rfl (fun K hK => ?_) ?_
            · go_simp
              (try gi_wp2)
              (try (refine hK _ _ ?_; clear hK K))
              try simp only [Act.put, List.setIfInBounds_toArray, List.set_cons_zero, List.set_cons_succ]
              refine wpAnyIn_take (i := 6) (oi := { dst := some 20, op := Op.indexAddr 22 (Operand.tmp 18) (Operand.tmp 19), type := 0, pos := "watch.go:77", after := #[{ on := 4, ground := Ground.data }, { on := 5, ground := Ground.data }], guard := none }) (v := ?_) rfl rfl (by kernel_rfl) (by kernel_rfl) (by kernel_rfl) (fun _ _ _ h => h) ⟨Or.inl ⟨by rfl, ?_⟩, fun _ => rfl⟩ ?_
              rotate_left
              · intro w
                first | (go_simp; done) | (go_simp; with_reducible rfl)
              try simp only [Act.put, List.setIfInBounds_toArray, List.set_cons_zero, List.set_cons_succ]
              refine wpAnyIn_ready (rs := [0, 7]) (by kernel_rfl) (by simp) ?_
              refine AllReadyIn.cons (o := { dst := some 14, op := Op.load 22 (Operand.tmp 1), type := 22, pos := "watch.go:77", after := #[], guard := none }) rfl (fun K hK => ?_) ?_
              · go_simp
                (try gi_wp2)
                (try (refine hK _ _ ?_; clear hK K))
                try simp only [Act.put, List.setIfInBounds_toArray, List.set_cons_zero, List.set_cons_succ]
                refine wpAnyIn_take (i := 2) (oi := { dst := some 16, op := Op.indexAddr 22 (Operand.tmp 14) (Operand.tmp 15), type := 0, pos := "watch.go:77", after := #[{ on := 0, ground := Ground.data }, { on := 1, ground := Ground.data }], guard := none }) (v := ?_) rfl rfl (by kernel_rfl) (by kernel_rfl) (by kernel_rfl) (fun _ _ _ h => h) ⟨Or.inl ⟨by rfl, ?_⟩, fun _ => rfl⟩ ?_
                rotate_left
                · intro w
                  first | (go_simp; done) | (go_simp; with_reducible rfl)
                try simp only [Act.put, List.setIfInBounds_toArray, List.set_cons_zero, List.set_cons_succ]
                refine wpAnyIn_ready (rs := [3, 7]) (by kernel_rfl) (by simp) ?_
                refine AllReadyIn.cons (o := { dst := some 17, op := Op.load 57 (Operand.tmp 16), type := 57, pos := "watch.go:77", after := #[{ on := 2, ground := Ground.data }], guard := none }) rfl (fun K hK => ?_) ?_
                · go_simp
                  (try gi_wp2)
                  (try (refine hK _ _ ?_; clear hK K))
                  try simp only [Act.put, List.setIfInBounds_toArray, List.set_cons_zero, List.set_cons_succ]
                  refine wpAnyIn_ready (rs := [7]) (by kernel_rfl) (by simp) ?_
                  refine AllReadyIn.cons (o := { dst := some 21, op := Op.load 57 (Operand.tmp 20), type := 57, pos := "watch.go:77", after := #[{ on := 6, ground := Ground.data }], guard := none }) rfl (fun K hK => ?_) ?_
                  · go_simp
                    (try gi_wp2)
                    (try (refine hK _ _ ?_; clear hK K))
                    try simp only [Act.put, List.setIfInBounds_toArray, List.set_cons_zero, List.set_cons_succ]
                    refine wpAnyIn_ready (rs := [8]) (by kernel_rfl) (by simp) ?_
                    refine AllReadyIn.cons (o := { dst := some 22, op := Op.call { callee := Callee.value (Operand.func 59), args := #[Operand.tmp 17, Operand.tmp 21], argTypes := #[57, 57] }, type := 4, pos := "watch.go:77", after := #[{ on := 3, ground := Ground.data }, { on := 7, ground := Ground.data }], guard := none }) rfl (fun K hK => ?_) AllReadyIn.nil
                    rw [if_pos (by rfl)]
                    go_simp
                    refine ⟨trivial, ?_⟩; gi_at_call 59; refine (callsIn_wide.2 (overlap_any _ _ _ _ _ _ _)).mono ?_; rintro e w3 ⟨rfl, b3⟩; rw [HOV.out]
                    first | (refine hK _ _ ?_; clear hK K) | (gi_wp2; refine hK _ _ ?_; clear hK K)
                    try simp only [Act.put, List.setIfInBounds_toArray, List.set_cons_zero, List.set_cons_succ]
                    refine wpAnyIn_take (i := 9) (oi := { dst := some 23, op := Op.move (Operand.tmp 22), type := 4, pos := "watch.go:77", after := #[{ on := 8, ground := Ground.data }, { on := 8, ground := Ground.chain }], guard := none }) (v := ?_) rfl rfl (by kernel_rfl) (by kernel_rfl) (by kernel_rfl) (fun _ _ _ h => h) ⟨Or.inl ⟨by rfl, ?_⟩, fun _ => rfl⟩ ?_
                    rotate_left
                    · intro w
                      first | (go_simp; done) | (go_simp; with_reducible rfl)
                    try simp only [Act.put, List.setIfInBounds_toArray, List.set_cons_zero, List.set_cons_succ]
                    refine wpAnyIn_take (i := 10) (oi := { dst := some 24, op := Op.move (Operand.tmp 0), type := 98, pos := "watch.go:77", after := #[{ on := 9, ground := Ground.guard }], guard := some (9, true) }) (v := _) rfl rfl (by kernel_rfl) (by kernel_rfl) (by kernel_rfl) (fun _ _ _ h => h) ⟨Or.inr ⟨by rfl, rfl⟩, fun _ => rfl⟩ ?_
                    try simp only [Act.put, List.setIfInBounds_toArray, List.set_cons_zero, List.set_cons_succ]
                    refine wpAnyIn_take (i := 11) (oi := { dst := some 25, op := Op.move (Operand.tmp 4), type := 3, pos := "watch.go:77", after := #[{ on := 9, ground := Ground.guard }], guard := some (9, true) }) (v := _) rfl rfl (by kernel_rfl) (by kernel_rfl) (by kernel_rfl) (fun _ _ _ h => h) ⟨Or.inr ⟨by rfl, rfl⟩, fun _ => rfl⟩ ?_
                    try simp only [Act.put, List.setIfInBounds_toArray, List.set_cons_zero, List.set_cons_succ]
                    refine wpAnyIn_take (i := 12) (oi := { dst := some 26, op := Op.move (Operand.tmp 3), type := 3, pos := "watch.go:77", after := #[{ on := 9, ground := Ground.guard }], guard := some (9, true) }) (v := _) rfl rfl (by kernel_rfl) (by kernel_rfl) (by kernel_rfl) (fun _ _ _ h => h) ⟨Or.inr ⟨by rfl, rfl⟩, fun _ => rfl⟩ ?_
                    try simp only [Act.put, List.setIfInBounds_toArray, List.set_cons_zero, List.set_cons_succ]
                    refine wpAnyIn_take (i := 13) (oi := { dst := some 27, op := Op.call { callee := Callee.value (Operand.tmp 24), args := #[Operand.tmp 25, Operand.tmp 26], argTypes := #[3, 3] }, type := 4, pos := "watch.go:77", after := #[{ on := 10, ground := Ground.data }, { on := 11, ground := Ground.data }, { on := 12, ground := Ground.data }, { on := 9, ground := Ground.chain }, { on := 9, ground := Ground.guard }], guard := some (9, true) }) (v := _) rfl rfl (by kernel_rfl) (by kernel_rfl) (by kernel_rfl) (fun _ _ _ h => h) ⟨Or.inr ⟨by rfl, rfl⟩, fun _ => rfl⟩ ?_
                    try simp only [Act.put, List.setIfInBounds_toArray, List.set_cons_zero, List.set_cons_succ]
                    refine wpAnyIn_take (i := 14) (oi := { dst := some 28, op := Op.unOp UnOp.not 4 (Operand.tmp 27), type := 4, pos := "watch.go:77", after := #[{ on := 13, ground := Ground.data }, { on := 9, ground := Ground.guard }], guard := some (9, true) }) (v := _) rfl rfl (by kernel_rfl) (by kernel_rfl) (by kernel_rfl) (fun _ _ _ h => h) ⟨Or.inr ⟨by rfl, rfl⟩, fun _ => rfl⟩ ?_
                    try simp only [Act.put, List.setIfInBounds_toArray, List.set_cons_zero, List.set_cons_succ]
                    refine wpAnyIn_take (i := 15) (oi := { dst := some 29, op := Op.pick (Operand.tmp 23) (Operand.tmp 28) (Operand.const (Value.bool false)), type := 4, pos := "watch.go:77", after := #[{ on := 9, ground := Ground.data }, { on := 14, ground := Ground.data }], guard := none }) (v := ?_) rfl rfl (by kernel_rfl) (by kernel_rfl) (by kernel_rfl) (fun _ _ _ h => h) ⟨Or.inl ⟨by rfl, ?_⟩, fun _ => rfl⟩ ?_
                    rotate_left
                    · intro w
                      first | (go_simp; done) | (go_simp; with_reducible rfl)
                    try simp only [Act.put, List.setIfInBounds_toArray, List.set_cons_zero, List.set_cons_succ]
                    refine wpAnyIn_done (by kernel_rfl) ?_ _
                    have HJ3 := hide (abides_below HAB.out HJ.out (below_undrew b3))
                    have HK3 := hide (HK.out.trans ⟨KB.of_below (below_undrew b3) hbr, KB.of_below (below_undrew b3) hBsr⟩)
                    clear b3
                    gi_wp2
                    go_roundw
                    case rel => exact ⟨k + 1, zs, by omega, by go_num, hide (by rw [HV.out, HR1.out]), HJ3, HK3⟩
                    case measure => simp [intOf]; omega
                  exact AllReadyIn.nil
                refine AllReadyIn.cons (o := { dst := some 21, op := Op.load 57 (Operand.tmp 20), type := 57, pos := "watch.go:77", after := #[{ on := 6, ground := Ground.data }], guard := none }) rfl (fun K hK => ?_) ?_
                · go_simp
                  (try gi_wp2)
                  (try (refine hK _ _ ?_; clear hK K))
                  try simp only [Act.put, List.setIfInBounds_toArray, List.set_cons_zero, List.set_cons_succ]
                  refine wpAnyIn_ready (rs := [3]) (by kernel_rfl) (by simp) ?_
                  refine AllReadyIn.cons (o := { dst := some 17, op := Op.load 57 (Operand.tmp 16), type := 57, pos := "watch.go:77", after := #[{ on := 2, ground := Ground.data }], guard := none }) rfl (fun K hK => ?_) ?_
                  · go_simp
                    (try gi_wp2)
                    (try (refine hK _ _ ?_; clear hK K))
                    try simp only [Act.put, List.setIfInBounds_toArray, List.set_cons_zero, List.set_cons_succ]
                    refine wpAnyIn_ready (rs := [8]) (by kernel_rfl) (by simp) ?_
                    refine AllReadyIn.cons (o := { dst := some 22, op := Op.call { callee := Callee.value (Operand.func 59), args := #[Operand.tmp 17, Operand.tmp 21], argTypes := #[57, 57] }, type := 4, pos := "watch.go:77", after := #[{ on := 3, ground := Ground.data }, { on := 7, ground := Ground.data }], guard := none }) rfl (fun K hK => ?_) AllReadyIn.nil
                    rw [if_pos (by rfl)]
                    go_simp
                    refine ⟨trivial, ?_⟩; gi_at_call 59; refine (callsIn_wide.2 (overlap_any _ _ _ _ _ _ _)).mono ?_; rintro e w3 ⟨rfl, b3⟩; rw [HOV.out]
                    first | (refine hK _ _ ?_; clear hK K) | (gi_wp2; refine hK _ _ ?_; clear hK K)
                    try simp only [Act.put, List.setIfInBounds_toArray, List.set_cons_zero, List.set_cons_succ]
                    refine wpAnyIn_take (i := 9) (oi := { dst := some 23, op := Op.move (Operand.tmp 22), type := 4, pos := "watch.go:77", after := #[{ on := 8, ground := Ground.data }, { on := 8, ground := Ground.chain }], guard := none }) (v := ?_) rfl rfl (by kernel_rfl) (by kernel_rfl) (by kernel_rfl) (fun _ _ _ h => h) ⟨Or.inl ⟨by rfl, ?_⟩, fun _ => rfl⟩ ?_
                    rotate_left
                    · intro w
                      first | (go_simp; done) | (go_simp; with_reducible rfl)
                    try simp only [Act.put, List.setIfInBounds_toArray, List.set_cons_zero, List.set_cons_succ]
                    refine wpAnyIn_take (i := 10) (oi := { dst := some 24, op := Op.move (Operand.tmp 0), type := 98, pos := "watch.go:77", after := #[{ on := 9, ground := Ground.guard }], guard := some (9, true) }) (v := _) rfl rfl (by kernel_rfl) (by kernel_rfl) (by kernel_rfl) (fun _ _ _ h => h) ⟨Or.inr ⟨by rfl, rfl⟩, fun _ => rfl⟩ ?_
                    try simp only [Act.put, List.setIfInBounds_toArray, List.set_cons_zero, List.set_cons_succ]
                    refine wpAnyIn_take (i := 11) (oi := { dst := some 25, op := Op.move (Operand.tmp 4), type := 3, pos := "watch.go:77", after := #[{ on := 9, ground := Ground.guard }], guard := some (9, true) }) (v := _) rfl rfl (by kernel_rfl) (by kernel_rfl) (by kernel_rfl) (fun _ _ _ h => h) ⟨Or.inr ⟨by rfl, rfl⟩, fun _ => rfl⟩ ?_
                    try simp only [Act.put, List.setIfInBounds_toArray, List.set_cons_zero, List.set_cons_succ]
                    refine wpAnyIn_take (i := 12) (oi := { dst := some 26, op := Op.move (Operand.tmp 3), type := 3, pos := "watch.go:77", after := #[{ on := 9, ground := Ground.guard }], guard := some (9, true) }) (v := _) rfl rfl (by kernel_rfl) (by kernel_rfl) (by kernel_rfl) (fun _ _ _ h => h) ⟨Or.inr ⟨by rfl, rfl⟩, fun _ => rfl⟩ ?_
                    try simp only [Act.put, List.setIfInBounds_toArray, List.set_cons_zero, List.set_cons_succ]
                    refine wpAnyIn_take (i := 13) (oi := { dst := some 27, op := Op.call { callee := Callee.value (Operand.tmp 24), args := #[Operand.tmp 25, Operand.tmp 26], argTypes := #[3, 3] }, type := 4, pos := "watch.go:77", after := #[{ on := 10, ground := Ground.data }, { on := 11, ground := Ground.data }, { on := 12, ground := Ground.data }, { on := 9, ground := Ground.chain }, { on := 9, ground := Ground.guard }], guard := some (9, true) }) (v := _) rfl rfl (by kernel_rfl) (by kernel_rfl) (by kernel_rfl) (fun _ _ _ h => h) ⟨Or.inr ⟨by rfl, rfl⟩, fun _ => rfl⟩ ?_
                    try simp only [Act.put, List.setIfInBounds_toArray, List.set_cons_zero, List.set_cons_succ]
                    refine wpAnyIn_take (i := 14) (oi := { dst := some 28, op := Op.unOp UnOp.not 4 (Operand.tmp 27), type := 4, pos := "watch.go:77", after := #[{ on := 13, ground := Ground.data }, { on := 9, ground := Ground.guard }], guard := some (9, true) }) (v := _) rfl rfl (by kernel_rfl) (by kernel_rfl) (by kernel_rfl) (fun _ _ _ h => h) ⟨Or.inr ⟨by rfl, rfl⟩, fun _ => rfl⟩ ?_
                    try simp only [Act.put, List.setIfInBounds_toArray, List.set_cons_zero, List.set_cons_succ]
                    refine wpAnyIn_take (i := 15) (oi := { dst := some 29, op := Op.pick (Operand.tmp 23) (Operand.tmp 28) (Operand.const (Value.bool false)), type := 4, pos := "watch.go:77", after := #[{ on := 9, ground := Ground.data }, { on := 14, ground := Ground.data }], guard := none }) (v := ?_) rfl rfl (by kernel_rfl) (by kernel_rfl) (by kernel_rfl) (fun _ _ _ h => h) ⟨Or.inl ⟨by rfl, ?_⟩, fun _ => rfl⟩ ?_
                    rotate_left
                    · intro w
                      first | (go_simp; done) | (go_simp; with_reducible rfl)
                    try simp only [Act.put, List.setIfInBounds_toArray, List.set_cons_zero, List.set_cons_succ]
                    refine wpAnyIn_done (by kernel_rfl) ?_ _
                    have HJ3 := hide (abides_below HAB.out HJ.out (below_undrew b3))
                    have HK3 := hide (HK.out.trans ⟨KB.of_below (below_undrew b3) hbr, KB.of_below (below_undrew b3) hBsr⟩)
                    clear b3
                    gi_wp2
                    go_roundw
                    case rel => exact ⟨k + 1, zs, by omega, by go_num, hide (by rw [HV.out, HR1.out]), HJ3, HK3⟩
                    case measure => simp [intOf]; omega
                  exact AllReadyIn.nil
                exact AllReadyIn.nil
              refine AllReadyIn.cons (o := { dst := some 21, op := Op.load 57 (Operand.tmp 20), type := 57, pos := "watch.go:77", after := #[{ on := 6, ground := Ground.data }], guard := none }) rfl (fun K hK => ?_) ?_
              · go_simp
                (try gi_wp2)
                (try (refine hK _ _ ?_; clear hK K))
                try simp only [Act.put, List.setIfInBounds_toArray, List.set_cons_zero, List.set_cons_succ]
                refine wpAnyIn_ready (rs := [0]) (by kernel_rfl) (by simp) ?_
                refine AllReadyIn.cons (o := { dst := some 14, op := Op.load 22 (Operand.tmp 1), type := 22, pos := "watch.go:77", after := #[], guard := none }) rfl (fun K hK => ?_) ?_
                · go_simp
                  (try gi_wp2)
                  (try (refine hK _ _ ?_; clear hK K))
                  try simp only [Act.put, List.setIfInBounds_toArray, List.set_cons_zero, List.set_cons_succ]
                  refine wpAnyIn_take (i := 2) (oi := { dst := some 16, op := Op.indexAddr 22 (Operand.tmp 14) (Operand.tmp 15), type := 0, pos := "watch.go:77", after := #[{ on := 0, ground := Ground.data }, { on := 1, ground := Ground.data }], guard := none }) (v := ?_) rfl rfl (by kernel_rfl) (by kernel_rfl) (by kernel_rfl) (fun _ _ _ h => h) ⟨Or.inl ⟨by rfl, ?_⟩, fun _ => rfl⟩ ?_
                  rotate_left
                  · intro w
                    first | (go_simp; done) | (go_simp; with_reducible rfl)
                  try simp only [Act.put, List.setIfInBounds_toArray, List.set_cons_zero, List.set_cons_succ]
                  refine wpAnyIn_ready (rs := [3]) (by kernel_rfl) (by simp) ?_
                  refine AllReadyIn.cons (o := { dst := some 17, op := Op.load 57 (Operand.tmp 16), type := 57, pos := "watch.go:77", after := #[{ on := 2, ground := Ground.data }], guard := none }) rfl (fun K hK => ?_) ?_
                  · go_simp
                    (try gi_wp2)
                    (try (refine hK _ _ ?_; clear hK K))
                    try simp only [Act.put, List.setIfInBounds_toArray, List.set_cons_zero, List.set_cons_succ]
                    refine wpAnyIn_ready (rs := [8]) (by kernel_rfl) (by simp) ?_
                    refine AllReadyIn.cons (o := { dst := some 22, op := Op.call { callee := Callee.value (Operand.func 59), args := #[Operand.tmp 17, Operand.tmp 21], argTypes := #[57, 57] }, type := 4, pos := "watch.go:77", after := #[{ on := 3, ground := Ground.data }, { on := 7, ground := Ground.data }], guard := none }) rfl (fun K hK => ?_) AllReadyIn.nil
                    rw [if_pos (by rfl)]
                    go_simp
                    refine ⟨trivial, ?_⟩; gi_at_call 59; refine (callsIn_wide.2 (overlap_any _ _ _ _ _ _ _)).mono ?_; rintro e w3 ⟨rfl, b3⟩; rw [HOV.out]
                    first | (refine hK _ _ ?_; clear hK K) | (gi_wp2; refine hK _ _ ?_; clear hK K)
                    try simp only [Act.put, List.setIfInBounds_toArray, List.set_cons_zero, List.set_cons_succ]
                    refine wpAnyIn_take (i := 9) (oi := { dst := some 23, op := Op.move (Operand.tmp 22), type := 4, pos := "watch.go:77", after := #[{ on := 8, ground := Ground.data }, { on := 8, ground := Ground.chain }], guard := none }) (v := ?_) rfl rfl (by kernel_rfl) (by kernel_rfl) (by kernel_rfl) (fun _ _ _ h => h) ⟨Or.inl ⟨by rfl, ?_⟩, fun _ => rfl⟩ ?_
                    rotate_left
                    · intro w
                      first | (go_simp; done) | (go_simp; with_reducible rfl)
                    try simp only [Act.put, List.setIfInBounds_toArray, List.set_cons_zero, List.set_cons_succ]
                    refine wpAnyIn_take (i := 10) (oi := { dst := some 24, op := Op.move (Operand.tmp 0), type := 98, pos := "watch.go:77", after := #[{ on := 9, ground := Ground.guard }], guard := some (9, true) }) (v := _) rfl rfl (by kernel_rfl) (by kernel_rfl) (by kernel_rfl) (fun _ _ _ h => h) ⟨Or.inr ⟨by rfl, rfl⟩, fun _ => rfl⟩ ?_
                    try simp only [Act.put, List.setIfInBounds_toArray, List.set_cons_zero, List.set_cons_succ]
                    refine wpAnyIn_take (i := 11) (oi := { dst := some 25, op := Op.move (Operand.tmp 4), type := 3, pos := "watch.go:77", after := #[{ on := 9, ground := Ground.guard }], guard := some (9, true) }) (v := _) rfl rfl (by kernel_rfl) (by kernel_rfl) (by kernel_rfl) (fun _ _ _ h => h) ⟨Or.inr ⟨by rfl, rfl⟩, fun _ => rfl⟩ ?_
                    try simp only [Act.put, List.setIfInBounds_toArray, List.set_cons_zero, List.set_cons_succ]
                    refine wpAnyIn_take (i := 12) (oi := { dst := some 26, op := Op.move (Operand.tmp 3), type := 3, pos := "watch.go:77", after := #[{ on := 9, ground := Ground.guard }], guard := some (9, true) }) (v := _) rfl rfl (by kernel_rfl) (by kernel_rfl) (by kernel_rfl) (fun _ _ _ h => h) ⟨Or.inr ⟨by rfl, rfl⟩, fun _ => rfl⟩ ?_
                    try simp only [Act.put, List.setIfInBounds_toArray, List.set_cons_zero, List.set_cons_succ]
                    refine wpAnyIn_take (i := 13) (oi := { dst := some 27, op := Op.call { callee := Callee.value (Operand.tmp 24), args := #[Operand.tmp 25, Operand.tmp 26], argTypes := #[3, 3] }, type := 4, pos := "watch.go:77", after := #[{ on := 10, ground := Ground.data }, { on := 11, ground := Ground.data }, { on := 12, ground := Ground.data }, { on := 9, ground := Ground.chain }, { on := 9, ground := Ground.guard }], guard := some (9, true) }) (v := _) rfl rfl (by kernel_rfl) (by kernel_rfl) (by kernel_rfl) (fun _ _ _ h => h) ⟨Or.inr ⟨by rfl, rfl⟩, fun _ => rfl⟩ ?_
                    try simp only [Act.put, List.setIfInBounds_toArray, List.set_cons_zero, List.set_cons_succ]
                    refine wpAnyIn_take (i := 14) (oi := { dst := some 28, op := Op.unOp UnOp.not 4 (Operand.tmp 27), type := 4, pos := "watch.go:77", after := #[{ on := 13, ground := Ground.data }, { on := 9, ground := Ground.guard }], guard := some (9, true) }) (v := _) rfl rfl (by kernel_rfl) (by kernel_rfl) (by kernel_rfl) (fun _ _ _ h => h) ⟨Or.inr ⟨by rfl, rfl⟩, fun _ => rfl⟩ ?_
                    try simp only [Act.put, List.setIfInBounds_toArray, List.set_cons_zero, List.set_cons_succ]
                    refine wpAnyIn_take (i := 15) (oi := { dst := some 29, op := Op.pick (Operand.tmp 23) (Operand.tmp 28) (Operand.const (Value.bool false)), type := 4, pos := "watch.go:77", after := #[{ on := 9, ground := Ground.data }, { on := 14, ground := Ground.data }], guard := none }) (v := ?_) rfl rfl (by kernel_rfl) (by kernel_rfl) (by kernel_rfl) (fun _ _ _ h => h) ⟨Or.inl ⟨by rfl, ?_⟩, fun _ => rfl⟩ ?_
                    rotate_left
                    · intro w
                      first | (go_simp; done) | (go_simp; with_reducible rfl)
                    try simp only [Act.put, List.setIfInBounds_toArray, List.set_cons_zero, List.set_cons_succ]
                    refine wpAnyIn_done (by kernel_rfl) ?_ _
                    have HJ3 := hide (abides_below HAB.out HJ.out (below_undrew b3))
                    have HK3 := hide (HK.out.trans ⟨KB.of_below (below_undrew b3) hbr, KB.of_below (below_undrew b3) hBsr⟩)
                    clear b3
                    gi_wp2
                    go_roundw
                    case rel => exact ⟨k + 1, zs, by omega, by go_num, hide (by rw [HV.out, HR1.out]), HJ3, HK3⟩
                    case measure => simp [intOf]; omega
                  exact AllReadyIn.nil
                exact AllReadyIn.nil
              exact AllReadyIn.nil
            exact AllReadyIn.nil
        · obtain rfl : k = j := by omega
          gi_wp2
          go_roundw
          case rel => exact ⟨k + 1, zs, by omega, by go_num, hide (by rw [HV.out, allp_succ]), HJ, HK⟩
          case measure => simp [intOf]; omega
    · obtain rfl : j = n := by omega
      gi_wp2
      go_end0
      exact ⟨⟨_, rfl⟩, .inl ⟨_, HV.out, HJ.out⟩⟩
end Go.Proofs.Ytpkjgnllkaafkaa
