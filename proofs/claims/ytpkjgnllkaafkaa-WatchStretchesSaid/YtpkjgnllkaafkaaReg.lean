/- A region of reads that draws its order, in a round: every order comes to the same end. -/
import Derived.Test.YtpkjgnllkaafkaaWalkP0
import Derived.Stop.RegionWithIn
namespace Go.Proofs.Ytpkjgnllkaafkaa
open Go.RowKit Go.Shelf
attribute [local go_sem] Oper.semAt_some

def ops15 : Array Oper := #[{ dst := some 39, op := Op.load 30 (Operand.tmp 3), type := 30, pos := "watch.go:143", after := #[], guard := none }, { dst := some 40, op := Op.move (Operand.tmp 9), type := 3, pos := "watch.go:143", after := #[], guard := none }, { dst := some 41, op := Op.indexAddr 30 (Operand.tmp 39) (Operand.tmp 40), type := 0, pos := "watch.go:143", after := #[{ on := 0, ground := Ground.data }, { on := 1, ground := Ground.data }], guard := none }, { dst := some 42, op := Op.load 3 (Operand.tmp 41), type := 3, pos := "watch.go:143", after := #[{ on := 2, ground := Ground.data }], guard := none }, { dst := some 43, op := Op.load 30 (Operand.tmp 3), type := 30, pos := "watch.go:143", after := #[], guard := none }, { dst := some 44, op := Op.move (Operand.tmp 10), type := 3, pos := "watch.go:143", after := #[], guard := none }, { dst := some 45, op := Op.indexAddr 30 (Operand.tmp 43) (Operand.tmp 44), type := 0, pos := "watch.go:143", after := #[{ on := 4, ground := Ground.data }, { on := 5, ground := Ground.data }], guard := none }, { dst := some 46, op := Op.load 3 (Operand.tmp 45), type := 3, pos := "watch.go:143", after := #[{ on := 6, ground := Ground.data }], guard := none }, { dst := some 47, op := Op.binOp BinOp.eql 3 (Operand.tmp 42) (Operand.tmp 46) 3, type := 4, pos := "watch.go:143", after := #[{ on := 3, ground := Ground.data }, { on := 7, ground := Ground.data }], guard := none }]
set_option maxRecDepth 100000 in
set_option maxHeartbeats 8000000 in
theorem reg15_in (l p b off k c i j : Nat) (y z : Int) {s0 s1 s2 s4 s5 s6 s7 s8 s11 s12 s13 s14 s15 s16 s17 s18 s19 s20 s21 s22 s23 s24 s25 s26 s27 s28 s29 s30 s31 s32 s33 s34 s35 s36 s37 s38 s39 s40 s41 s42 s43 s44 s45 s46 s47 s48 s49 s50 s51 s52 s53 s54 : Value} {Q : Exit → Act → World → Prop} (W : World)
    (cR : W.cell? ⟨p, 0, none⟩ = some (.slice (some ⟨b, off, none⟩) k c)) (a1 : W.cell? ⟨b, off + i, none⟩ = some (.int .i64 y)) (d1 : W.cell? ⟨b, off + j, none⟩ = some (.int .i64 z))
    (i1 : (i : Int) < (k : Int)) (i2 : (j : Int) < (k : Int)) (hcap : k ≤ c) (hmax : c ≤ 9223372036854775807)
    (hfin : Q .normal { tmps := #[s0, s1, s2, .pointer (some ⟨p, 0, none⟩), s4, s5, s6, s7, s8, .int .i64 i, .int .i64 j, s11, s12, s13, s14, s15, s16, s17, s18, s19, s20, s21, s22, s23, s24, s25, s26, s27, s28, s29, s30, s31, s32, s33, s34, s35, s36, s37, s38, .slice (some ⟨b, off, none⟩) k c, .int .i64 i, .pointer (some ⟨b, off + i, none⟩), .int .i64 y, .slice (some ⟨b, off, none⟩) k c, .int .i64 j, .pointer (some ⟨b, off + j, none⟩), .int .i64 z, .bool (y == z), s48, s49, s50, s51, s52, s53, s54], defers := [] } W.drew) :
    wpAnyIn (Fence.wide.inRound l) 1 Try.prog .any #[{ dst := some 39, op := Op.load 30 (Operand.tmp 3), type := 30, pos := "watch.go:143", after := #[], guard := none }, { dst := some 40, op := Op.move (Operand.tmp 9), type := 3, pos := "watch.go:143", after := #[], guard := none }, { dst := some 41, op := Op.indexAddr 30 (Operand.tmp 39) (Operand.tmp 40), type := 0, pos := "watch.go:143", after := #[{ on := 0, ground := Ground.data }, { on := 1, ground := Ground.data }], guard := none }, { dst := some 42, op := Op.load 3 (Operand.tmp 41), type := 3, pos := "watch.go:143", after := #[{ on := 2, ground := Ground.data }], guard := none }, { dst := some 43, op := Op.load 30 (Operand.tmp 3), type := 30, pos := "watch.go:143", after := #[], guard := none }, { dst := some 44, op := Op.move (Operand.tmp 10), type := 3, pos := "watch.go:143", after := #[], guard := none }, { dst := some 45, op := Op.indexAddr 30 (Operand.tmp 43) (Operand.tmp 44), type := 0, pos := "watch.go:143", after := #[{ on := 4, ground := Ground.data }, { on := 5, ground := Ground.data }], guard := none }, { dst := some 46, op := Op.load 3 (Operand.tmp 45), type := 3, pos := "watch.go:143", after := #[{ on := 6, ground := Ground.data }], guard := none }, { dst := some 47, op := Op.binOp BinOp.eql 3 (Operand.tmp 42) (Operand.tmp 46) 3, type := 4, pos := "watch.go:143", after := #[{ on := 3, ground := Ground.data }, { on := 7, ground := Ground.data }], guard := none }] Q 9 #[false, false, false, false, false, false, false, false, false] { tmps := #[s0, s1, s2, .pointer (some ⟨p, 0, none⟩), s4, s5, s6, s7, s8, .int .i64 i, .int .i64 j, s11, s12, s13, s14, s15, s16, s17, s18, s19, s20, s21, s22, s23, s24, s25, s26, s27, s28, s29, s30, s31, s32, s33, s34, s35, s36, s37, s38, s39, s40, s41, s42, s43, s44, s45, s46, s47, s48, s49, s50, s51, s52, s53, s54], defers := [] } W.drew := by
  have h111111111 : wpAnyIn (Fence.wide.inRound l) 1 Try.prog .any #[{ dst := some 39, op := Op.load 30 (Operand.tmp 3), type := 30, pos := "watch.go:143", after := #[], guard := none }, { dst := some 40, op := Op.move (Operand.tmp 9), type := 3, pos := "watch.go:143", after := #[], guard := none }, { dst := some 41, op := Op.indexAddr 30 (Operand.tmp 39) (Operand.tmp 40), type := 0, pos := "watch.go:143", after := #[{ on := 0, ground := Ground.data }, { on := 1, ground := Ground.data }], guard := none }, { dst := some 42, op := Op.load 3 (Operand.tmp 41), type := 3, pos := "watch.go:143", after := #[{ on := 2, ground := Ground.data }], guard := none }, { dst := some 43, op := Op.load 30 (Operand.tmp 3), type := 30, pos := "watch.go:143", after := #[], guard := none }, { dst := some 44, op := Op.move (Operand.tmp 10), type := 3, pos := "watch.go:143", after := #[], guard := none }, { dst := some 45, op := Op.indexAddr 30 (Operand.tmp 43) (Operand.tmp 44), type := 0, pos := "watch.go:143", after := #[{ on := 4, ground := Ground.data }, { on := 5, ground := Ground.data }], guard := none }, { dst := some 46, op := Op.load 3 (Operand.tmp 45), type := 3, pos := "watch.go:143", after := #[{ on := 6, ground := Ground.data }], guard := none }, { dst := some 47, op := Op.binOp BinOp.eql 3 (Operand.tmp 42) (Operand.tmp 46) 3, type := 4, pos := "watch.go:143", after := #[{ on := 3, ground := Ground.data }, { on := 7, ground := Ground.data }], guard := none }] Q 0 #[true, true, true, true, true, true, true, true, true] { tmps := #[s0, s1, s2, .pointer (some ⟨p, 0, none⟩), s4, s5, s6, s7, s8, .int .i64 i, .int .i64 j, s11, s12, s13, s14, s15, s16, s17, s18, s19, s20, s21, s22, s23, s24, s25, s26, s27, s28, s29, s30, s31, s32, s33, s34, s35, s36, s37, s38, .slice (some ⟨b, off, none⟩) k c, .int .i64 i, .pointer (some ⟨b, off + i, none⟩), .int .i64 y, .slice (some ⟨b, off, none⟩) k c, .int .i64 j, .pointer (some ⟨b, off + j, none⟩), .int .i64 z, .bool (y == z), s48, s49, s50, s51, s52, s53, s54], defers := [] } W.drew := wpAnyIn_done (by kernel_rfl) hfin _
  have h111111110 : wpAnyIn (Fence.wide.inRound l) 1 Try.prog .any #[{ dst := some 39, op := Op.load 30 (Operand.tmp 3), type := 30, pos := "watch.go:143", after := #[], guard := none }, { dst := some 40, op := Op.move (Operand.tmp 9), type := 3, pos := "watch.go:143", after := #[], guard := none }, { dst := some 41, op := Op.indexAddr 30 (Operand.tmp 39) (Operand.tmp 40), type := 0, pos := "watch.go:143", after := #[{ on := 0, ground := Ground.data }, { on := 1, ground := Ground.data }], guard := none }, { dst := some 42, op := Op.load 3 (Operand.tmp 41), type := 3, pos := "watch.go:143", after := #[{ on := 2, ground := Ground.data }], guard := none }, { dst := some 43, op := Op.load 30 (Operand.tmp 3), type := 30, pos := "watch.go:143", after := #[], guard := none }, { dst := some 44, op := Op.move (Operand.tmp 10), type := 3, pos := "watch.go:143", after := #[], guard := none }, { dst := some 45, op := Op.indexAddr 30 (Operand.tmp 43) (Operand.tmp 44), type := 0, pos := "watch.go:143", after := #[{ on := 4, ground := Ground.data }, { on := 5, ground := Ground.data }], guard := none }, { dst := some 46, op := Op.load 3 (Operand.tmp 45), type := 3, pos := "watch.go:143", after := #[{ on := 6, ground := Ground.data }], guard := none }, { dst := some 47, op := Op.binOp BinOp.eql 3 (Operand.tmp 42) (Operand.tmp 46) 3, type := 4, pos := "watch.go:143", after := #[{ on := 3, ground := Ground.data }, { on := 7, ground := Ground.data }], guard := none }] Q 1 #[true, true, true, true, true, true, true, true, false] { tmps := #[s0, s1, s2, .pointer (some ⟨p, 0, none⟩), s4, s5, s6, s7, s8, .int .i64 i, .int .i64 j, s11, s12, s13, s14, s15, s16, s17, s18, s19, s20, s21, s22, s23, s24, s25, s26, s27, s28, s29, s30, s31, s32, s33, s34, s35, s36, s37, s38, .slice (some ⟨b, off, none⟩) k c, .int .i64 i, .pointer (some ⟨b, off + i, none⟩), .int .i64 y, .slice (some ⟨b, off, none⟩) k c, .int .i64 j, .pointer (some ⟨b, off + j, none⟩), .int .i64 z, s47, s48, s49, s50, s51, s52, s53, s54], defers := [] } W.drew := by
    refine wpAnyIn_ready (rs := [8]) (by kernel_rfl) (by simp) ?_
    refine AllReadyIn.cons (o := { dst := some 47, op := Op.binOp BinOp.eql 3 (Operand.tmp 42) (Operand.tmp 46) 3, type := 4, pos := "watch.go:143", after := #[{ on := 3, ground := Ground.data }, { on := 7, ground := Ground.data }], guard := none }) rfl (fun K hK => ?_) ?_
    · skip
      go_simp
      (try gi_wp2)
      all_goals
        refine hK _ _ ?_
        clear hK K
        try simp only [Act.put, List.setIfInBounds_toArray, List.set_cons_zero, List.set_cons_succ]
        exact h111111111
    exact AllReadyIn.nil
  have h111111100 : wpAnyIn (Fence.wide.inRound l) 1 Try.prog .any #[{ dst := some 39, op := Op.load 30 (Operand.tmp 3), type := 30, pos := "watch.go:143", after := #[], guard := none }, { dst := some 40, op := Op.move (Operand.tmp 9), type := 3, pos := "watch.go:143", after := #[], guard := none }, { dst := some 41, op := Op.indexAddr 30 (Operand.tmp 39) (Operand.tmp 40), type := 0, pos := "watch.go:143", after := #[{ on := 0, ground := Ground.data }, { on := 1, ground := Ground.data }], guard := none }, { dst := some 42, op := Op.load 3 (Operand.tmp 41), type := 3, pos := "watch.go:143", after := #[{ on := 2, ground := Ground.data }], guard := none }, { dst := some 43, op := Op.load 30 (Operand.tmp 3), type := 30, pos := "watch.go:143", after := #[], guard := none }, { dst := some 44, op := Op.move (Operand.tmp 10), type := 3, pos := "watch.go:143", after := #[], guard := none }, { dst := some 45, op := Op.indexAddr 30 (Operand.tmp 43) (Operand.tmp 44), type := 0, pos := "watch.go:143", after := #[{ on := 4, ground := Ground.data }, { on := 5, ground := Ground.data }], guard := none }, { dst := some 46, op := Op.load 3 (Operand.tmp 45), type := 3, pos := "watch.go:143", after := #[{ on := 6, ground := Ground.data }], guard := none }, { dst := some 47, op := Op.binOp BinOp.eql 3 (Operand.tmp 42) (Operand.tmp 46) 3, type := 4, pos := "watch.go:143", after := #[{ on := 3, ground := Ground.data }, { on := 7, ground := Ground.data }], guard := none }] Q 2 #[true, true, true, true, true, true, true, false, false] { tmps := #[s0, s1, s2, .pointer (some ⟨p, 0, none⟩), s4, s5, s6, s7, s8, .int .i64 i, .int .i64 j, s11, s12, s13, s14, s15, s16, s17, s18, s19, s20, s21, s22, s23, s24, s25, s26, s27, s28, s29, s30, s31, s32, s33, s34, s35, s36, s37, s38, .slice (some ⟨b, off, none⟩) k c, .int .i64 i, .pointer (some ⟨b, off + i, none⟩), .int .i64 y, .slice (some ⟨b, off, none⟩) k c, .int .i64 j, .pointer (some ⟨b, off + j, none⟩), s46, s47, s48, s49, s50, s51, s52, s53, s54], defers := [] } W.drew := by
    refine wpAnyIn_ready (rs := [7]) (by kernel_rfl) (by simp) ?_
    refine AllReadyIn.cons (o := { dst := some 46, op := Op.load 3 (Operand.tmp 45), type := 3, pos := "watch.go:143", after := #[{ on := 6, ground := Ground.data }], guard := none }) rfl (fun K hK => ?_) ?_
    · clear h111111111
      go_simp
      (try gi_wp2)
      all_goals
        refine hK _ _ ?_
        clear hK K
        try simp only [Act.put, List.setIfInBounds_toArray, List.set_cons_zero, List.set_cons_succ]
        exact h111111110
    exact AllReadyIn.nil
  have h111011110 : wpAnyIn (Fence.wide.inRound l) 1 Try.prog .any #[{ dst := some 39, op := Op.load 30 (Operand.tmp 3), type := 30, pos := "watch.go:143", after := #[], guard := none }, { dst := some 40, op := Op.move (Operand.tmp 9), type := 3, pos := "watch.go:143", after := #[], guard := none }, { dst := some 41, op := Op.indexAddr 30 (Operand.tmp 39) (Operand.tmp 40), type := 0, pos := "watch.go:143", after := #[{ on := 0, ground := Ground.data }, { on := 1, ground := Ground.data }], guard := none }, { dst := some 42, op := Op.load 3 (Operand.tmp 41), type := 3, pos := "watch.go:143", after := #[{ on := 2, ground := Ground.data }], guard := none }, { dst := some 43, op := Op.load 30 (Operand.tmp 3), type := 30, pos := "watch.go:143", after := #[], guard := none }, { dst := some 44, op := Op.move (Operand.tmp 10), type := 3, pos := "watch.go:143", after := #[], guard := none }, { dst := some 45, op := Op.indexAddr 30 (Operand.tmp 43) (Operand.tmp 44), type := 0, pos := "watch.go:143", after := #[{ on := 4, ground := Ground.data }, { on := 5, ground := Ground.data }], guard := none }, { dst := some 46, op := Op.load 3 (Operand.tmp 45), type := 3, pos := "watch.go:143", after := #[{ on := 6, ground := Ground.data }], guard := none }, { dst := some 47, op := Op.binOp BinOp.eql 3 (Operand.tmp 42) (Operand.tmp 46) 3, type := 4, pos := "watch.go:143", after := #[{ on := 3, ground := Ground.data }, { on := 7, ground := Ground.data }], guard := none }] Q 2 #[true, true, true, false, true, true, true, true, false] { tmps := #[s0, s1, s2, .pointer (some ⟨p, 0, none⟩), s4, s5, s6, s7, s8, .int .i64 i, .int .i64 j, s11, s12, s13, s14, s15, s16, s17, s18, s19, s20, s21, s22, s23, s24, s25, s26, s27, s28, s29, s30, s31, s32, s33, s34, s35, s36, s37, s38, .slice (some ⟨b, off, none⟩) k c, .int .i64 i, .pointer (some ⟨b, off + i, none⟩), s42, .slice (some ⟨b, off, none⟩) k c, .int .i64 j, .pointer (some ⟨b, off + j, none⟩), .int .i64 z, s47, s48, s49, s50, s51, s52, s53, s54], defers := [] } W.drew := by
    refine wpAnyIn_ready (rs := [3]) (by kernel_rfl) (by simp) ?_
    refine AllReadyIn.cons (o := { dst := some 42, op := Op.load 3 (Operand.tmp 41), type := 3, pos := "watch.go:143", after := #[{ on := 2, ground := Ground.data }], guard := none }) rfl (fun K hK => ?_) ?_
    · clear h111111111
      go_simp
      (try gi_wp2)
      all_goals
        refine hK _ _ ?_
        clear hK K
        try simp only [Act.put, List.setIfInBounds_toArray, List.set_cons_zero, List.set_cons_succ]
        exact h111111110
    exact AllReadyIn.nil
  clear h111111110
  have h111111000 : wpAnyIn (Fence.wide.inRound l) 1 Try.prog .any #[{ dst := some 39, op := Op.load 30 (Operand.tmp 3), type := 30, pos := "watch.go:143", after := #[], guard := none }, { dst := some 40, op := Op.move (Operand.tmp 9), type := 3, pos := "watch.go:143", after := #[], guard := none }, { dst := some 41, op := Op.indexAddr 30 (Operand.tmp 39) (Operand.tmp 40), type := 0, pos := "watch.go:143", after := #[{ on := 0, ground := Ground.data }, { on := 1, ground := Ground.data }], guard := none }, { dst := some 42, op := Op.load 3 (Operand.tmp 41), type := 3, pos := "watch.go:143", after := #[{ on := 2, ground := Ground.data }], guard := none }, { dst := some 43, op := Op.load 30 (Operand.tmp 3), type := 30, pos := "watch.go:143", after := #[], guard := none }, { dst := some 44, op := Op.move (Operand.tmp 10), type := 3, pos := "watch.go:143", after := #[], guard := none }, { dst := some 45, op := Op.indexAddr 30 (Operand.tmp 43) (Operand.tmp 44), type := 0, pos := "watch.go:143", after := #[{ on := 4, ground := Ground.data }, { on := 5, ground := Ground.data }], guard := none }, { dst := some 46, op := Op.load 3 (Operand.tmp 45), type := 3, pos := "watch.go:143", after := #[{ on := 6, ground := Ground.data }], guard := none }, { dst := some 47, op := Op.binOp BinOp.eql 3 (Operand.tmp 42) (Operand.tmp 46) 3, type := 4, pos := "watch.go:143", after := #[{ on := 3, ground := Ground.data }, { on := 7, ground := Ground.data }], guard := none }] Q 3 #[true, true, true, true, true, true, false, false, false] { tmps := #[s0, s1, s2, .pointer (some ⟨p, 0, none⟩), s4, s5, s6, s7, s8, .int .i64 i, .int .i64 j, s11, s12, s13, s14, s15, s16, s17, s18, s19, s20, s21, s22, s23, s24, s25, s26, s27, s28, s29, s30, s31, s32, s33, s34, s35, s36, s37, s38, .slice (some ⟨b, off, none⟩) k c, .int .i64 i, .pointer (some ⟨b, off + i, none⟩), .int .i64 y, .slice (some ⟨b, off, none⟩) k c, .int .i64 j, s45, s46, s47, s48, s49, s50, s51, s52, s53, s54], defers := [] } W.drew := by
    refine wpAnyIn_ready (rs := [6]) (by kernel_rfl) (by simp) ?_
    refine AllReadyIn.cons (o := { dst := some 45, op := Op.indexAddr 30 (Operand.tmp 43) (Operand.tmp 44), type := 0, pos := "watch.go:143", after := #[{ on := 4, ground := Ground.data }, { on := 5, ground := Ground.data }], guard := none }) rfl (fun K hK => ?_) ?_
    · clear h111111111 h111011110
      go_simp
      (try gi_wp2)
      all_goals
        refine hK _ _ ?_
        clear hK K
        try simp only [Act.put, List.setIfInBounds_toArray, List.set_cons_zero, List.set_cons_succ]
        exact h111111100
    exact AllReadyIn.nil
  have h111011100 : wpAnyIn (Fence.wide.inRound l) 1 Try.prog .any #[{ dst := some 39, op := Op.load 30 (Operand.tmp 3), type := 30, pos := "watch.go:143", after := #[], guard := none }, { dst := some 40, op := Op.move (Operand.tmp 9), type := 3, pos := "watch.go:143", after := #[], guard := none }, { dst := some 41, op := Op.indexAddr 30 (Operand.tmp 39) (Operand.tmp 40), type := 0, pos := "watch.go:143", after := #[{ on := 0, ground := Ground.data }, { on := 1, ground := Ground.data }], guard := none }, { dst := some 42, op := Op.load 3 (Operand.tmp 41), type := 3, pos := "watch.go:143", after := #[{ on := 2, ground := Ground.data }], guard := none }, { dst := some 43, op := Op.load 30 (Operand.tmp 3), type := 30, pos := "watch.go:143", after := #[], guard := none }, { dst := some 44, op := Op.move (Operand.tmp 10), type := 3, pos := "watch.go:143", after := #[], guard := none }, { dst := some 45, op := Op.indexAddr 30 (Operand.tmp 43) (Operand.tmp 44), type := 0, pos := "watch.go:143", after := #[{ on := 4, ground := Ground.data }, { on := 5, ground := Ground.data }], guard := none }, { dst := some 46, op := Op.load 3 (Operand.tmp 45), type := 3, pos := "watch.go:143", after := #[{ on := 6, ground := Ground.data }], guard := none }, { dst := some 47, op := Op.binOp BinOp.eql 3 (Operand.tmp 42) (Operand.tmp 46) 3, type := 4, pos := "watch.go:143", after := #[{ on := 3, ground := Ground.data }, { on := 7, ground := Ground.data }], guard := none }] Q 3 #[true, true, true, false, true, true, true, false, false] { tmps := #[s0, s1, s2, .pointer (some ⟨p, 0, none⟩), s4, s5, s6, s7, s8, .int .i64 i, .int .i64 j, s11, s12, s13, s14, s15, s16, s17, s18, s19, s20, s21, s22, s23, s24, s25, s26, s27, s28, s29, s30, s31, s32, s33, s34, s35, s36, s37, s38, .slice (some ⟨b, off, none⟩) k c, .int .i64 i, .pointer (some ⟨b, off + i, none⟩), s42, .slice (some ⟨b, off, none⟩) k c, .int .i64 j, .pointer (some ⟨b, off + j, none⟩), s46, s47, s48, s49, s50, s51, s52, s53, s54], defers := [] } W.drew := by
    refine wpAnyIn_ready (rs := [3, 7]) (by kernel_rfl) (by simp) ?_
    refine AllReadyIn.cons (o := { dst := some 42, op := Op.load 3 (Operand.tmp 41), type := 3, pos := "watch.go:143", after := #[{ on := 2, ground := Ground.data }], guard := none }) rfl (fun K hK => ?_) ?_
    · clear h111111111 h111011110
      go_simp
      (try gi_wp2)
      all_goals
        refine hK _ _ ?_
        clear hK K
        try simp only [Act.put, List.setIfInBounds_toArray, List.set_cons_zero, List.set_cons_succ]
        exact h111111100
    refine AllReadyIn.cons (o := { dst := some 46, op := Op.load 3 (Operand.tmp 45), type := 3, pos := "watch.go:143", after := #[{ on := 6, ground := Ground.data }], guard := none }) rfl (fun K hK => ?_) ?_
    · clear h111111111 h111111100
      go_simp
      (try gi_wp2)
      all_goals
        refine hK _ _ ?_
        clear hK K
        try simp only [Act.put, List.setIfInBounds_toArray, List.set_cons_zero, List.set_cons_succ]
        exact h111011110
    exact AllReadyIn.nil
  have h110011110 : wpAnyIn (Fence.wide.inRound l) 1 Try.prog .any #[{ dst := some 39, op := Op.load 30 (Operand.tmp 3), type := 30, pos := "watch.go:143", after := #[], guard := none }, { dst := some 40, op := Op.move (Operand.tmp 9), type := 3, pos := "watch.go:143", after := #[], guard := none }, { dst := some 41, op := Op.indexAddr 30 (Operand.tmp 39) (Operand.tmp 40), type := 0, pos := "watch.go:143", after := #[{ on := 0, ground := Ground.data }, { on := 1, ground := Ground.data }], guard := none }, { dst := some 42, op := Op.load 3 (Operand.tmp 41), type := 3, pos := "watch.go:143", after := #[{ on := 2, ground := Ground.data }], guard := none }, { dst := some 43, op := Op.load 30 (Operand.tmp 3), type := 30, pos := "watch.go:143", after := #[], guard := none }, { dst := some 44, op := Op.move (Operand.tmp 10), type := 3, pos := "watch.go:143", after := #[], guard := none }, { dst := some 45, op := Op.indexAddr 30 (Operand.tmp 43) (Operand.tmp 44), type := 0, pos := "watch.go:143", after := #[{ on := 4, ground := Ground.data }, { on := 5, ground := Ground.data }], guard := none }, { dst := some 46, op := Op.load 3 (Operand.tmp 45), type := 3, pos := "watch.go:143", after := #[{ on := 6, ground := Ground.data }], guard := none }, { dst := some 47, op := Op.binOp BinOp.eql 3 (Operand.tmp 42) (Operand.tmp 46) 3, type := 4, pos := "watch.go:143", after := #[{ on := 3, ground := Ground.data }, { on := 7, ground := Ground.data }], guard := none }] Q 3 #[true, true, false, false, true, true, true, true, false] { tmps := #[s0, s1, s2, .pointer (some ⟨p, 0, none⟩), s4, s5, s6, s7, s8, .int .i64 i, .int .i64 j, s11, s12, s13, s14, s15, s16, s17, s18, s19, s20, s21, s22, s23, s24, s25, s26, s27, s28, s29, s30, s31, s32, s33, s34, s35, s36, s37, s38, .slice (some ⟨b, off, none⟩) k c, .int .i64 i, s41, s42, .slice (some ⟨b, off, none⟩) k c, .int .i64 j, .pointer (some ⟨b, off + j, none⟩), .int .i64 z, s47, s48, s49, s50, s51, s52, s53, s54], defers := [] } W.drew := by
    refine wpAnyIn_ready (rs := [2]) (by kernel_rfl) (by simp) ?_
    refine AllReadyIn.cons (o := { dst := some 41, op := Op.indexAddr 30 (Operand.tmp 39) (Operand.tmp 40), type := 0, pos := "watch.go:143", after := #[{ on := 0, ground := Ground.data }, { on := 1, ground := Ground.data }], guard := none }) rfl (fun K hK => ?_) ?_
    · clear h111111111 h111111100
      go_simp
      (try gi_wp2)
      all_goals
        refine hK _ _ ?_
        clear hK K
        try simp only [Act.put, List.setIfInBounds_toArray, List.set_cons_zero, List.set_cons_succ]
        exact h111011110
    exact AllReadyIn.nil
  clear h111111100 h111011110
  have h111110000 : wpAnyIn (Fence.wide.inRound l) 1 Try.prog .any #[{ dst := some 39, op := Op.load 30 (Operand.tmp 3), type := 30, pos := "watch.go:143", after := #[], guard := none }, { dst := some 40, op := Op.move (Operand.tmp 9), type := 3, pos := "watch.go:143", after := #[], guard := none }, { dst := some 41, op := Op.indexAddr 30 (Operand.tmp 39) (Operand.tmp 40), type := 0, pos := "watch.go:143", after := #[{ on := 0, ground := Ground.data }, { on := 1, ground := Ground.data }], guard := none }, { dst := some 42, op := Op.load 3 (Operand.tmp 41), type := 3, pos := "watch.go:143", after := #[{ on := 2, ground := Ground.data }], guard := none }, { dst := some 43, op := Op.load 30 (Operand.tmp 3), type := 30, pos := "watch.go:143", after := #[], guard := none }, { dst := some 44, op := Op.move (Operand.tmp 10), type := 3, pos := "watch.go:143", after := #[], guard := none }, { dst := some 45, op := Op.indexAddr 30 (Operand.tmp 43) (Operand.tmp 44), type := 0, pos := "watch.go:143", after := #[{ on := 4, ground := Ground.data }, { on := 5, ground := Ground.data }], guard := none }, { dst := some 46, op := Op.load 3 (Operand.tmp 45), type := 3, pos := "watch.go:143", after := #[{ on := 6, ground := Ground.data }], guard := none }, { dst := some 47, op := Op.binOp BinOp.eql 3 (Operand.tmp 42) (Operand.tmp 46) 3, type := 4, pos := "watch.go:143", after := #[{ on := 3, ground := Ground.data }, { on := 7, ground := Ground.data }], guard := none }] Q 4 #[true, true, true, true, true, false, false, false, false] { tmps := #[s0, s1, s2, .pointer (some ⟨p, 0, none⟩), s4, s5, s6, s7, s8, .int .i64 i, .int .i64 j, s11, s12, s13, s14, s15, s16, s17, s18, s19, s20, s21, s22, s23, s24, s25, s26, s27, s28, s29, s30, s31, s32, s33, s34, s35, s36, s37, s38, .slice (some ⟨b, off, none⟩) k c, .int .i64 i, .pointer (some ⟨b, off + i, none⟩), .int .i64 y, .slice (some ⟨b, off, none⟩) k c, s44, s45, s46, s47, s48, s49, s50, s51, s52, s53, s54], defers := [] } W.drew := by
    refine wpAnyIn_ready (rs := [5]) (by kernel_rfl) (by simp) ?_
    refine AllReadyIn.cons (o := { dst := some 44, op := Op.move (Operand.tmp 10), type := 3, pos := "watch.go:143", after := #[], guard := none }) rfl (fun K hK => ?_) ?_
    · clear h111111111 h111011100 h110011110
      go_simp
      (try gi_wp2)
      all_goals
        refine hK _ _ ?_
        clear hK K
        try simp only [Act.put, List.setIfInBounds_toArray, List.set_cons_zero, List.set_cons_succ]
        exact h111111000
    exact AllReadyIn.nil
  have h111101000 : wpAnyIn (Fence.wide.inRound l) 1 Try.prog .any #[{ dst := some 39, op := Op.load 30 (Operand.tmp 3), type := 30, pos := "watch.go:143", after := #[], guard := none }, { dst := some 40, op := Op.move (Operand.tmp 9), type := 3, pos := "watch.go:143", after := #[], guard := none }, { dst := some 41, op := Op.indexAddr 30 (Operand.tmp 39) (Operand.tmp 40), type := 0, pos := "watch.go:143", after := #[{ on := 0, ground := Ground.data }, { on := 1, ground := Ground.data }], guard := none }, { dst := some 42, op := Op.load 3 (Operand.tmp 41), type := 3, pos := "watch.go:143", after := #[{ on := 2, ground := Ground.data }], guard := none }, { dst := some 43, op := Op.load 30 (Operand.tmp 3), type := 30, pos := "watch.go:143", after := #[], guard := none }, { dst := some 44, op := Op.move (Operand.tmp 10), type := 3, pos := "watch.go:143", after := #[], guard := none }, { dst := some 45, op := Op.indexAddr 30 (Operand.tmp 43) (Operand.tmp 44), type := 0, pos := "watch.go:143", after := #[{ on := 4, ground := Ground.data }, { on := 5, ground := Ground.data }], guard := none }, { dst := some 46, op := Op.load 3 (Operand.tmp 45), type := 3, pos := "watch.go:143", after := #[{ on := 6, ground := Ground.data }], guard := none }, { dst := some 47, op := Op.binOp BinOp.eql 3 (Operand.tmp 42) (Operand.tmp 46) 3, type := 4, pos := "watch.go:143", after := #[{ on := 3, ground := Ground.data }, { on := 7, ground := Ground.data }], guard := none }] Q 4 #[true, true, true, true, false, true, false, false, false] { tmps := #[s0, s1, s2, .pointer (some ⟨p, 0, none⟩), s4, s5, s6, s7, s8, .int .i64 i, .int .i64 j, s11, s12, s13, s14, s15, s16, s17, s18, s19, s20, s21, s22, s23, s24, s25, s26, s27, s28, s29, s30, s31, s32, s33, s34, s35, s36, s37, s38, .slice (some ⟨b, off, none⟩) k c, .int .i64 i, .pointer (some ⟨b, off + i, none⟩), .int .i64 y, s43, .int .i64 j, s45, s46, s47, s48, s49, s50, s51, s52, s53, s54], defers := [] } W.drew := by
    refine wpAnyIn_ready (rs := [4]) (by kernel_rfl) (by simp) ?_
    refine AllReadyIn.cons (o := { dst := some 43, op := Op.load 30 (Operand.tmp 3), type := 30, pos := "watch.go:143", after := #[], guard := none }) rfl (fun K hK => ?_) ?_
    · clear h111111111 h111011100 h110011110
      go_simp
      (try gi_wp2)
      all_goals
        refine hK _ _ ?_
        clear hK K
        try simp only [Act.put, List.setIfInBounds_toArray, List.set_cons_zero, List.set_cons_succ]
        exact h111111000
    exact AllReadyIn.nil
  have h111011000 : wpAnyIn (Fence.wide.inRound l) 1 Try.prog .any #[{ dst := some 39, op := Op.load 30 (Operand.tmp 3), type := 30, pos := "watch.go:143", after := #[], guard := none }, { dst := some 40, op := Op.move (Operand.tmp 9), type := 3, pos := "watch.go:143", after := #[], guard := none }, { dst := some 41, op := Op.indexAddr 30 (Operand.tmp 39) (Operand.tmp 40), type := 0, pos := "watch.go:143", after := #[{ on := 0, ground := Ground.data }, { on := 1, ground := Ground.data }], guard := none }, { dst := some 42, op := Op.load 3 (Operand.tmp 41), type := 3, pos := "watch.go:143", after := #[{ on := 2, ground := Ground.data }], guard := none }, { dst := some 43, op := Op.load 30 (Operand.tmp 3), type := 30, pos := "watch.go:143", after := #[], guard := none }, { dst := some 44, op := Op.move (Operand.tmp 10), type := 3, pos := "watch.go:143", after := #[], guard := none }, { dst := some 45, op := Op.indexAddr 30 (Operand.tmp 43) (Operand.tmp 44), type := 0, pos := "watch.go:143", after := #[{ on := 4, ground := Ground.data }, { on := 5, ground := Ground.data }], guard := none }, { dst := some 46, op := Op.load 3 (Operand.tmp 45), type := 3, pos := "watch.go:143", after := #[{ on := 6, ground := Ground.data }], guard := none }, { dst := some 47, op := Op.binOp BinOp.eql 3 (Operand.tmp 42) (Operand.tmp 46) 3, type := 4, pos := "watch.go:143", after := #[{ on := 3, ground := Ground.data }, { on := 7, ground := Ground.data }], guard := none }] Q 4 #[true, true, true, false, true, true, false, false, false] { tmps := #[s0, s1, s2, .pointer (some ⟨p, 0, none⟩), s4, s5, s6, s7, s8, .int .i64 i, .int .i64 j, s11, s12, s13, s14, s15, s16, s17, s18, s19, s20, s21, s22, s23, s24, s25, s26, s27, s28, s29, s30, s31, s32, s33, s34, s35, s36, s37, s38, .slice (some ⟨b, off, none⟩) k c, .int .i64 i, .pointer (some ⟨b, off + i, none⟩), s42, .slice (some ⟨b, off, none⟩) k c, .int .i64 j, s45, s46, s47, s48, s49, s50, s51, s52, s53, s54], defers := [] } W.drew := by
    refine wpAnyIn_ready (rs := [3, 6]) (by kernel_rfl) (by simp) ?_
    refine AllReadyIn.cons (o := { dst := some 42, op := Op.load 3 (Operand.tmp 41), type := 3, pos := "watch.go:143", after := #[{ on := 2, ground := Ground.data }], guard := none }) rfl (fun K hK => ?_) ?_
    · clear h111111111 h111011100 h110011110
      go_simp
      (try gi_wp2)
      all_goals
        refine hK _ _ ?_
        clear hK K
        try simp only [Act.put, List.setIfInBounds_toArray, List.set_cons_zero, List.set_cons_succ]
        exact h111111000
    refine AllReadyIn.cons (o := { dst := some 45, op := Op.indexAddr 30 (Operand.tmp 43) (Operand.tmp 44), type := 0, pos := "watch.go:143", after := #[{ on := 4, ground := Ground.data }, { on := 5, ground := Ground.data }], guard := none }) rfl (fun K hK => ?_) ?_
    · clear h111111111 h111111000 h110011110
      go_simp
      (try gi_wp2)
      all_goals
        refine hK _ _ ?_
        clear hK K
        try simp only [Act.put, List.setIfInBounds_toArray, List.set_cons_zero, List.set_cons_succ]
        exact h111011100
    exact AllReadyIn.nil
  have h110011100 : wpAnyIn (Fence.wide.inRound l) 1 Try.prog .any #[{ dst := some 39, op := Op.load 30 (Operand.tmp 3), type := 30, pos := "watch.go:143", after := #[], guard := none }, { dst := some 40, op := Op.move (Operand.tmp 9), type := 3, pos := "watch.go:143", after := #[], guard := none }, { dst := some 41, op := Op.indexAddr 30 (Operand.tmp 39) (Operand.tmp 40), type := 0, pos := "watch.go:143", after := #[{ on := 0, ground := Ground.data }, { on := 1, ground := Ground.data }], guard := none }, { dst := some 42, op := Op.load 3 (Operand.tmp 41), type := 3, pos := "watch.go:143", after := #[{ on := 2, ground := Ground.data }], guard := none }, { dst := some 43, op := Op.load 30 (Operand.tmp 3), type := 30, pos := "watch.go:143", after := #[], guard := none }, { dst := some 44, op := Op.move (Operand.tmp 10), type := 3, pos := "watch.go:143", after := #[], guard := none }, { dst := some 45, op := Op.indexAddr 30 (Operand.tmp 43) (Operand.tmp 44), type := 0, pos := "watch.go:143", after := #[{ on := 4, ground := Ground.data }, { on := 5, ground := Ground.data }], guard := none }, { dst := some 46, op := Op.load 3 (Operand.tmp 45), type := 3, pos := "watch.go:143", after := #[{ on := 6, ground := Ground.data }], guard := none }, { dst := some 47, op := Op.binOp BinOp.eql 3 (Operand.tmp 42) (Operand.tmp 46) 3, type := 4, pos := "watch.go:143", after := #[{ on := 3, ground := Ground.data }, { on := 7, ground := Ground.data }], guard := none }] Q 4 #[true, true, false, false, true, true, true, false, false] { tmps := #[s0, s1, s2, .pointer (some ⟨p, 0, none⟩), s4, s5, s6, s7, s8, .int .i64 i, .int .i64 j, s11, s12, s13, s14, s15, s16, s17, s18, s19, s20, s21, s22, s23, s24, s25, s26, s27, s28, s29, s30, s31, s32, s33, s34, s35, s36, s37, s38, .slice (some ⟨b, off, none⟩) k c, .int .i64 i, s41, s42, .slice (some ⟨b, off, none⟩) k c, .int .i64 j, .pointer (some ⟨b, off + j, none⟩), s46, s47, s48, s49, s50, s51, s52, s53, s54], defers := [] } W.drew := by
    refine wpAnyIn_ready (rs := [2, 7]) (by kernel_rfl) (by simp) ?_
    refine AllReadyIn.cons (o := { dst := some 41, op := Op.indexAddr 30 (Operand.tmp 39) (Operand.tmp 40), type := 0, pos := "watch.go:143", after := #[{ on := 0, ground := Ground.data }, { on := 1, ground := Ground.data }], guard := none }) rfl (fun K hK => ?_) ?_
    · clear h111111111 h111111000 h110011110
      go_simp
      (try gi_wp2)
      all_goals
        refine hK _ _ ?_
        clear hK K
        try simp only [Act.put, List.setIfInBounds_toArray, List.set_cons_zero, List.set_cons_succ]
        exact h111011100
    refine AllReadyIn.cons (o := { dst := some 46, op := Op.load 3 (Operand.tmp 45), type := 3, pos := "watch.go:143", after := #[{ on := 6, ground := Ground.data }], guard := none }) rfl (fun K hK => ?_) ?_
    · clear h111111111 h111111000 h111011100
      go_simp
      (try gi_wp2)
      all_goals
        refine hK _ _ ?_
        clear hK K
        try simp only [Act.put, List.setIfInBounds_toArray, List.set_cons_zero, List.set_cons_succ]
        exact h110011110
    exact AllReadyIn.nil
  have h100011110 : wpAnyIn (Fence.wide.inRound l) 1 Try.prog .any #[{ dst := some 39, op := Op.load 30 (Operand.tmp 3), type := 30, pos := "watch.go:143", after := #[], guard := none }, { dst := some 40, op := Op.move (Operand.tmp 9), type := 3, pos := "watch.go:143", after := #[], guard := none }, { dst := some 41, op := Op.indexAddr 30 (Operand.tmp 39) (Operand.tmp 40), type := 0, pos := "watch.go:143", after := #[{ on := 0, ground := Ground.data }, { on := 1, ground := Ground.data }], guard := none }, { dst := some 42, op := Op.load 3 (Operand.tmp 41), type := 3, pos := "watch.go:143", after := #[{ on := 2, ground := Ground.data }], guard := none }, { dst := some 43, op := Op.load 30 (Operand.tmp 3), type := 30, pos := "watch.go:143", after := #[], guard := none }, { dst := some 44, op := Op.move (Operand.tmp 10), type := 3, pos := "watch.go:143", after := #[], guard := none }, { dst := some 45, op := Op.indexAddr 30 (Operand.tmp 43) (Operand.tmp 44), type := 0, pos := "watch.go:143", after := #[{ on := 4, ground := Ground.data }, { on := 5, ground := Ground.data }], guard := none }, { dst := some 46, op := Op.load 3 (Operand.tmp 45), type := 3, pos := "watch.go:143", after := #[{ on := 6, ground := Ground.data }], guard := none }, { dst := some 47, op := Op.binOp BinOp.eql 3 (Operand.tmp 42) (Operand.tmp 46) 3, type := 4, pos := "watch.go:143", after := #[{ on := 3, ground := Ground.data }, { on := 7, ground := Ground.data }], guard := none }] Q 4 #[true, false, false, false, true, true, true, true, false] { tmps := #[s0, s1, s2, .pointer (some ⟨p, 0, none⟩), s4, s5, s6, s7, s8, .int .i64 i, .int .i64 j, s11, s12, s13, s14, s15, s16, s17, s18, s19, s20, s21, s22, s23, s24, s25, s26, s27, s28, s29, s30, s31, s32, s33, s34, s35, s36, s37, s38, .slice (some ⟨b, off, none⟩) k c, s40, s41, s42, .slice (some ⟨b, off, none⟩) k c, .int .i64 j, .pointer (some ⟨b, off + j, none⟩), .int .i64 z, s47, s48, s49, s50, s51, s52, s53, s54], defers := [] } W.drew := by
    refine wpAnyIn_ready (rs := [1]) (by kernel_rfl) (by simp) ?_
    refine AllReadyIn.cons (o := { dst := some 40, op := Op.move (Operand.tmp 9), type := 3, pos := "watch.go:143", after := #[], guard := none }) rfl (fun K hK => ?_) ?_
    · clear h111111111 h111111000 h111011100
      go_simp
      (try gi_wp2)
      all_goals
        refine hK _ _ ?_
        clear hK K
        try simp only [Act.put, List.setIfInBounds_toArray, List.set_cons_zero, List.set_cons_succ]
        exact h110011110
    exact AllReadyIn.nil
  have h010011110 : wpAnyIn (Fence.wide.inRound l) 1 Try.prog .any #[{ dst := some 39, op := Op.load 30 (Operand.tmp 3), type := 30, pos := "watch.go:143", after := #[], guard := none }, { dst := some 40, op := Op.move (Operand.tmp 9), type := 3, pos := "watch.go:143", after := #[], guard := none }, { dst := some 41, op := Op.indexAddr 30 (Operand.tmp 39) (Operand.tmp 40), type := 0, pos := "watch.go:143", after := #[{ on := 0, ground := Ground.data }, { on := 1, ground := Ground.data }], guard := none }, { dst := some 42, op := Op.load 3 (Operand.tmp 41), type := 3, pos := "watch.go:143", after := #[{ on := 2, ground := Ground.data }], guard := none }, { dst := some 43, op := Op.load 30 (Operand.tmp 3), type := 30, pos := "watch.go:143", after := #[], guard := none }, { dst := some 44, op := Op.move (Operand.tmp 10), type := 3, pos := "watch.go:143", after := #[], guard := none }, { dst := some 45, op := Op.indexAddr 30 (Operand.tmp 43) (Operand.tmp 44), type := 0, pos := "watch.go:143", after := #[{ on := 4, ground := Ground.data }, { on := 5, ground := Ground.data }], guard := none }, { dst := some 46, op := Op.load 3 (Operand.tmp 45), type := 3, pos := "watch.go:143", after := #[{ on := 6, ground := Ground.data }], guard := none }, { dst := some 47, op := Op.binOp BinOp.eql 3 (Operand.tmp 42) (Operand.tmp 46) 3, type := 4, pos := "watch.go:143", after := #[{ on := 3, ground := Ground.data }, { on := 7, ground := Ground.data }], guard := none }] Q 4 #[false, true, false, false, true, true, true, true, false] { tmps := #[s0, s1, s2, .pointer (some ⟨p, 0, none⟩), s4, s5, s6, s7, s8, .int .i64 i, .int .i64 j, s11, s12, s13, s14, s15, s16, s17, s18, s19, s20, s21, s22, s23, s24, s25, s26, s27, s28, s29, s30, s31, s32, s33, s34, s35, s36, s37, s38, s39, .int .i64 i, s41, s42, .slice (some ⟨b, off, none⟩) k c, .int .i64 j, .pointer (some ⟨b, off + j, none⟩), .int .i64 z, s47, s48, s49, s50, s51, s52, s53, s54], defers := [] } W.drew := by
    refine wpAnyIn_ready (rs := [0]) (by kernel_rfl) (by simp) ?_
    refine AllReadyIn.cons (o := { dst := some 39, op := Op.load 30 (Operand.tmp 3), type := 30, pos := "watch.go:143", after := #[], guard := none }) rfl (fun K hK => ?_) ?_
    · clear h111111111 h111111000 h111011100
      go_simp
      (try gi_wp2)
      all_goals
        refine hK _ _ ?_
        clear hK K
        try simp only [Act.put, List.setIfInBounds_toArray, List.set_cons_zero, List.set_cons_succ]
        exact h110011110
    exact AllReadyIn.nil
  clear h111111000 h111011100 h110011110
  have h111100000 : wpAnyIn (Fence.wide.inRound l) 1 Try.prog .any #[{ dst := some 39, op := Op.load 30 (Operand.tmp 3), type := 30, pos := "watch.go:143", after := #[], guard := none }, { dst := some 40, op := Op.move (Operand.tmp 9), type := 3, pos := "watch.go:143", after := #[], guard := none }, { dst := some 41, op := Op.indexAddr 30 (Operand.tmp 39) (Operand.tmp 40), type := 0, pos := "watch.go:143", after := #[{ on := 0, ground := Ground.data }, { on := 1, ground := Ground.data }], guard := none }, { dst := some 42, op := Op.load 3 (Operand.tmp 41), type := 3, pos := "watch.go:143", after := #[{ on := 2, ground := Ground.data }], guard := none }, { dst := some 43, op := Op.load 30 (Operand.tmp 3), type := 30, pos := "watch.go:143", after := #[], guard := none }, { dst := some 44, op := Op.move (Operand.tmp 10), type := 3, pos := "watch.go:143", after := #[], guard := none }, { dst := some 45, op := Op.indexAddr 30 (Operand.tmp 43) (Operand.tmp 44), type := 0, pos := "watch.go:143", after := #[{ on := 4, ground := Ground.data }, { on := 5, ground := Ground.data }], guard := none }, { dst := some 46, op := Op.load 3 (Operand.tmp 45), type := 3, pos := "watch.go:143", after := #[{ on := 6, ground := Ground.data }], guard := none }, { dst := some 47, op := Op.binOp BinOp.eql 3 (Operand.tmp 42) (Operand.tmp 46) 3, type := 4, pos := "watch.go:143", after := #[{ on := 3, ground := Ground.data }, { on := 7, ground := Ground.data }], guard := none }] Q 5 #[true, true, true, true, false, false, false, false, false] { tmps := #[s0, s1, s2, .pointer (some ⟨p, 0, none⟩), s4, s5, s6, s7, s8, .int .i64 i, .int .i64 j, s11, s12, s13, s14, s15, s16, s17, s18, s19, s20, s21, s22, s23, s24, s25, s26, s27, s28, s29, s30, s31, s32, s33, s34, s35, s36, s37, s38, .slice (some ⟨b, off, none⟩) k c, .int .i64 i, .pointer (some ⟨b, off + i, none⟩), .int .i64 y, s43, s44, s45, s46, s47, s48, s49, s50, s51, s52, s53, s54], defers := [] } W.drew := by
    refine wpAnyIn_ready (rs := [4, 5]) (by kernel_rfl) (by simp) ?_
    refine AllReadyIn.cons (o := { dst := some 43, op := Op.load 30 (Operand.tmp 3), type := 30, pos := "watch.go:143", after := #[], guard := none }) rfl (fun K hK => ?_) ?_
    · clear h111111111 h111101000 h111011000 h110011100 h100011110 h010011110
      go_simp
      (try gi_wp2)
      all_goals
        refine hK _ _ ?_
        clear hK K
        try simp only [Act.put, List.setIfInBounds_toArray, List.set_cons_zero, List.set_cons_succ]
        exact h111110000
    refine AllReadyIn.cons (o := { dst := some 44, op := Op.move (Operand.tmp 10), type := 3, pos := "watch.go:143", after := #[], guard := none }) rfl (fun K hK => ?_) ?_
    · clear h111111111 h111110000 h111011000 h110011100 h100011110 h010011110
      go_simp
      (try gi_wp2)
      all_goals
        refine hK _ _ ?_
        clear hK K
        try simp only [Act.put, List.setIfInBounds_toArray, List.set_cons_zero, List.set_cons_succ]
        exact h111101000
    exact AllReadyIn.nil
  have h111010000 : wpAnyIn (Fence.wide.inRound l) 1 Try.prog .any #[{ dst := some 39, op := Op.load 30 (Operand.tmp 3), type := 30, pos := "watch.go:143", after := #[], guard := none }, { dst := some 40, op := Op.move (Operand.tmp 9), type := 3, pos := "watch.go:143", after := #[], guard := none }, { dst := some 41, op := Op.indexAddr 30 (Operand.tmp 39) (Operand.tmp 40), type := 0, pos := "watch.go:143", after := #[{ on := 0, ground := Ground.data }, { on := 1, ground := Ground.data }], guard := none }, { dst := some 42, op := Op.load 3 (Operand.tmp 41), type := 3, pos := "watch.go:143", after := #[{ on := 2, ground := Ground.data }], guard := none }, { dst := some 43, op := Op.load 30 (Operand.tmp 3), type := 30, pos := "watch.go:143", after := #[], guard := none }, { dst := some 44, op := Op.move (Operand.tmp 10), type := 3, pos := "watch.go:143", after := #[], guard := none }, { dst := some 45, op := Op.indexAddr 30 (Operand.tmp 43) (Operand.tmp 44), type := 0, pos := "watch.go:143", after := #[{ on := 4, ground := Ground.data }, { on := 5, ground := Ground.data }], guard := none }, { dst := some 46, op := Op.load 3 (Operand.tmp 45), type := 3, pos := "watch.go:143", after := #[{ on := 6, ground := Ground.data }], guard := none }, { dst := some 47, op := Op.binOp BinOp.eql 3 (Operand.tmp 42) (Operand.tmp 46) 3, type := 4, pos := "watch.go:143", after := #[{ on := 3, ground := Ground.data }, { on := 7, ground := Ground.data }], guard := none }] Q 5 #[true, true, true, false, true, false, false, false, false] { tmps := #[s0, s1, s2, .pointer (some ⟨p, 0, none⟩), s4, s5, s6, s7, s8, .int .i64 i, .int .i64 j, s11, s12, s13, s14, s15, s16, s17, s18, s19, s20, s21, s22, s23, s24, s25, s26, s27, s28, s29, s30, s31, s32, s33, s34, s35, s36, s37, s38, .slice (some ⟨b, off, none⟩) k c, .int .i64 i, .pointer (some ⟨b, off + i, none⟩), s42, .slice (some ⟨b, off, none⟩) k c, s44, s45, s46, s47, s48, s49, s50, s51, s52, s53, s54], defers := [] } W.drew := by
    refine wpAnyIn_ready (rs := [3, 5]) (by kernel_rfl) (by simp) ?_
    refine AllReadyIn.cons (o := { dst := some 42, op := Op.load 3 (Operand.tmp 41), type := 3, pos := "watch.go:143", after := #[{ on := 2, ground := Ground.data }], guard := none }) rfl (fun K hK => ?_) ?_
    · clear h111111111 h111101000 h111011000 h110011100 h100011110 h010011110
      go_simp
      (try gi_wp2)
      all_goals
        refine hK _ _ ?_
        clear hK K
        try simp only [Act.put, List.setIfInBounds_toArray, List.set_cons_zero, List.set_cons_succ]
        exact h111110000
    refine AllReadyIn.cons (o := { dst := some 44, op := Op.move (Operand.tmp 10), type := 3, pos := "watch.go:143", after := #[], guard := none }) rfl (fun K hK => ?_) ?_
    · clear h111111111 h111110000 h111101000 h110011100 h100011110 h010011110
      go_simp
      (try gi_wp2)
      all_goals
        refine hK _ _ ?_
        clear hK K
        try simp only [Act.put, List.setIfInBounds_toArray, List.set_cons_zero, List.set_cons_succ]
        exact h111011000
    exact AllReadyIn.nil
  have h111001000 : wpAnyIn (Fence.wide.inRound l) 1 Try.prog .any #[{ dst := some 39, op := Op.load 30 (Operand.tmp 3), type := 30, pos := "watch.go:143", after := #[], guard := none }, { dst := some 40, op := Op.move (Operand.tmp 9), type := 3, pos := "watch.go:143", after := #[], guard := none }, { dst := some 41, op := Op.indexAddr 30 (Operand.tmp 39) (Operand.tmp 40), type := 0, pos := "watch.go:143", after := #[{ on := 0, ground := Ground.data }, { on := 1, ground := Ground.data }], guard := none }, { dst := some 42, op := Op.load 3 (Operand.tmp 41), type := 3, pos := "watch.go:143", after := #[{ on := 2, ground := Ground.data }], guard := none }, { dst := some 43, op := Op.load 30 (Operand.tmp 3), type := 30, pos := "watch.go:143", after := #[], guard := none }, { dst := some 44, op := Op.move (Operand.tmp 10), type := 3, pos := "watch.go:143", after := #[], guard := none }, { dst := some 45, op := Op.indexAddr 30 (Operand.tmp 43) (Operand.tmp 44), type := 0, pos := "watch.go:143", after := #[{ on := 4, ground := Ground.data }, { on := 5, ground := Ground.data }], guard := none }, { dst := some 46, op := Op.load 3 (Operand.tmp 45), type := 3, pos := "watch.go:143", after := #[{ on := 6, ground := Ground.data }], guard := none }, { dst := some 47, op := Op.binOp BinOp.eql 3 (Operand.tmp 42) (Operand.tmp 46) 3, type := 4, pos := "watch.go:143", after := #[{ on := 3, ground := Ground.data }, { on := 7, ground := Ground.data }], guard := none }] Q 5 #[true, true, true, false, false, true, false, false, false] { tmps := #[s0, s1, s2, .pointer (some ⟨p, 0, none⟩), s4, s5, s6, s7, s8, .int .i64 i, .int .i64 j, s11, s12, s13, s14, s15, s16, s17, s18, s19, s20, s21, s22, s23, s24, s25, s26, s27, s28, s29, s30, s31, s32, s33, s34, s35, s36, s37, s38, .slice (some ⟨b, off, none⟩) k c, .int .i64 i, .pointer (some ⟨b, off + i, none⟩), s42, s43, .int .i64 j, s45, s46, s47, s48, s49, s50, s51, s52, s53, s54], defers := [] } W.drew := by
    refine wpAnyIn_ready (rs := [3, 4]) (by kernel_rfl) (by simp) ?_
    refine AllReadyIn.cons (o := { dst := some 42, op := Op.load 3 (Operand.tmp 41), type := 3, pos := "watch.go:143", after := #[{ on := 2, ground := Ground.data }], guard := none }) rfl (fun K hK => ?_) ?_
    · clear h111111111 h111110000 h111011000 h110011100 h100011110 h010011110
      go_simp
      (try gi_wp2)
      all_goals
        refine hK _ _ ?_
        clear hK K
        try simp only [Act.put, List.setIfInBounds_toArray, List.set_cons_zero, List.set_cons_succ]
        exact h111101000
    refine AllReadyIn.cons (o := { dst := some 43, op := Op.load 30 (Operand.tmp 3), type := 30, pos := "watch.go:143", after := #[], guard := none }) rfl (fun K hK => ?_) ?_
    · clear h111111111 h111110000 h111101000 h110011100 h100011110 h010011110
      go_simp
      (try gi_wp2)
      all_goals
        refine hK _ _ ?_
        clear hK K
        try simp only [Act.put, List.setIfInBounds_toArray, List.set_cons_zero, List.set_cons_succ]
        exact h111011000
    exact AllReadyIn.nil
  have h110011000 : wpAnyIn (Fence.wide.inRound l) 1 Try.prog .any #[{ dst := some 39, op := Op.load 30 (Operand.tmp 3), type := 30, pos := "watch.go:143", after := #[], guard := none }, { dst := some 40, op := Op.move (Operand.tmp 9), type := 3, pos := "watch.go:143", after := #[], guard := none }, { dst := some 41, op := Op.indexAddr 30 (Operand.tmp 39) (Operand.tmp 40), type := 0, pos := "watch.go:143", after := #[{ on := 0, ground := Ground.data }, { on := 1, ground := Ground.data }], guard := none }, { dst := some 42, op := Op.load 3 (Operand.tmp 41), type := 3, pos := "watch.go:143", after := #[{ on := 2, ground := Ground.data }], guard := none }, { dst := some 43, op := Op.load 30 (Operand.tmp 3), type := 30, pos := "watch.go:143", after := #[], guard := none }, { dst := some 44, op := Op.move (Operand.tmp 10), type := 3, pos := "watch.go:143", after := #[], guard := none }, { dst := some 45, op := Op.indexAddr 30 (Operand.tmp 43) (Operand.tmp 44), type := 0, pos := "watch.go:143", after := #[{ on := 4, ground := Ground.data }, { on := 5, ground := Ground.data }], guard := none }, { dst := some 46, op := Op.load 3 (Operand.tmp 45), type := 3, pos := "watch.go:143", after := #[{ on := 6, ground := Ground.data }], guard := none }, { dst := some 47, op := Op.binOp BinOp.eql 3 (Operand.tmp 42) (Operand.tmp 46) 3, type := 4, pos := "watch.go:143", after := #[{ on := 3, ground := Ground.data }, { on := 7, ground := Ground.data }], guard := none }] Q 5 #[true, true, false, false, true, true, false, false, false] { tmps := #[s0, s1, s2, .pointer (some ⟨p, 0, none⟩), s4, s5, s6, s7, s8, .int .i64 i, .int .i64 j, s11, s12, s13, s14, s15, s16, s17, s18, s19, s20, s21, s22, s23, s24, s25, s26, s27, s28, s29, s30, s31, s32, s33, s34, s35, s36, s37, s38, .slice (some ⟨b, off, none⟩) k c, .int .i64 i, s41, s42, .slice (some ⟨b, off, none⟩) k c, .int .i64 j, s45, s46, s47, s48, s49, s50, s51, s52, s53, s54], defers := [] } W.drew := by
    refine wpAnyIn_ready (rs := [2, 6]) (by kernel_rfl) (by simp) ?_
    refine AllReadyIn.cons (o := { dst := some 41, op := Op.indexAddr 30 (Operand.tmp 39) (Operand.tmp 40), type := 0, pos := "watch.go:143", after := #[{ on := 0, ground := Ground.data }, { on := 1, ground := Ground.data }], guard := none }) rfl (fun K hK => ?_) ?_
    · clear h111111111 h111110000 h111101000 h110011100 h100011110 h010011110
      go_simp
      (try gi_wp2)
      all_goals
        refine hK _ _ ?_
        clear hK K
        try simp only [Act.put, List.setIfInBounds_toArray, List.set_cons_zero, List.set_cons_succ]
        exact h111011000
    refine AllReadyIn.cons (o := { dst := some 45, op := Op.indexAddr 30 (Operand.tmp 43) (Operand.tmp 44), type := 0, pos := "watch.go:143", after := #[{ on := 4, ground := Ground.data }, { on := 5, ground := Ground.data }], guard := none }) rfl (fun K hK => ?_) ?_
    · clear h111111111 h111110000 h111101000 h111011000 h100011110 h010011110
      go_simp
      (try gi_wp2)
      all_goals
        refine hK _ _ ?_
        clear hK K
        try simp only [Act.put, List.setIfInBounds_toArray, List.set_cons_zero, List.set_cons_succ]
        exact h110011100
    exact AllReadyIn.nil
  have h100011100 : wpAnyIn (Fence.wide.inRound l) 1 Try.prog .any #[{ dst := some 39, op := Op.load 30 (Operand.tmp 3), type := 30, pos := "watch.go:143", after := #[], guard := none }, { dst := some 40, op := Op.move (Operand.tmp 9), type := 3, pos := "watch.go:143", after := #[], guard := none }, { dst := some 41, op := Op.indexAddr 30 (Operand.tmp 39) (Operand.tmp 40), type := 0, pos := "watch.go:143", after := #[{ on := 0, ground := Ground.data }, { on := 1, ground := Ground.data }], guard := none }, { dst := some 42, op := Op.load 3 (Operand.tmp 41), type := 3, pos := "watch.go:143", after := #[{ on := 2, ground := Ground.data }], guard := none }, { dst := some 43, op := Op.load 30 (Operand.tmp 3), type := 30, pos := "watch.go:143", after := #[], guard := none }, { dst := some 44, op := Op.move (Operand.tmp 10), type := 3, pos := "watch.go:143", after := #[], guard := none }, { dst := some 45, op := Op.indexAddr 30 (Operand.tmp 43) (Operand.tmp 44), type := 0, pos := "watch.go:143", after := #[{ on := 4, ground := Ground.data }, { on := 5, ground := Ground.data }], guard := none }, { dst := some 46, op := Op.load 3 (Operand.tmp 45), type := 3, pos := "watch.go:143", after := #[{ on := 6, ground := Ground.data }], guard := none }, { dst := some 47, op := Op.binOp BinOp.eql 3 (Operand.tmp 42) (Operand.tmp 46) 3, type := 4, pos := "watch.go:143", after := #[{ on := 3, ground := Ground.data }, { on := 7, ground := Ground.data }], guard := none }] Q 5 #[true, false, false, false, true, true, true, false, false] { tmps := #[s0, s1, s2, .pointer (some ⟨p, 0, none⟩), s4, s5, s6, s7, s8, .int .i64 i, .int .i64 j, s11, s12, s13, s14, s15, s16, s17, s18, s19, s20, s21, s22, s23, s24, s25, s26, s27, s28, s29, s30, s31, s32, s33, s34, s35, s36, s37, s38, .slice (some ⟨b, off, none⟩) k c, s40, s41, s42, .slice (some ⟨b, off, none⟩) k c, .int .i64 j, .pointer (some ⟨b, off + j, none⟩), s46, s47, s48, s49, s50, s51, s52, s53, s54], defers := [] } W.drew := by
    refine wpAnyIn_ready (rs := [1, 7]) (by kernel_rfl) (by simp) ?_
    refine AllReadyIn.cons (o := { dst := some 40, op := Op.move (Operand.tmp 9), type := 3, pos := "watch.go:143", after := #[], guard := none }) rfl (fun K hK => ?_) ?_
    · clear h111111111 h111110000 h111101000 h111011000 h100011110 h010011110
      go_simp
      (try gi_wp2)
      all_goals
        refine hK _ _ ?_
        clear hK K
        try simp only [Act.put, List.setIfInBounds_toArray, List.set_cons_zero, List.set_cons_succ]
        exact h110011100
    refine AllReadyIn.cons (o := { dst := some 46, op := Op.load 3 (Operand.tmp 45), type := 3, pos := "watch.go:143", after := #[{ on := 6, ground := Ground.data }], guard := none }) rfl (fun K hK => ?_) ?_
    · clear h111111111 h111110000 h111101000 h111011000 h110011100 h010011110
      go_simp
      (try gi_wp2)
      all_goals
        refine hK _ _ ?_
        clear hK K
        try simp only [Act.put, List.setIfInBounds_toArray, List.set_cons_zero, List.set_cons_succ]
        exact h100011110
    exact AllReadyIn.nil
  have h010011100 : wpAnyIn (Fence.wide.inRound l) 1 Try.prog .any #[{ dst := some 39, op := Op.load 30 (Operand.tmp 3), type := 30, pos := "watch.go:143", after := #[], guard := none }, { dst := some 40, op := Op.move (Operand.tmp 9), type := 3, pos := "watch.go:143", after := #[], guard := none }, { dst := some 41, op := Op.indexAddr 30 (Operand.tmp 39) (Operand.tmp 40), type := 0, pos := "watch.go:143", after := #[{ on := 0, ground := Ground.data }, { on := 1, ground := Ground.data }], guard := none }, { dst := some 42, op := Op.load 3 (Operand.tmp 41), type := 3, pos := "watch.go:143", after := #[{ on := 2, ground := Ground.data }], guard := none }, { dst := some 43, op := Op.load 30 (Operand.tmp 3), type := 30, pos := "watch.go:143", after := #[], guard := none }, { dst := some 44, op := Op.move (Operand.tmp 10), type := 3, pos := "watch.go:143", after := #[], guard := none }, { dst := some 45, op := Op.indexAddr 30 (Operand.tmp 43) (Operand.tmp 44), type := 0, pos := "watch.go:143", after := #[{ on := 4, ground := Ground.data }, { on := 5, ground := Ground.data }], guard := none }, { dst := some 46, op := Op.load 3 (Operand.tmp 45), type := 3, pos := "watch.go:143", after := #[{ on := 6, ground := Ground.data }], guard := none }, { dst := some 47, op := Op.binOp BinOp.eql 3 (Operand.tmp 42) (Operand.tmp 46) 3, type := 4, pos := "watch.go:143", after := #[{ on := 3, ground := Ground.data }, { on := 7, ground := Ground.data }], guard := none }] Q 5 #[false, true, false, false, true, true, true, false, false] { tmps := #[s0, s1, s2, .pointer (some ⟨p, 0, none⟩), s4, s5, s6, s7, s8, .int .i64 i, .int .i64 j, s11, s12, s13, s14, s15, s16, s17, s18, s19, s20, s21, s22, s23, s24, s25, s26, s27, s28, s29, s30, s31, s32, s33, s34, s35, s36, s37, s38, s39, .int .i64 i, s41, s42, .slice (some ⟨b, off, none⟩) k c, .int .i64 j, .pointer (some ⟨b, off + j, none⟩), s46, s47, s48, s49, s50, s51, s52, s53, s54], defers := [] } W.drew := by
    refine wpAnyIn_ready (rs := [0, 7]) (by kernel_rfl) (by simp) ?_
    refine AllReadyIn.cons (o := { dst := some 39, op := Op.load 30 (Operand.tmp 3), type := 30, pos := "watch.go:143", after := #[], guard := none }) rfl (fun K hK => ?_) ?_
    · clear h111111111 h111110000 h111101000 h111011000 h100011110 h010011110
      go_simp
      (try gi_wp2)
      all_goals
        refine hK _ _ ?_
        clear hK K
        try simp only [Act.put, List.setIfInBounds_toArray, List.set_cons_zero, List.set_cons_succ]
        exact h110011100
    refine AllReadyIn.cons (o := { dst := some 46, op := Op.load 3 (Operand.tmp 45), type := 3, pos := "watch.go:143", after := #[{ on := 6, ground := Ground.data }], guard := none }) rfl (fun K hK => ?_) ?_
    · clear h111111111 h111110000 h111101000 h111011000 h110011100 h100011110
      go_simp
      (try gi_wp2)
      all_goals
        refine hK _ _ ?_
        clear hK K
        try simp only [Act.put, List.setIfInBounds_toArray, List.set_cons_zero, List.set_cons_succ]
        exact h010011110
    exact AllReadyIn.nil
  have h000011110 : wpAnyIn (Fence.wide.inRound l) 1 Try.prog .any #[{ dst := some 39, op := Op.load 30 (Operand.tmp 3), type := 30, pos := "watch.go:143", after := #[], guard := none }, { dst := some 40, op := Op.move (Operand.tmp 9), type := 3, pos := "watch.go:143", after := #[], guard := none }, { dst := some 41, op := Op.indexAddr 30 (Operand.tmp 39) (Operand.tmp 40), type := 0, pos := "watch.go:143", after := #[{ on := 0, ground := Ground.data }, { on := 1, ground := Ground.data }], guard := none }, { dst := some 42, op := Op.load 3 (Operand.tmp 41), type := 3, pos := "watch.go:143", after := #[{ on := 2, ground := Ground.data }], guard := none }, { dst := some 43, op := Op.load 30 (Operand.tmp 3), type := 30, pos := "watch.go:143", after := #[], guard := none }, { dst := some 44, op := Op.move (Operand.tmp 10), type := 3, pos := "watch.go:143", after := #[], guard := none }, { dst := some 45, op := Op.indexAddr 30 (Operand.tmp 43) (Operand.tmp 44), type := 0, pos := "watch.go:143", after := #[{ on := 4, ground := Ground.data }, { on := 5, ground := Ground.data }], guard := none }, { dst := some 46, op := Op.load 3 (Operand.tmp 45), type := 3, pos := "watch.go:143", after := #[{ on := 6, ground := Ground.data }], guard := none }, { dst := some 47, op := Op.binOp BinOp.eql 3 (Operand.tmp 42) (Operand.tmp 46) 3, type := 4, pos := "watch.go:143", after := #[{ on := 3, ground := Ground.data }, { on := 7, ground := Ground.data }], guard := none }] Q 5 #[false, false, false, false, true, true, true, true, false] { tmps := #[s0, s1, s2, .pointer (some ⟨p, 0, none⟩), s4, s5, s6, s7, s8, .int .i64 i, .int .i64 j, s11, s12, s13, s14, s15, s16, s17, s18, s19, s20, s21, s22, s23, s24, s25, s26, s27, s28, s29, s30, s31, s32, s33, s34, s35, s36, s37, s38, s39, s40, s41, s42, .slice (some ⟨b, off, none⟩) k c, .int .i64 j, .pointer (some ⟨b, off + j, none⟩), .int .i64 z, s47, s48, s49, s50, s51, s52, s53, s54], defers := [] } W.drew := by
    refine wpAnyIn_ready (rs := [0, 1]) (by kernel_rfl) (by simp) ?_
    refine AllReadyIn.cons (o := { dst := some 39, op := Op.load 30 (Operand.tmp 3), type := 30, pos := "watch.go:143", after := #[], guard := none }) rfl (fun K hK => ?_) ?_
    · clear h111111111 h111110000 h111101000 h111011000 h110011100 h010011110
      go_simp
      (try gi_wp2)
      all_goals
        refine hK _ _ ?_
        clear hK K
        try simp only [Act.put, List.setIfInBounds_toArray, List.set_cons_zero, List.set_cons_succ]
        exact h100011110
    refine AllReadyIn.cons (o := { dst := some 40, op := Op.move (Operand.tmp 9), type := 3, pos := "watch.go:143", after := #[], guard := none }) rfl (fun K hK => ?_) ?_
    · clear h111111111 h111110000 h111101000 h111011000 h110011100 h100011110
      go_simp
      (try gi_wp2)
      all_goals
        refine hK _ _ ?_
        clear hK K
        try simp only [Act.put, List.setIfInBounds_toArray, List.set_cons_zero, List.set_cons_succ]
        exact h010011110
    exact AllReadyIn.nil
  clear h111110000 h111101000 h111011000 h110011100 h100011110 h010011110
  have h111000000 : wpAnyIn (Fence.wide.inRound l) 1 Try.prog .any #[{ dst := some 39, op := Op.load 30 (Operand.tmp 3), type := 30, pos := "watch.go:143", after := #[], guard := none }, { dst := some 40, op := Op.move (Operand.tmp 9), type := 3, pos := "watch.go:143", after := #[], guard := none }, { dst := some 41, op := Op.indexAddr 30 (Operand.tmp 39) (Operand.tmp 40), type := 0, pos := "watch.go:143", after := #[{ on := 0, ground := Ground.data }, { on := 1, ground := Ground.data }], guard := none }, { dst := some 42, op := Op.load 3 (Operand.tmp 41), type := 3, pos := "watch.go:143", after := #[{ on := 2, ground := Ground.data }], guard := none }, { dst := some 43, op := Op.load 30 (Operand.tmp 3), type := 30, pos := "watch.go:143", after := #[], guard := none }, { dst := some 44, op := Op.move (Operand.tmp 10), type := 3, pos := "watch.go:143", after := #[], guard := none }, { dst := some 45, op := Op.indexAddr 30 (Operand.tmp 43) (Operand.tmp 44), type := 0, pos := "watch.go:143", after := #[{ on := 4, ground := Ground.data }, { on := 5, ground := Ground.data }], guard := none }, { dst := some 46, op := Op.load 3 (Operand.tmp 45), type := 3, pos := "watch.go:143", after := #[{ on := 6, ground := Ground.data }], guard := none }, { dst := some 47, op := Op.binOp BinOp.eql 3 (Operand.tmp 42) (Operand.tmp 46) 3, type := 4, pos := "watch.go:143", after := #[{ on := 3, ground := Ground.data }, { on := 7, ground := Ground.data }], guard := none }] Q 6 #[true, true, true, false, false, false, false, false, false] { tmps := #[s0, s1, s2, .pointer (some ⟨p, 0, none⟩), s4, s5, s6, s7, s8, .int .i64 i, .int .i64 j, s11, s12, s13, s14, s15, s16, s17, s18, s19, s20, s21, s22, s23, s24, s25, s26, s27, s28, s29, s30, s31, s32, s33, s34, s35, s36, s37, s38, .slice (some ⟨b, off, none⟩) k c, .int .i64 i, .pointer (some ⟨b, off + i, none⟩), s42, s43, s44, s45, s46, s47, s48, s49, s50, s51, s52, s53, s54], defers := [] } W.drew := by
    refine wpAnyIn_ready (rs := [3, 4, 5]) (by kernel_rfl) (by simp) ?_
    refine AllReadyIn.cons (o := { dst := some 42, op := Op.load 3 (Operand.tmp 41), type := 3, pos := "watch.go:143", after := #[{ on := 2, ground := Ground.data }], guard := none }) rfl (fun K hK => ?_) ?_
    · clear h111111111 h111010000 h111001000 h110011000 h100011100 h010011100 h000011110
      go_simp
      (try gi_wp2)
      all_goals
        refine hK _ _ ?_
        clear hK K
        try simp only [Act.put, List.setIfInBounds_toArray, List.set_cons_zero, List.set_cons_succ]
        exact h111100000
    refine AllReadyIn.cons (o := { dst := some 43, op := Op.load 30 (Operand.tmp 3), type := 30, pos := "watch.go:143", after := #[], guard := none }) rfl (fun K hK => ?_) ?_
    · clear h111111111 h111100000 h111001000 h110011000 h100011100 h010011100 h000011110
      go_simp
      (try gi_wp2)
      all_goals
        refine hK _ _ ?_
        clear hK K
        try simp only [Act.put, List.setIfInBounds_toArray, List.set_cons_zero, List.set_cons_succ]
        exact h111010000
    refine AllReadyIn.cons (o := { dst := some 44, op := Op.move (Operand.tmp 10), type := 3, pos := "watch.go:143", after := #[], guard := none }) rfl (fun K hK => ?_) ?_
    · clear h111111111 h111100000 h111010000 h110011000 h100011100 h010011100 h000011110
      go_simp
      (try gi_wp2)
      all_goals
        refine hK _ _ ?_
        clear hK K
        try simp only [Act.put, List.setIfInBounds_toArray, List.set_cons_zero, List.set_cons_succ]
        exact h111001000
    exact AllReadyIn.nil
  have h110010000 : wpAnyIn (Fence.wide.inRound l) 1 Try.prog .any #[{ dst := some 39, op := Op.load 30 (Operand.tmp 3), type := 30, pos := "watch.go:143", after := #[], guard := none }, { dst := some 40, op := Op.move (Operand.tmp 9), type := 3, pos := "watch.go:143", after := #[], guard := none }, { dst := some 41, op := Op.indexAddr 30 (Operand.tmp 39) (Operand.tmp 40), type := 0, pos := "watch.go:143", after := #[{ on := 0, ground := Ground.data }, { on := 1, ground := Ground.data }], guard := none }, { dst := some 42, op := Op.load 3 (Operand.tmp 41), type := 3, pos := "watch.go:143", after := #[{ on := 2, ground := Ground.data }], guard := none }, { dst := some 43, op := Op.load 30 (Operand.tmp 3), type := 30, pos := "watch.go:143", after := #[], guard := none }, { dst := some 44, op := Op.move (Operand.tmp 10), type := 3, pos := "watch.go:143", after := #[], guard := none }, { dst := some 45, op := Op.indexAddr 30 (Operand.tmp 43) (Operand.tmp 44), type := 0, pos := "watch.go:143", after := #[{ on := 4, ground := Ground.data }, { on := 5, ground := Ground.data }], guard := none }, { dst := some 46, op := Op.load 3 (Operand.tmp 45), type := 3, pos := "watch.go:143", after := #[{ on := 6, ground := Ground.data }], guard := none }, { dst := some 47, op := Op.binOp BinOp.eql 3 (Operand.tmp 42) (Operand.tmp 46) 3, type := 4, pos := "watch.go:143", after := #[{ on := 3, ground := Ground.data }, { on := 7, ground := Ground.data }], guard := none }] Q 6 #[true, true, false, false, true, false, false, false, false] { tmps := #[s0, s1, s2, .pointer (some ⟨p, 0, none⟩), s4, s5, s6, s7, s8, .int .i64 i, .int .i64 j, s11, s12, s13, s14, s15, s16, s17, s18, s19, s20, s21, s22, s23, s24, s25, s26, s27, s28, s29, s30, s31, s32, s33, s34, s35, s36, s37, s38, .slice (some ⟨b, off, none⟩) k c, .int .i64 i, s41, s42, .slice (some ⟨b, off, none⟩) k c, s44, s45, s46, s47, s48, s49, s50, s51, s52, s53, s54], defers := [] } W.drew := by
    refine wpAnyIn_ready (rs := [2, 5]) (by kernel_rfl) (by simp) ?_
    refine AllReadyIn.cons (o := { dst := some 41, op := Op.indexAddr 30 (Operand.tmp 39) (Operand.tmp 40), type := 0, pos := "watch.go:143", after := #[{ on := 0, ground := Ground.data }, { on := 1, ground := Ground.data }], guard := none }) rfl (fun K hK => ?_) ?_
    · clear h111111111 h111100000 h111001000 h110011000 h100011100 h010011100 h000011110
      go_simp
      (try gi_wp2)
      all_goals
        refine hK _ _ ?_
        clear hK K
        try simp only [Act.put, List.setIfInBounds_toArray, List.set_cons_zero, List.set_cons_succ]
        exact h111010000
    refine AllReadyIn.cons (o := { dst := some 44, op := Op.move (Operand.tmp 10), type := 3, pos := "watch.go:143", after := #[], guard := none }) rfl (fun K hK => ?_) ?_
    · clear h111111111 h111100000 h111010000 h111001000 h100011100 h010011100 h000011110
      go_simp
      (try gi_wp2)
      all_goals
        refine hK _ _ ?_
        clear hK K
        try simp only [Act.put, List.setIfInBounds_toArray, List.set_cons_zero, List.set_cons_succ]
        exact h110011000
    exact AllReadyIn.nil
  have h110001000 : wpAnyIn (Fence.wide.inRound l) 1 Try.prog .any #[{ dst := some 39, op := Op.load 30 (Operand.tmp 3), type := 30, pos := "watch.go:143", after := #[], guard := none }, { dst := some 40, op := Op.move (Operand.tmp 9), type := 3, pos := "watch.go:143", after := #[], guard := none }, { dst := some 41, op := Op.indexAddr 30 (Operand.tmp 39) (Operand.tmp 40), type := 0, pos := "watch.go:143", after := #[{ on := 0, ground := Ground.data }, { on := 1, ground := Ground.data }], guard := none }, { dst := some 42, op := Op.load 3 (Operand.tmp 41), type := 3, pos := "watch.go:143", after := #[{ on := 2, ground := Ground.data }], guard := none }, { dst := some 43, op := Op.load 30 (Operand.tmp 3), type := 30, pos := "watch.go:143", after := #[], guard := none }, { dst := some 44, op := Op.move (Operand.tmp 10), type := 3, pos := "watch.go:143", after := #[], guard := none }, { dst := some 45, op := Op.indexAddr 30 (Operand.tmp 43) (Operand.tmp 44), type := 0, pos := "watch.go:143", after := #[{ on := 4, ground := Ground.data }, { on := 5, ground := Ground.data }], guard := none }, { dst := some 46, op := Op.load 3 (Operand.tmp 45), type := 3, pos := "watch.go:143", after := #[{ on := 6, ground := Ground.data }], guard := none }, { dst := some 47, op := Op.binOp BinOp.eql 3 (Operand.tmp 42) (Operand.tmp 46) 3, type := 4, pos := "watch.go:143", after := #[{ on := 3, ground := Ground.data }, { on := 7, ground := Ground.data }], guard := none }] Q 6 #[true, true, false, false, false, true, false, false, false] { tmps := #[s0, s1, s2, .pointer (some ⟨p, 0, none⟩), s4, s5, s6, s7, s8, .int .i64 i, .int .i64 j, s11, s12, s13, s14, s15, s16, s17, s18, s19, s20, s21, s22, s23, s24, s25, s26, s27, s28, s29, s30, s31, s32, s33, s34, s35, s36, s37, s38, .slice (some ⟨b, off, none⟩) k c, .int .i64 i, s41, s42, s43, .int .i64 j, s45, s46, s47, s48, s49, s50, s51, s52, s53, s54], defers := [] } W.drew := by
    refine wpAnyIn_ready (rs := [2, 4]) (by kernel_rfl) (by simp) ?_
    refine AllReadyIn.cons (o := { dst := some 41, op := Op.indexAddr 30 (Operand.tmp 39) (Operand.tmp 40), type := 0, pos := "watch.go:143", after := #[{ on := 0, ground := Ground.data }, { on := 1, ground := Ground.data }], guard := none }) rfl (fun K hK => ?_) ?_
    · clear h111111111 h111100000 h111010000 h110011000 h100011100 h010011100 h000011110
      go_simp
      (try gi_wp2)
      all_goals
        refine hK _ _ ?_
        clear hK K
        try simp only [Act.put, List.setIfInBounds_toArray, List.set_cons_zero, List.set_cons_succ]
        exact h111001000
    refine AllReadyIn.cons (o := { dst := some 43, op := Op.load 30 (Operand.tmp 3), type := 30, pos := "watch.go:143", after := #[], guard := none }) rfl (fun K hK => ?_) ?_
    · clear h111111111 h111100000 h111010000 h111001000 h100011100 h010011100 h000011110
      go_simp
      (try gi_wp2)
      all_goals
        refine hK _ _ ?_
        clear hK K
        try simp only [Act.put, List.setIfInBounds_toArray, List.set_cons_zero, List.set_cons_succ]
        exact h110011000
    exact AllReadyIn.nil
  have h100011000 : wpAnyIn (Fence.wide.inRound l) 1 Try.prog .any #[{ dst := some 39, op := Op.load 30 (Operand.tmp 3), type := 30, pos := "watch.go:143", after := #[], guard := none }, { dst := some 40, op := Op.move (Operand.tmp 9), type := 3, pos := "watch.go:143", after := #[], guard := none }, { dst := some 41, op := Op.indexAddr 30 (Operand.tmp 39) (Operand.tmp 40), type := 0, pos := "watch.go:143", after := #[{ on := 0, ground := Ground.data }, { on := 1, ground := Ground.data }], guard := none }, { dst := some 42, op := Op.load 3 (Operand.tmp 41), type := 3, pos := "watch.go:143", after := #[{ on := 2, ground := Ground.data }], guard := none }, { dst := some 43, op := Op.load 30 (Operand.tmp 3), type := 30, pos := "watch.go:143", after := #[], guard := none }, { dst := some 44, op := Op.move (Operand.tmp 10), type := 3, pos := "watch.go:143", after := #[], guard := none }, { dst := some 45, op := Op.indexAddr 30 (Operand.tmp 43) (Operand.tmp 44), type := 0, pos := "watch.go:143", after := #[{ on := 4, ground := Ground.data }, { on := 5, ground := Ground.data }], guard := none }, { dst := some 46, op := Op.load 3 (Operand.tmp 45), type := 3, pos := "watch.go:143", after := #[{ on := 6, ground := Ground.data }], guard := none }, { dst := some 47, op := Op.binOp BinOp.eql 3 (Operand.tmp 42) (Operand.tmp 46) 3, type := 4, pos := "watch.go:143", after := #[{ on := 3, ground := Ground.data }, { on := 7, ground := Ground.data }], guard := none }] Q 6 #[true, false, false, false, true, true, false, false, false] { tmps := #[s0, s1, s2, .pointer (some ⟨p, 0, none⟩), s4, s5, s6, s7, s8, .int .i64 i, .int .i64 j, s11, s12, s13, s14, s15, s16, s17, s18, s19, s20, s21, s22, s23, s24, s25, s26, s27, s28, s29, s30, s31, s32, s33, s34, s35, s36, s37, s38, .slice (some ⟨b, off, none⟩) k c, s40, s41, s42, .slice (some ⟨b, off, none⟩) k c, .int .i64 j, s45, s46, s47, s48, s49, s50, s51, s52, s53, s54], defers := [] } W.drew := by
    refine wpAnyIn_ready (rs := [1, 6]) (by kernel_rfl) (by simp) ?_
    refine AllReadyIn.cons (o := { dst := some 40, op := Op.move (Operand.tmp 9), type := 3, pos := "watch.go:143", after := #[], guard := none }) rfl (fun K hK => ?_) ?_
    · clear h111111111 h111100000 h111010000 h111001000 h100011100 h010011100 h000011110
      go_simp
      (try gi_wp2)
      all_goals
        refine hK _ _ ?_
        clear hK K
        try simp only [Act.put, List.setIfInBounds_toArray, List.set_cons_zero, List.set_cons_succ]
        exact h110011000
    refine AllReadyIn.cons (o := { dst := some 45, op := Op.indexAddr 30 (Operand.tmp 43) (Operand.tmp 44), type := 0, pos := "watch.go:143", after := #[{ on := 4, ground := Ground.data }, { on := 5, ground := Ground.data }], guard := none }) rfl (fun K hK => ?_) ?_
    · clear h111111111 h111100000 h111010000 h111001000 h110011000 h010011100 h000011110
      go_simp
      (try gi_wp2)
      all_goals
        refine hK _ _ ?_
        clear hK K
        try simp only [Act.put, List.setIfInBounds_toArray, List.set_cons_zero, List.set_cons_succ]
        exact h100011100
    exact AllReadyIn.nil
  have h010011000 : wpAnyIn (Fence.wide.inRound l) 1 Try.prog .any #[{ dst := some 39, op := Op.load 30 (Operand.tmp 3), type := 30, pos := "watch.go:143", after := #[], guard := none }, { dst := some 40, op := Op.move (Operand.tmp 9), type := 3, pos := "watch.go:143", after := #[], guard := none }, { dst := some 41, op := Op.indexAddr 30 (Operand.tmp 39) (Operand.tmp 40), type := 0, pos := "watch.go:143", after := #[{ on := 0, ground := Ground.data }, { on := 1, ground := Ground.data }], guard := none }, { dst := some 42, op := Op.load 3 (Operand.tmp 41), type := 3, pos := "watch.go:143", after := #[{ on := 2, ground := Ground.data }], guard := none }, { dst := some 43, op := Op.load 30 (Operand.tmp 3), type := 30, pos := "watch.go:143", after := #[], guard := none }, { dst := some 44, op := Op.move (Operand.tmp 10), type := 3, pos := "watch.go:143", after := #[], guard := none }, { dst := some 45, op := Op.indexAddr 30 (Operand.tmp 43) (Operand.tmp 44), type := 0, pos := "watch.go:143", after := #[{ on := 4, ground := Ground.data }, { on := 5, ground := Ground.data }], guard := none }, { dst := some 46, op := Op.load 3 (Operand.tmp 45), type := 3, pos := "watch.go:143", after := #[{ on := 6, ground := Ground.data }], guard := none }, { dst := some 47, op := Op.binOp BinOp.eql 3 (Operand.tmp 42) (Operand.tmp 46) 3, type := 4, pos := "watch.go:143", after := #[{ on := 3, ground := Ground.data }, { on := 7, ground := Ground.data }], guard := none }] Q 6 #[false, true, false, false, true, true, false, false, false] { tmps := #[s0, s1, s2, .pointer (some ⟨p, 0, none⟩), s4, s5, s6, s7, s8, .int .i64 i, .int .i64 j, s11, s12, s13, s14, s15, s16, s17, s18, s19, s20, s21, s22, s23, s24, s25, s26, s27, s28, s29, s30, s31, s32, s33, s34, s35, s36, s37, s38, s39, .int .i64 i, s41, s42, .slice (some ⟨b, off, none⟩) k c, .int .i64 j, s45, s46, s47, s48, s49, s50, s51, s52, s53, s54], defers := [] } W.drew := by
    refine wpAnyIn_ready (rs := [0, 6]) (by kernel_rfl) (by simp) ?_
    refine AllReadyIn.cons (o := { dst := some 39, op := Op.load 30 (Operand.tmp 3), type := 30, pos := "watch.go:143", after := #[], guard := none }) rfl (fun K hK => ?_) ?_
    · clear h111111111 h111100000 h111010000 h111001000 h100011100 h010011100 h000011110
      go_simp
      (try gi_wp2)
      all_goals
        refine hK _ _ ?_
        clear hK K
        try simp only [Act.put, List.setIfInBounds_toArray, List.set_cons_zero, List.set_cons_succ]
        exact h110011000
    refine AllReadyIn.cons (o := { dst := some 45, op := Op.indexAddr 30 (Operand.tmp 43) (Operand.tmp 44), type := 0, pos := "watch.go:143", after := #[{ on := 4, ground := Ground.data }, { on := 5, ground := Ground.data }], guard := none }) rfl (fun K hK => ?_) ?_
    · clear h111111111 h111100000 h111010000 h111001000 h110011000 h100011100 h000011110
      go_simp
      (try gi_wp2)
      all_goals
        refine hK _ _ ?_
        clear hK K
        try simp only [Act.put, List.setIfInBounds_toArray, List.set_cons_zero, List.set_cons_succ]
        exact h010011100
    exact AllReadyIn.nil
  have h000011100 : wpAnyIn (Fence.wide.inRound l) 1 Try.prog .any #[{ dst := some 39, op := Op.load 30 (Operand.tmp 3), type := 30, pos := "watch.go:143", after := #[], guard := none }, { dst := some 40, op := Op.move (Operand.tmp 9), type := 3, pos := "watch.go:143", after := #[], guard := none }, { dst := some 41, op := Op.indexAddr 30 (Operand.tmp 39) (Operand.tmp 40), type := 0, pos := "watch.go:143", after := #[{ on := 0, ground := Ground.data }, { on := 1, ground := Ground.data }], guard := none }, { dst := some 42, op := Op.load 3 (Operand.tmp 41), type := 3, pos := "watch.go:143", after := #[{ on := 2, ground := Ground.data }], guard := none }, { dst := some 43, op := Op.load 30 (Operand.tmp 3), type := 30, pos := "watch.go:143", after := #[], guard := none }, { dst := some 44, op := Op.move (Operand.tmp 10), type := 3, pos := "watch.go:143", after := #[], guard := none }, { dst := some 45, op := Op.indexAddr 30 (Operand.tmp 43) (Operand.tmp 44), type := 0, pos := "watch.go:143", after := #[{ on := 4, ground := Ground.data }, { on := 5, ground := Ground.data }], guard := none }, { dst := some 46, op := Op.load 3 (Operand.tmp 45), type := 3, pos := "watch.go:143", after := #[{ on := 6, ground := Ground.data }], guard := none }, { dst := some 47, op := Op.binOp BinOp.eql 3 (Operand.tmp 42) (Operand.tmp 46) 3, type := 4, pos := "watch.go:143", after := #[{ on := 3, ground := Ground.data }, { on := 7, ground := Ground.data }], guard := none }] Q 6 #[false, false, false, false, true, true, true, false, false] { tmps := #[s0, s1, s2, .pointer (some ⟨p, 0, none⟩), s4, s5, s6, s7, s8, .int .i64 i, .int .i64 j, s11, s12, s13, s14, s15, s16, s17, s18, s19, s20, s21, s22, s23, s24, s25, s26, s27, s28, s29, s30, s31, s32, s33, s34, s35, s36, s37, s38, s39, s40, s41, s42, .slice (some ⟨b, off, none⟩) k c, .int .i64 j, .pointer (some ⟨b, off + j, none⟩), s46, s47, s48, s49, s50, s51, s52, s53, s54], defers := [] } W.drew := by
    refine wpAnyIn_ready (rs := [0, 1, 7]) (by kernel_rfl) (by simp) ?_
    refine AllReadyIn.cons (o := { dst := some 39, op := Op.load 30 (Operand.tmp 3), type := 30, pos := "watch.go:143", after := #[], guard := none }) rfl (fun K hK => ?_) ?_
    · clear h111111111 h111100000 h111010000 h111001000 h110011000 h010011100 h000011110
      go_simp
      (try gi_wp2)
      all_goals
        refine hK _ _ ?_
        clear hK K
        try simp only [Act.put, List.setIfInBounds_toArray, List.set_cons_zero, List.set_cons_succ]
        exact h100011100
    refine AllReadyIn.cons (o := { dst := some 40, op := Op.move (Operand.tmp 9), type := 3, pos := "watch.go:143", after := #[], guard := none }) rfl (fun K hK => ?_) ?_
    · clear h111111111 h111100000 h111010000 h111001000 h110011000 h100011100 h000011110
      go_simp
      (try gi_wp2)
      all_goals
        refine hK _ _ ?_
        clear hK K
        try simp only [Act.put, List.setIfInBounds_toArray, List.set_cons_zero, List.set_cons_succ]
        exact h010011100
    refine AllReadyIn.cons (o := { dst := some 46, op := Op.load 3 (Operand.tmp 45), type := 3, pos := "watch.go:143", after := #[{ on := 6, ground := Ground.data }], guard := none }) rfl (fun K hK => ?_) ?_
    · clear h111111111 h111100000 h111010000 h111001000 h110011000 h100011100 h010011100
      go_simp
      (try gi_wp2)
      all_goals
        refine hK _ _ ?_
        clear hK K
        try simp only [Act.put, List.setIfInBounds_toArray, List.set_cons_zero, List.set_cons_succ]
        exact h000011110
    exact AllReadyIn.nil
  clear h111100000 h111010000 h111001000 h110011000 h100011100 h010011100 h000011110
  have h110000000 : wpAnyIn (Fence.wide.inRound l) 1 Try.prog .any #[{ dst := some 39, op := Op.load 30 (Operand.tmp 3), type := 30, pos := "watch.go:143", after := #[], guard := none }, { dst := some 40, op := Op.move (Operand.tmp 9), type := 3, pos := "watch.go:143", after := #[], guard := none }, { dst := some 41, op := Op.indexAddr 30 (Operand.tmp 39) (Operand.tmp 40), type := 0, pos := "watch.go:143", after := #[{ on := 0, ground := Ground.data }, { on := 1, ground := Ground.data }], guard := none }, { dst := some 42, op := Op.load 3 (Operand.tmp 41), type := 3, pos := "watch.go:143", after := #[{ on := 2, ground := Ground.data }], guard := none }, { dst := some 43, op := Op.load 30 (Operand.tmp 3), type := 30, pos := "watch.go:143", after := #[], guard := none }, { dst := some 44, op := Op.move (Operand.tmp 10), type := 3, pos := "watch.go:143", after := #[], guard := none }, { dst := some 45, op := Op.indexAddr 30 (Operand.tmp 43) (Operand.tmp 44), type := 0, pos := "watch.go:143", after := #[{ on := 4, ground := Ground.data }, { on := 5, ground := Ground.data }], guard := none }, { dst := some 46, op := Op.load 3 (Operand.tmp 45), type := 3, pos := "watch.go:143", after := #[{ on := 6, ground := Ground.data }], guard := none }, { dst := some 47, op := Op.binOp BinOp.eql 3 (Operand.tmp 42) (Operand.tmp 46) 3, type := 4, pos := "watch.go:143", after := #[{ on := 3, ground := Ground.data }, { on := 7, ground := Ground.data }], guard := none }] Q 7 #[true, true, false, false, false, false, false, false, false] { tmps := #[s0, s1, s2, .pointer (some ⟨p, 0, none⟩), s4, s5, s6, s7, s8, .int .i64 i, .int .i64 j, s11, s12, s13, s14, s15, s16, s17, s18, s19, s20, s21, s22, s23, s24, s25, s26, s27, s28, s29, s30, s31, s32, s33, s34, s35, s36, s37, s38, .slice (some ⟨b, off, none⟩) k c, .int .i64 i, s41, s42, s43, s44, s45, s46, s47, s48, s49, s50, s51, s52, s53, s54], defers := [] } W.drew := by
    refine wpAnyIn_ready (rs := [2, 4, 5]) (by kernel_rfl) (by simp) ?_
    refine AllReadyIn.cons (o := { dst := some 41, op := Op.indexAddr 30 (Operand.tmp 39) (Operand.tmp 40), type := 0, pos := "watch.go:143", after := #[{ on := 0, ground := Ground.data }, { on := 1, ground := Ground.data }], guard := none }) rfl (fun K hK => ?_) ?_
    · clear h111111111 h110010000 h110001000 h100011000 h010011000 h000011100
      go_simp
      (try gi_wp2)
      all_goals
        refine hK _ _ ?_
        clear hK K
        try simp only [Act.put, List.setIfInBounds_toArray, List.set_cons_zero, List.set_cons_succ]
        exact h111000000
    refine AllReadyIn.cons (o := { dst := some 43, op := Op.load 30 (Operand.tmp 3), type := 30, pos := "watch.go:143", after := #[], guard := none }) rfl (fun K hK => ?_) ?_
    · clear h111111111 h111000000 h110001000 h100011000 h010011000 h000011100
      go_simp
      (try gi_wp2)
      all_goals
        refine hK _ _ ?_
        clear hK K
        try simp only [Act.put, List.setIfInBounds_toArray, List.set_cons_zero, List.set_cons_succ]
        exact h110010000
    refine AllReadyIn.cons (o := { dst := some 44, op := Op.move (Operand.tmp 10), type := 3, pos := "watch.go:143", after := #[], guard := none }) rfl (fun K hK => ?_) ?_
    · clear h111111111 h111000000 h110010000 h100011000 h010011000 h000011100
      go_simp
      (try gi_wp2)
      all_goals
        refine hK _ _ ?_
        clear hK K
        try simp only [Act.put, List.setIfInBounds_toArray, List.set_cons_zero, List.set_cons_succ]
        exact h110001000
    exact AllReadyIn.nil
  have h100010000 : wpAnyIn (Fence.wide.inRound l) 1 Try.prog .any #[{ dst := some 39, op := Op.load 30 (Operand.tmp 3), type := 30, pos := "watch.go:143", after := #[], guard := none }, { dst := some 40, op := Op.move (Operand.tmp 9), type := 3, pos := "watch.go:143", after := #[], guard := none }, { dst := some 41, op := Op.indexAddr 30 (Operand.tmp 39) (Operand.tmp 40), type := 0, pos := "watch.go:143", after := #[{ on := 0, ground := Ground.data }, { on := 1, ground := Ground.data }], guard := none }, { dst := some 42, op := Op.load 3 (Operand.tmp 41), type := 3, pos := "watch.go:143", after := #[{ on := 2, ground := Ground.data }], guard := none }, { dst := some 43, op := Op.load 30 (Operand.tmp 3), type := 30, pos := "watch.go:143", after := #[], guard := none }, { dst := some 44, op := Op.move (Operand.tmp 10), type := 3, pos := "watch.go:143", after := #[], guard := none }, { dst := some 45, op := Op.indexAddr 30 (Operand.tmp 43) (Operand.tmp 44), type := 0, pos := "watch.go:143", after := #[{ on := 4, ground := Ground.data }, { on := 5, ground := Ground.data }], guard := none }, { dst := some 46, op := Op.load 3 (Operand.tmp 45), type := 3, pos := "watch.go:143", after := #[{ on := 6, ground := Ground.data }], guard := none }, { dst := some 47, op := Op.binOp BinOp.eql 3 (Operand.tmp 42) (Operand.tmp 46) 3, type := 4, pos := "watch.go:143", after := #[{ on := 3, ground := Ground.data }, { on := 7, ground := Ground.data }], guard := none }] Q 7 #[true, false, false, false, true, false, false, false, false] { tmps := #[s0, s1, s2, .pointer (some ⟨p, 0, none⟩), s4, s5, s6, s7, s8, .int .i64 i, .int .i64 j, s11, s12, s13, s14, s15, s16, s17, s18, s19, s20, s21, s22, s23, s24, s25, s26, s27, s28, s29, s30, s31, s32, s33, s34, s35, s36, s37, s38, .slice (some ⟨b, off, none⟩) k c, s40, s41, s42, .slice (some ⟨b, off, none⟩) k c, s44, s45, s46, s47, s48, s49, s50, s51, s52, s53, s54], defers := [] } W.drew := by
    refine wpAnyIn_ready (rs := [1, 5]) (by kernel_rfl) (by simp) ?_
    refine AllReadyIn.cons (o := { dst := some 40, op := Op.move (Operand.tmp 9), type := 3, pos := "watch.go:143", after := #[], guard := none }) rfl (fun K hK => ?_) ?_
    · clear h111111111 h111000000 h110001000 h100011000 h010011000 h000011100
      go_simp
      (try gi_wp2)
      all_goals
        refine hK _ _ ?_
        clear hK K
        try simp only [Act.put, List.setIfInBounds_toArray, List.set_cons_zero, List.set_cons_succ]
        exact h110010000
    refine AllReadyIn.cons (o := { dst := some 44, op := Op.move (Operand.tmp 10), type := 3, pos := "watch.go:143", after := #[], guard := none }) rfl (fun K hK => ?_) ?_
    · clear h111111111 h111000000 h110010000 h110001000 h010011000 h000011100
      go_simp
      (try gi_wp2)
      all_goals
        refine hK _ _ ?_
        clear hK K
        try simp only [Act.put, List.setIfInBounds_toArray, List.set_cons_zero, List.set_cons_succ]
        exact h100011000
    exact AllReadyIn.nil
  have h100001000 : wpAnyIn (Fence.wide.inRound l) 1 Try.prog .any #[{ dst := some 39, op := Op.load 30 (Operand.tmp 3), type := 30, pos := "watch.go:143", after := #[], guard := none }, { dst := some 40, op := Op.move (Operand.tmp 9), type := 3, pos := "watch.go:143", after := #[], guard := none }, { dst := some 41, op := Op.indexAddr 30 (Operand.tmp 39) (Operand.tmp 40), type := 0, pos := "watch.go:143", after := #[{ on := 0, ground := Ground.data }, { on := 1, ground := Ground.data }], guard := none }, { dst := some 42, op := Op.load 3 (Operand.tmp 41), type := 3, pos := "watch.go:143", after := #[{ on := 2, ground := Ground.data }], guard := none }, { dst := some 43, op := Op.load 30 (Operand.tmp 3), type := 30, pos := "watch.go:143", after := #[], guard := none }, { dst := some 44, op := Op.move (Operand.tmp 10), type := 3, pos := "watch.go:143", after := #[], guard := none }, { dst := some 45, op := Op.indexAddr 30 (Operand.tmp 43) (Operand.tmp 44), type := 0, pos := "watch.go:143", after := #[{ on := 4, ground := Ground.data }, { on := 5, ground := Ground.data }], guard := none }, { dst := some 46, op := Op.load 3 (Operand.tmp 45), type := 3, pos := "watch.go:143", after := #[{ on := 6, ground := Ground.data }], guard := none }, { dst := some 47, op := Op.binOp BinOp.eql 3 (Operand.tmp 42) (Operand.tmp 46) 3, type := 4, pos := "watch.go:143", after := #[{ on := 3, ground := Ground.data }, { on := 7, ground := Ground.data }], guard := none }] Q 7 #[true, false, false, false, false, true, false, false, false] { tmps := #[s0, s1, s2, .pointer (some ⟨p, 0, none⟩), s4, s5, s6, s7, s8, .int .i64 i, .int .i64 j, s11, s12, s13, s14, s15, s16, s17, s18, s19, s20, s21, s22, s23, s24, s25, s26, s27, s28, s29, s30, s31, s32, s33, s34, s35, s36, s37, s38, .slice (some ⟨b, off, none⟩) k c, s40, s41, s42, s43, .int .i64 j, s45, s46, s47, s48, s49, s50, s51, s52, s53, s54], defers := [] } W.drew := by
    refine wpAnyIn_ready (rs := [1, 4]) (by kernel_rfl) (by simp) ?_
    refine AllReadyIn.cons (o := { dst := some 40, op := Op.move (Operand.tmp 9), type := 3, pos := "watch.go:143", after := #[], guard := none }) rfl (fun K hK => ?_) ?_
    · clear h111111111 h111000000 h110010000 h100011000 h010011000 h000011100
      go_simp
      (try gi_wp2)
      all_goals
        refine hK _ _ ?_
        clear hK K
        try simp only [Act.put, List.setIfInBounds_toArray, List.set_cons_zero, List.set_cons_succ]
        exact h110001000
    refine AllReadyIn.cons (o := { dst := some 43, op := Op.load 30 (Operand.tmp 3), type := 30, pos := "watch.go:143", after := #[], guard := none }) rfl (fun K hK => ?_) ?_
    · clear h111111111 h111000000 h110010000 h110001000 h010011000 h000011100
      go_simp
      (try gi_wp2)
      all_goals
        refine hK _ _ ?_
        clear hK K
        try simp only [Act.put, List.setIfInBounds_toArray, List.set_cons_zero, List.set_cons_succ]
        exact h100011000
    exact AllReadyIn.nil
  have h010010000 : wpAnyIn (Fence.wide.inRound l) 1 Try.prog .any #[{ dst := some 39, op := Op.load 30 (Operand.tmp 3), type := 30, pos := "watch.go:143", after := #[], guard := none }, { dst := some 40, op := Op.move (Operand.tmp 9), type := 3, pos := "watch.go:143", after := #[], guard := none }, { dst := some 41, op := Op.indexAddr 30 (Operand.tmp 39) (Operand.tmp 40), type := 0, pos := "watch.go:143", after := #[{ on := 0, ground := Ground.data }, { on := 1, ground := Ground.data }], guard := none }, { dst := some 42, op := Op.load 3 (Operand.tmp 41), type := 3, pos := "watch.go:143", after := #[{ on := 2, ground := Ground.data }], guard := none }, { dst := some 43, op := Op.load 30 (Operand.tmp 3), type := 30, pos := "watch.go:143", after := #[], guard := none }, { dst := some 44, op := Op.move (Operand.tmp 10), type := 3, pos := "watch.go:143", after := #[], guard := none }, { dst := some 45, op := Op.indexAddr 30 (Operand.tmp 43) (Operand.tmp 44), type := 0, pos := "watch.go:143", after := #[{ on := 4, ground := Ground.data }, { on := 5, ground := Ground.data }], guard := none }, { dst := some 46, op := Op.load 3 (Operand.tmp 45), type := 3, pos := "watch.go:143", after := #[{ on := 6, ground := Ground.data }], guard := none }, { dst := some 47, op := Op.binOp BinOp.eql 3 (Operand.tmp 42) (Operand.tmp 46) 3, type := 4, pos := "watch.go:143", after := #[{ on := 3, ground := Ground.data }, { on := 7, ground := Ground.data }], guard := none }] Q 7 #[false, true, false, false, true, false, false, false, false] { tmps := #[s0, s1, s2, .pointer (some ⟨p, 0, none⟩), s4, s5, s6, s7, s8, .int .i64 i, .int .i64 j, s11, s12, s13, s14, s15, s16, s17, s18, s19, s20, s21, s22, s23, s24, s25, s26, s27, s28, s29, s30, s31, s32, s33, s34, s35, s36, s37, s38, s39, .int .i64 i, s41, s42, .slice (some ⟨b, off, none⟩) k c, s44, s45, s46, s47, s48, s49, s50, s51, s52, s53, s54], defers := [] } W.drew := by
    refine wpAnyIn_ready (rs := [0, 5]) (by kernel_rfl) (by simp) ?_
    refine AllReadyIn.cons (o := { dst := some 39, op := Op.load 30 (Operand.tmp 3), type := 30, pos := "watch.go:143", after := #[], guard := none }) rfl (fun K hK => ?_) ?_
    · clear h111111111 h111000000 h110001000 h100011000 h010011000 h000011100
      go_simp
      (try gi_wp2)
      all_goals
        refine hK _ _ ?_
        clear hK K
        try simp only [Act.put, List.setIfInBounds_toArray, List.set_cons_zero, List.set_cons_succ]
        exact h110010000
    refine AllReadyIn.cons (o := { dst := some 44, op := Op.move (Operand.tmp 10), type := 3, pos := "watch.go:143", after := #[], guard := none }) rfl (fun K hK => ?_) ?_
    · clear h111111111 h111000000 h110010000 h110001000 h100011000 h000011100
      go_simp
      (try gi_wp2)
      all_goals
        refine hK _ _ ?_
        clear hK K
        try simp only [Act.put, List.setIfInBounds_toArray, List.set_cons_zero, List.set_cons_succ]
        exact h010011000
    exact AllReadyIn.nil
  have h010001000 : wpAnyIn (Fence.wide.inRound l) 1 Try.prog .any #[{ dst := some 39, op := Op.load 30 (Operand.tmp 3), type := 30, pos := "watch.go:143", after := #[], guard := none }, { dst := some 40, op := Op.move (Operand.tmp 9), type := 3, pos := "watch.go:143", after := #[], guard := none }, { dst := some 41, op := Op.indexAddr 30 (Operand.tmp 39) (Operand.tmp 40), type := 0, pos := "watch.go:143", after := #[{ on := 0, ground := Ground.data }, { on := 1, ground := Ground.data }], guard := none }, { dst := some 42, op := Op.load 3 (Operand.tmp 41), type := 3, pos := "watch.go:143", after := #[{ on := 2, ground := Ground.data }], guard := none }, { dst := some 43, op := Op.load 30 (Operand.tmp 3), type := 30, pos := "watch.go:143", after := #[], guard := none }, { dst := some 44, op := Op.move (Operand.tmp 10), type := 3, pos := "watch.go:143", after := #[], guard := none }, { dst := some 45, op := Op.indexAddr 30 (Operand.tmp 43) (Operand.tmp 44), type := 0, pos := "watch.go:143", after := #[{ on := 4, ground := Ground.data }, { on := 5, ground := Ground.data }], guard := none }, { dst := some 46, op := Op.load 3 (Operand.tmp 45), type := 3, pos := "watch.go:143", after := #[{ on := 6, ground := Ground.data }], guard := none }, { dst := some 47, op := Op.binOp BinOp.eql 3 (Operand.tmp 42) (Operand.tmp 46) 3, type := 4, pos := "watch.go:143", after := #[{ on := 3, ground := Ground.data }, { on := 7, ground := Ground.data }], guard := none }] Q 7 #[false, true, false, false, false, true, false, false, false] { tmps := #[s0, s1, s2, .pointer (some ⟨p, 0, none⟩), s4, s5, s6, s7, s8, .int .i64 i, .int .i64 j, s11, s12, s13, s14, s15, s16, s17, s18, s19, s20, s21, s22, s23, s24, s25, s26, s27, s28, s29, s30, s31, s32, s33, s34, s35, s36, s37, s38, s39, .int .i64 i, s41, s42, s43, .int .i64 j, s45, s46, s47, s48, s49, s50, s51, s52, s53, s54], defers := [] } W.drew := by
    refine wpAnyIn_ready (rs := [0, 4]) (by kernel_rfl) (by simp) ?_
    refine AllReadyIn.cons (o := { dst := some 39, op := Op.load 30 (Operand.tmp 3), type := 30, pos := "watch.go:143", after := #[], guard := none }) rfl (fun K hK => ?_) ?_
    · clear h111111111 h111000000 h110010000 h100011000 h010011000 h000011100
      go_simp
      (try gi_wp2)
      all_goals
        refine hK _ _ ?_
        clear hK K
        try simp only [Act.put, List.setIfInBounds_toArray, List.set_cons_zero, List.set_cons_succ]
        exact h110001000
    refine AllReadyIn.cons (o := { dst := some 43, op := Op.load 30 (Operand.tmp 3), type := 30, pos := "watch.go:143", after := #[], guard := none }) rfl (fun K hK => ?_) ?_
    · clear h111111111 h111000000 h110010000 h110001000 h100011000 h000011100
      go_simp
      (try gi_wp2)
      all_goals
        refine hK _ _ ?_
        clear hK K
        try simp only [Act.put, List.setIfInBounds_toArray, List.set_cons_zero, List.set_cons_succ]
        exact h010011000
    exact AllReadyIn.nil
  have h000011000 : wpAnyIn (Fence.wide.inRound l) 1 Try.prog .any #[{ dst := some 39, op := Op.load 30 (Operand.tmp 3), type := 30, pos := "watch.go:143", after := #[], guard := none }, { dst := some 40, op := Op.move (Operand.tmp 9), type := 3, pos := "watch.go:143", after := #[], guard := none }, { dst := some 41, op := Op.indexAddr 30 (Operand.tmp 39) (Operand.tmp 40), type := 0, pos := "watch.go:143", after := #[{ on := 0, ground := Ground.data }, { on := 1, ground := Ground.data }], guard := none }, { dst := some 42, op := Op.load 3 (Operand.tmp 41), type := 3, pos := "watch.go:143", after := #[{ on := 2, ground := Ground.data }], guard := none }, { dst := some 43, op := Op.load 30 (Operand.tmp 3), type := 30, pos := "watch.go:143", after := #[], guard := none }, { dst := some 44, op := Op.move (Operand.tmp 10), type := 3, pos := "watch.go:143", after := #[], guard := none }, { dst := some 45, op := Op.indexAddr 30 (Operand.tmp 43) (Operand.tmp 44), type := 0, pos := "watch.go:143", after := #[{ on := 4, ground := Ground.data }, { on := 5, ground := Ground.data }], guard := none }, { dst := some 46, op := Op.load 3 (Operand.tmp 45), type := 3, pos := "watch.go:143", after := #[{ on := 6, ground := Ground.data }], guard := none }, { dst := some 47, op := Op.binOp BinOp.eql 3 (Operand.tmp 42) (Operand.tmp 46) 3, type := 4, pos := "watch.go:143", after := #[{ on := 3, ground := Ground.data }, { on := 7, ground := Ground.data }], guard := none }] Q 7 #[false, false, false, false, true, true, false, false, false] { tmps := #[s0, s1, s2, .pointer (some ⟨p, 0, none⟩), s4, s5, s6, s7, s8, .int .i64 i, .int .i64 j, s11, s12, s13, s14, s15, s16, s17, s18, s19, s20, s21, s22, s23, s24, s25, s26, s27, s28, s29, s30, s31, s32, s33, s34, s35, s36, s37, s38, s39, s40, s41, s42, .slice (some ⟨b, off, none⟩) k c, .int .i64 j, s45, s46, s47, s48, s49, s50, s51, s52, s53, s54], defers := [] } W.drew := by
    refine wpAnyIn_ready (rs := [0, 1, 6]) (by kernel_rfl) (by simp) ?_
    refine AllReadyIn.cons (o := { dst := some 39, op := Op.load 30 (Operand.tmp 3), type := 30, pos := "watch.go:143", after := #[], guard := none }) rfl (fun K hK => ?_) ?_
    · clear h111111111 h111000000 h110010000 h110001000 h010011000 h000011100
      go_simp
      (try gi_wp2)
      all_goals
        refine hK _ _ ?_
        clear hK K
        try simp only [Act.put, List.setIfInBounds_toArray, List.set_cons_zero, List.set_cons_succ]
        exact h100011000
    refine AllReadyIn.cons (o := { dst := some 40, op := Op.move (Operand.tmp 9), type := 3, pos := "watch.go:143", after := #[], guard := none }) rfl (fun K hK => ?_) ?_
    · clear h111111111 h111000000 h110010000 h110001000 h100011000 h000011100
      go_simp
      (try gi_wp2)
      all_goals
        refine hK _ _ ?_
        clear hK K
        try simp only [Act.put, List.setIfInBounds_toArray, List.set_cons_zero, List.set_cons_succ]
        exact h010011000
    refine AllReadyIn.cons (o := { dst := some 45, op := Op.indexAddr 30 (Operand.tmp 43) (Operand.tmp 44), type := 0, pos := "watch.go:143", after := #[{ on := 4, ground := Ground.data }, { on := 5, ground := Ground.data }], guard := none }) rfl (fun K hK => ?_) ?_
    · clear h111111111 h111000000 h110010000 h110001000 h100011000 h010011000
      go_simp
      (try gi_wp2)
      all_goals
        refine hK _ _ ?_
        clear hK K
        try simp only [Act.put, List.setIfInBounds_toArray, List.set_cons_zero, List.set_cons_succ]
        exact h000011100
    exact AllReadyIn.nil
  clear h111000000 h110010000 h110001000 h100011000 h010011000 h000011100
  have h100000000 : wpAnyIn (Fence.wide.inRound l) 1 Try.prog .any #[{ dst := some 39, op := Op.load 30 (Operand.tmp 3), type := 30, pos := "watch.go:143", after := #[], guard := none }, { dst := some 40, op := Op.move (Operand.tmp 9), type := 3, pos := "watch.go:143", after := #[], guard := none }, { dst := some 41, op := Op.indexAddr 30 (Operand.tmp 39) (Operand.tmp 40), type := 0, pos := "watch.go:143", after := #[{ on := 0, ground := Ground.data }, { on := 1, ground := Ground.data }], guard := none }, { dst := some 42, op := Op.load 3 (Operand.tmp 41), type := 3, pos := "watch.go:143", after := #[{ on := 2, ground := Ground.data }], guard := none }, { dst := some 43, op := Op.load 30 (Operand.tmp 3), type := 30, pos := "watch.go:143", after := #[], guard := none }, { dst := some 44, op := Op.move (Operand.tmp 10), type := 3, pos := "watch.go:143", after := #[], guard := none }, { dst := some 45, op := Op.indexAddr 30 (Operand.tmp 43) (Operand.tmp 44), type := 0, pos := "watch.go:143", after := #[{ on := 4, ground := Ground.data }, { on := 5, ground := Ground.data }], guard := none }, { dst := some 46, op := Op.load 3 (Operand.tmp 45), type := 3, pos := "watch.go:143", after := #[{ on := 6, ground := Ground.data }], guard := none }, { dst := some 47, op := Op.binOp BinOp.eql 3 (Operand.tmp 42) (Operand.tmp 46) 3, type := 4, pos := "watch.go:143", after := #[{ on := 3, ground := Ground.data }, { on := 7, ground := Ground.data }], guard := none }] Q 8 #[true, false, false, false, false, false, false, false, false] { tmps := #[s0, s1, s2, .pointer (some ⟨p, 0, none⟩), s4, s5, s6, s7, s8, .int .i64 i, .int .i64 j, s11, s12, s13, s14, s15, s16, s17, s18, s19, s20, s21, s22, s23, s24, s25, s26, s27, s28, s29, s30, s31, s32, s33, s34, s35, s36, s37, s38, .slice (some ⟨b, off, none⟩) k c, s40, s41, s42, s43, s44, s45, s46, s47, s48, s49, s50, s51, s52, s53, s54], defers := [] } W.drew := by
    refine wpAnyIn_ready (rs := [1, 4, 5]) (by kernel_rfl) (by simp) ?_
    refine AllReadyIn.cons (o := { dst := some 40, op := Op.move (Operand.tmp 9), type := 3, pos := "watch.go:143", after := #[], guard := none }) rfl (fun K hK => ?_) ?_
    · clear h111111111 h100010000 h100001000 h010010000 h010001000 h000011000
      go_simp
      (try gi_wp2)
      all_goals
        refine hK _ _ ?_
        clear hK K
        try simp only [Act.put, List.setIfInBounds_toArray, List.set_cons_zero, List.set_cons_succ]
        exact h110000000
    refine AllReadyIn.cons (o := { dst := some 43, op := Op.load 30 (Operand.tmp 3), type := 30, pos := "watch.go:143", after := #[], guard := none }) rfl (fun K hK => ?_) ?_
    · clear h111111111 h110000000 h100001000 h010010000 h010001000 h000011000
      go_simp
      (try gi_wp2)
      all_goals
        refine hK _ _ ?_
        clear hK K
        try simp only [Act.put, List.setIfInBounds_toArray, List.set_cons_zero, List.set_cons_succ]
        exact h100010000
    refine AllReadyIn.cons (o := { dst := some 44, op := Op.move (Operand.tmp 10), type := 3, pos := "watch.go:143", after := #[], guard := none }) rfl (fun K hK => ?_) ?_
    · clear h111111111 h110000000 h100010000 h010010000 h010001000 h000011000
      go_simp
      (try gi_wp2)
      all_goals
        refine hK _ _ ?_
        clear hK K
        try simp only [Act.put, List.setIfInBounds_toArray, List.set_cons_zero, List.set_cons_succ]
        exact h100001000
    exact AllReadyIn.nil
  have h010000000 : wpAnyIn (Fence.wide.inRound l) 1 Try.prog .any #[{ dst := some 39, op := Op.load 30 (Operand.tmp 3), type := 30, pos := "watch.go:143", after := #[], guard := none }, { dst := some 40, op := Op.move (Operand.tmp 9), type := 3, pos := "watch.go:143", after := #[], guard := none }, { dst := some 41, op := Op.indexAddr 30 (Operand.tmp 39) (Operand.tmp 40), type := 0, pos := "watch.go:143", after := #[{ on := 0, ground := Ground.data }, { on := 1, ground := Ground.data }], guard := none }, { dst := some 42, op := Op.load 3 (Operand.tmp 41), type := 3, pos := "watch.go:143", after := #[{ on := 2, ground := Ground.data }], guard := none }, { dst := some 43, op := Op.load 30 (Operand.tmp 3), type := 30, pos := "watch.go:143", after := #[], guard := none }, { dst := some 44, op := Op.move (Operand.tmp 10), type := 3, pos := "watch.go:143", after := #[], guard := none }, { dst := some 45, op := Op.indexAddr 30 (Operand.tmp 43) (Operand.tmp 44), type := 0, pos := "watch.go:143", after := #[{ on := 4, ground := Ground.data }, { on := 5, ground := Ground.data }], guard := none }, { dst := some 46, op := Op.load 3 (Operand.tmp 45), type := 3, pos := "watch.go:143", after := #[{ on := 6, ground := Ground.data }], guard := none }, { dst := some 47, op := Op.binOp BinOp.eql 3 (Operand.tmp 42) (Operand.tmp 46) 3, type := 4, pos := "watch.go:143", after := #[{ on := 3, ground := Ground.data }, { on := 7, ground := Ground.data }], guard := none }] Q 8 #[false, true, false, false, false, false, false, false, false] { tmps := #[s0, s1, s2, .pointer (some ⟨p, 0, none⟩), s4, s5, s6, s7, s8, .int .i64 i, .int .i64 j, s11, s12, s13, s14, s15, s16, s17, s18, s19, s20, s21, s22, s23, s24, s25, s26, s27, s28, s29, s30, s31, s32, s33, s34, s35, s36, s37, s38, s39, .int .i64 i, s41, s42, s43, s44, s45, s46, s47, s48, s49, s50, s51, s52, s53, s54], defers := [] } W.drew := by
    refine wpAnyIn_ready (rs := [0, 4, 5]) (by kernel_rfl) (by simp) ?_
    refine AllReadyIn.cons (o := { dst := some 39, op := Op.load 30 (Operand.tmp 3), type := 30, pos := "watch.go:143", after := #[], guard := none }) rfl (fun K hK => ?_) ?_
    · clear h111111111 h100010000 h100001000 h010010000 h010001000 h000011000
      go_simp
      (try gi_wp2)
      all_goals
        refine hK _ _ ?_
        clear hK K
        try simp only [Act.put, List.setIfInBounds_toArray, List.set_cons_zero, List.set_cons_succ]
        exact h110000000
    refine AllReadyIn.cons (o := { dst := some 43, op := Op.load 30 (Operand.tmp 3), type := 30, pos := "watch.go:143", after := #[], guard := none }) rfl (fun K hK => ?_) ?_
    · clear h111111111 h110000000 h100010000 h100001000 h010001000 h000011000
      go_simp
      (try gi_wp2)
      all_goals
        refine hK _ _ ?_
        clear hK K
        try simp only [Act.put, List.setIfInBounds_toArray, List.set_cons_zero, List.set_cons_succ]
        exact h010010000
    refine AllReadyIn.cons (o := { dst := some 44, op := Op.move (Operand.tmp 10), type := 3, pos := "watch.go:143", after := #[], guard := none }) rfl (fun K hK => ?_) ?_
    · clear h111111111 h110000000 h100010000 h100001000 h010010000 h000011000
      go_simp
      (try gi_wp2)
      all_goals
        refine hK _ _ ?_
        clear hK K
        try simp only [Act.put, List.setIfInBounds_toArray, List.set_cons_zero, List.set_cons_succ]
        exact h010001000
    exact AllReadyIn.nil
  have h000010000 : wpAnyIn (Fence.wide.inRound l) 1 Try.prog .any #[{ dst := some 39, op := Op.load 30 (Operand.tmp 3), type := 30, pos := "watch.go:143", after := #[], guard := none }, { dst := some 40, op := Op.move (Operand.tmp 9), type := 3, pos := "watch.go:143", after := #[], guard := none }, { dst := some 41, op := Op.indexAddr 30 (Operand.tmp 39) (Operand.tmp 40), type := 0, pos := "watch.go:143", after := #[{ on := 0, ground := Ground.data }, { on := 1, ground := Ground.data }], guard := none }, { dst := some 42, op := Op.load 3 (Operand.tmp 41), type := 3, pos := "watch.go:143", after := #[{ on := 2, ground := Ground.data }], guard := none }, { dst := some 43, op := Op.load 30 (Operand.tmp 3), type := 30, pos := "watch.go:143", after := #[], guard := none }, { dst := some 44, op := Op.move (Operand.tmp 10), type := 3, pos := "watch.go:143", after := #[], guard := none }, { dst := some 45, op := Op.indexAddr 30 (Operand.tmp 43) (Operand.tmp 44), type := 0, pos := "watch.go:143", after := #[{ on := 4, ground := Ground.data }, { on := 5, ground := Ground.data }], guard := none }, { dst := some 46, op := Op.load 3 (Operand.tmp 45), type := 3, pos := "watch.go:143", after := #[{ on := 6, ground := Ground.data }], guard := none }, { dst := some 47, op := Op.binOp BinOp.eql 3 (Operand.tmp 42) (Operand.tmp 46) 3, type := 4, pos := "watch.go:143", after := #[{ on := 3, ground := Ground.data }, { on := 7, ground := Ground.data }], guard := none }] Q 8 #[false, false, false, false, true, false, false, false, false] { tmps := #[s0, s1, s2, .pointer (some ⟨p, 0, none⟩), s4, s5, s6, s7, s8, .int .i64 i, .int .i64 j, s11, s12, s13, s14, s15, s16, s17, s18, s19, s20, s21, s22, s23, s24, s25, s26, s27, s28, s29, s30, s31, s32, s33, s34, s35, s36, s37, s38, s39, s40, s41, s42, .slice (some ⟨b, off, none⟩) k c, s44, s45, s46, s47, s48, s49, s50, s51, s52, s53, s54], defers := [] } W.drew := by
    refine wpAnyIn_ready (rs := [0, 1, 5]) (by kernel_rfl) (by simp) ?_
    refine AllReadyIn.cons (o := { dst := some 39, op := Op.load 30 (Operand.tmp 3), type := 30, pos := "watch.go:143", after := #[], guard := none }) rfl (fun K hK => ?_) ?_
    · clear h111111111 h110000000 h100001000 h010010000 h010001000 h000011000
      go_simp
      (try gi_wp2)
      all_goals
        refine hK _ _ ?_
        clear hK K
        try simp only [Act.put, List.setIfInBounds_toArray, List.set_cons_zero, List.set_cons_succ]
        exact h100010000
    refine AllReadyIn.cons (o := { dst := some 40, op := Op.move (Operand.tmp 9), type := 3, pos := "watch.go:143", after := #[], guard := none }) rfl (fun K hK => ?_) ?_
    · clear h111111111 h110000000 h100010000 h100001000 h010001000 h000011000
      go_simp
      (try gi_wp2)
      all_goals
        refine hK _ _ ?_
        clear hK K
        try simp only [Act.put, List.setIfInBounds_toArray, List.set_cons_zero, List.set_cons_succ]
        exact h010010000
    refine AllReadyIn.cons (o := { dst := some 44, op := Op.move (Operand.tmp 10), type := 3, pos := "watch.go:143", after := #[], guard := none }) rfl (fun K hK => ?_) ?_
    · clear h111111111 h110000000 h100010000 h100001000 h010010000 h010001000
      go_simp
      (try gi_wp2)
      all_goals
        refine hK _ _ ?_
        clear hK K
        try simp only [Act.put, List.setIfInBounds_toArray, List.set_cons_zero, List.set_cons_succ]
        exact h000011000
    exact AllReadyIn.nil
  have h000001000 : wpAnyIn (Fence.wide.inRound l) 1 Try.prog .any #[{ dst := some 39, op := Op.load 30 (Operand.tmp 3), type := 30, pos := "watch.go:143", after := #[], guard := none }, { dst := some 40, op := Op.move (Operand.tmp 9), type := 3, pos := "watch.go:143", after := #[], guard := none }, { dst := some 41, op := Op.indexAddr 30 (Operand.tmp 39) (Operand.tmp 40), type := 0, pos := "watch.go:143", after := #[{ on := 0, ground := Ground.data }, { on := 1, ground := Ground.data }], guard := none }, { dst := some 42, op := Op.load 3 (Operand.tmp 41), type := 3, pos := "watch.go:143", after := #[{ on := 2, ground := Ground.data }], guard := none }, { dst := some 43, op := Op.load 30 (Operand.tmp 3), type := 30, pos := "watch.go:143", after := #[], guard := none }, { dst := some 44, op := Op.move (Operand.tmp 10), type := 3, pos := "watch.go:143", after := #[], guard := none }, { dst := some 45, op := Op.indexAddr 30 (Operand.tmp 43) (Operand.tmp 44), type := 0, pos := "watch.go:143", after := #[{ on := 4, ground := Ground.data }, { on := 5, ground := Ground.data }], guard := none }, { dst := some 46, op := Op.load 3 (Operand.tmp 45), type := 3, pos := "watch.go:143", after := #[{ on := 6, ground := Ground.data }], guard := none }, { dst := some 47, op := Op.binOp BinOp.eql 3 (Operand.tmp 42) (Operand.tmp 46) 3, type := 4, pos := "watch.go:143", after := #[{ on := 3, ground := Ground.data }, { on := 7, ground := Ground.data }], guard := none }] Q 8 #[false, false, false, false, false, true, false, false, false] { tmps := #[s0, s1, s2, .pointer (some ⟨p, 0, none⟩), s4, s5, s6, s7, s8, .int .i64 i, .int .i64 j, s11, s12, s13, s14, s15, s16, s17, s18, s19, s20, s21, s22, s23, s24, s25, s26, s27, s28, s29, s30, s31, s32, s33, s34, s35, s36, s37, s38, s39, s40, s41, s42, s43, .int .i64 j, s45, s46, s47, s48, s49, s50, s51, s52, s53, s54], defers := [] } W.drew := by
    refine wpAnyIn_ready (rs := [0, 1, 4]) (by kernel_rfl) (by simp) ?_
    refine AllReadyIn.cons (o := { dst := some 39, op := Op.load 30 (Operand.tmp 3), type := 30, pos := "watch.go:143", after := #[], guard := none }) rfl (fun K hK => ?_) ?_
    · clear h111111111 h110000000 h100010000 h010010000 h010001000 h000011000
      go_simp
      (try gi_wp2)
      all_goals
        refine hK _ _ ?_
        clear hK K
        try simp only [Act.put, List.setIfInBounds_toArray, List.set_cons_zero, List.set_cons_succ]
        exact h100001000
    refine AllReadyIn.cons (o := { dst := some 40, op := Op.move (Operand.tmp 9), type := 3, pos := "watch.go:143", after := #[], guard := none }) rfl (fun K hK => ?_) ?_
    · clear h111111111 h110000000 h100010000 h100001000 h010010000 h000011000
      go_simp
      (try gi_wp2)
      all_goals
        refine hK _ _ ?_
        clear hK K
        try simp only [Act.put, List.setIfInBounds_toArray, List.set_cons_zero, List.set_cons_succ]
        exact h010001000
    refine AllReadyIn.cons (o := { dst := some 43, op := Op.load 30 (Operand.tmp 3), type := 30, pos := "watch.go:143", after := #[], guard := none }) rfl (fun K hK => ?_) ?_
    · clear h111111111 h110000000 h100010000 h100001000 h010010000 h010001000
      go_simp
      (try gi_wp2)
      all_goals
        refine hK _ _ ?_
        clear hK K
        try simp only [Act.put, List.setIfInBounds_toArray, List.set_cons_zero, List.set_cons_succ]
        exact h000011000
    exact AllReadyIn.nil
  clear h110000000 h100010000 h100001000 h010010000 h010001000 h000011000
  have h000000000 : wpAnyIn (Fence.wide.inRound l) 1 Try.prog .any #[{ dst := some 39, op := Op.load 30 (Operand.tmp 3), type := 30, pos := "watch.go:143", after := #[], guard := none }, { dst := some 40, op := Op.move (Operand.tmp 9), type := 3, pos := "watch.go:143", after := #[], guard := none }, { dst := some 41, op := Op.indexAddr 30 (Operand.tmp 39) (Operand.tmp 40), type := 0, pos := "watch.go:143", after := #[{ on := 0, ground := Ground.data }, { on := 1, ground := Ground.data }], guard := none }, { dst := some 42, op := Op.load 3 (Operand.tmp 41), type := 3, pos := "watch.go:143", after := #[{ on := 2, ground := Ground.data }], guard := none }, { dst := some 43, op := Op.load 30 (Operand.tmp 3), type := 30, pos := "watch.go:143", after := #[], guard := none }, { dst := some 44, op := Op.move (Operand.tmp 10), type := 3, pos := "watch.go:143", after := #[], guard := none }, { dst := some 45, op := Op.indexAddr 30 (Operand.tmp 43) (Operand.tmp 44), type := 0, pos := "watch.go:143", after := #[{ on := 4, ground := Ground.data }, { on := 5, ground := Ground.data }], guard := none }, { dst := some 46, op := Op.load 3 (Operand.tmp 45), type := 3, pos := "watch.go:143", after := #[{ on := 6, ground := Ground.data }], guard := none }, { dst := some 47, op := Op.binOp BinOp.eql 3 (Operand.tmp 42) (Operand.tmp 46) 3, type := 4, pos := "watch.go:143", after := #[{ on := 3, ground := Ground.data }, { on := 7, ground := Ground.data }], guard := none }] Q 9 #[false, false, false, false, false, false, false, false, false] { tmps := #[s0, s1, s2, .pointer (some ⟨p, 0, none⟩), s4, s5, s6, s7, s8, .int .i64 i, .int .i64 j, s11, s12, s13, s14, s15, s16, s17, s18, s19, s20, s21, s22, s23, s24, s25, s26, s27, s28, s29, s30, s31, s32, s33, s34, s35, s36, s37, s38, s39, s40, s41, s42, s43, s44, s45, s46, s47, s48, s49, s50, s51, s52, s53, s54], defers := [] } W.drew := by
    refine wpAnyIn_ready (rs := [0, 1, 4, 5]) (by kernel_rfl) (by simp) ?_
    refine AllReadyIn.cons (o := { dst := some 39, op := Op.load 30 (Operand.tmp 3), type := 30, pos := "watch.go:143", after := #[], guard := none }) rfl (fun K hK => ?_) ?_
    · clear h111111111 h010000000 h000010000 h000001000
      go_simp
      (try gi_wp2)
      all_goals
        refine hK _ _ ?_
        clear hK K
        try simp only [Act.put, List.setIfInBounds_toArray, List.set_cons_zero, List.set_cons_succ]
        exact h100000000
    refine AllReadyIn.cons (o := { dst := some 40, op := Op.move (Operand.tmp 9), type := 3, pos := "watch.go:143", after := #[], guard := none }) rfl (fun K hK => ?_) ?_
    · clear h111111111 h100000000 h000010000 h000001000
      go_simp
      (try gi_wp2)
      all_goals
        refine hK _ _ ?_
        clear hK K
        try simp only [Act.put, List.setIfInBounds_toArray, List.set_cons_zero, List.set_cons_succ]
        exact h010000000
    refine AllReadyIn.cons (o := { dst := some 43, op := Op.load 30 (Operand.tmp 3), type := 30, pos := "watch.go:143", after := #[], guard := none }) rfl (fun K hK => ?_) ?_
    · clear h111111111 h100000000 h010000000 h000001000
      go_simp
      (try gi_wp2)
      all_goals
        refine hK _ _ ?_
        clear hK K
        try simp only [Act.put, List.setIfInBounds_toArray, List.set_cons_zero, List.set_cons_succ]
        exact h000010000
    refine AllReadyIn.cons (o := { dst := some 44, op := Op.move (Operand.tmp 10), type := 3, pos := "watch.go:143", after := #[], guard := none }) rfl (fun K hK => ?_) ?_
    · clear h111111111 h100000000 h010000000 h000010000
      go_simp
      (try gi_wp2)
      all_goals
        refine hK _ _ ?_
        clear hK K
        try simp only [Act.put, List.setIfInBounds_toArray, List.set_cons_zero, List.set_cons_succ]
        exact h000001000
    exact AllReadyIn.nil
  clear h100000000 h010000000 h000010000 h000001000
  exact h000000000
end Go.Proofs.Ytpkjgnllkaafkaa
