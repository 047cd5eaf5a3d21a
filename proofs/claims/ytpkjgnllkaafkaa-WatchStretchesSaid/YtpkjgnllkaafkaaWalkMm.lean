/- Posts and moments of the program. -/
import Derived.Test.YtpkjgnllkaafkaaWalkAo
import Derived.Test.YtpkjgnllkaafkaaWalkLq
import Derived.Test.YtpkjgnllkaafkaaWalkPo
namespace Go.Proofs.Ytpkjgnllkaafkaa
open Go.RowKit

theorem info_post : (Try.prog.info? 92).map (fun i => (i.zero, i.size, i.bytes)) = some (some (.agg #[.int .i64 0, .int .i64 0]), 2, 16) := by kernel_rfl
/-- The post of a rest. -/
def nmP (y : Nm) : Pst := (y.2.1 - 1, y.2.2.1)
theorem map_pst (R : List Rs) : (R.map restNm).map nmP = R.map pstOf := by rw [List.map_map]; rfl
def pstTo (l : Ns) (k : Nat) : List Pst := (l.take k).map nmP
theorem pstTo_zero (l : Ns) : pstTo l 0 = [] := rfl
theorem pstTo_succ {l : Ns} {k : Nat} (h : k < l.length) {y : Nm} (hy : gt l k = y) : pstTo l (k + 1) = pstTo l k ++ [nmP y] := by
  subst hy
  unfold pstTo
  rw [List.take_succ_eq_append_getElem h, List.map_append]
  simp [gt, List.getD_eq_getElem?_getD, h]
theorem pstTo_all {l : Ns} {n : Nat} (h : l.length = n) : pstTo l n = l.map nmP := by unfold pstTo; rw [List.take_of_length_le (by omega)]
def PstsOf (xs : Ls) (l : List Pst) : Prop := ∃ L, Ord kt xs L ∧ l = (rsts L).map pstOf
def PstsPost (v : List Pst → Prop) (w : World) (e : Ending) (w' : World) : Prop :=
  ∃ (A : Option Addr) (n c : Nat) (l : List Pst), e = .returned (.slice A n c) ∧ v l ∧ Own E2 w' w.heap.size 92 A n c l ∧ Below w.heap.size w w'
theorem rests_to {xs : Ls} (he : errV xs = 0) {L : Ns} (h : Ord kt xs L) {k : Nat} (hk : k < ((rsts L).map restNm).length) : 1 ≤ (gt ((rsts L).map restNm) k).2.1 ∧ (gt ((rsts L).map restNm) k).2.1 ≤ 1000 := by
  have hk' : k < (rsts L).length := by simpa using hk
  have hb := (rsts_bd (L := L) (fun s hs => shift_ok he h hs)).1 _ (List.getElem_mem hk')
  have ho := shift_ok he h hb.2.2
  have e : gt ((rsts L).map restNm) k = restNm (rsts L)[k] := by simp [gt, List.getD_eq_getElem?_getD, hk']
  rw [e]
  unfold okN at ho
  simp only [restNm]
  omega

set_option maxHeartbeats 2000000 in
theorem posts_any (A : Option Addr) (n c : Nat) (xs : Ls) (w : World) (h : R E3 w A n c xs) (he : errV xs = 0) :
    Calls Try.prog 83 #[.slice A n c] w (PstsPost (PstsOf xs) w) := by
  have hn12 : n ≤ 12 := by have := errV_le he; have := h.length; omega
  have HE := hide he
  have HH := hide h
  have HLX := hide h.length
  clear he h
  go_enter Try.func83, Try.ntmps83
  go_wp2_with (go_at_call 77; refine (rests_any _ _ _ xs _ HH.out HE.out).mono ?_; rintro e w2 ⟨A2, n2, c2, l2, rfl, ⟨L, hL, rfl⟩, o2, b2⟩; have HO := hide hL; have HO2 := hide o2; have HB2 := hide b2; have hn2 : n2 ≤ 12 := (by have h1 := o2.len; have h2 := (rsts_bd (L := L) (fun s hs => shift_ok HE.out hL hs)).2; have h3 := hL.len; have h4 := HLX.out; rw [List.length_map] at h1; omega); clear hL o2 b2)
  have HL2 := hide HO2.out.len
  have HTO := hide (fun k hk => @rests_to xs HE.out L HO.out k hk)
  have HMP := hide (map_pst (rsts L))
  generalize (rsts L).map restNm = l2 at *
  have hs2 := HB2.out.size
  go_loopw [3, 9] (fun v i wr => ∃ (k : Nat) (Ap : Option Addr) (q : Nat), k ≤ n2 ∧ i = .int .i64 k ∧ v = .slice Ap k q ∧ Hid (Own E2 wr w2.heap.size 92 Ap k q (pstTo l2 k)) ∧ Hid (Below w2.heap.size w2 wr)) (fun _ i _ => n2 - (intOf i).toNat)
  case atStart => exact ⟨0, none, 0, Nat.zero_le _, rfl, rfl, hide (Own.nil E2 _ _ _), hide (Below.refl _ _)⟩
  case round =>
    obtain ⟨k, Ap, q, hk, rfl, rfl, HOP, HB⟩ := hrel
    by_cases hlt : k < n2
    · obtain ⟨g, rfl, hg1, hg2, hg3, hg4⟩ := HO2.out.addr (by omega)
      have hg4' : c2 ≤ 9223372036854775807 := hg4
      obtain ⟨a1, a2, a3, a4⟩ := own4 (HO2.out.below HB.out (Nat.le_refl _)) hlt
      have hty := HTO.out k (by rw [HL2.out]; exact hlt)
      have HPS := hide (@pstTo_succ l2 k (by rw [HL2.out]; exact hlt) _ rfl)
      have hsz := HB.out.size
      generalize gt l2 k = y at *
      obtain ⟨y1, y2, y3, y4⟩ := y
      dsimp only [nmP] at *
      clear hg4
      have hgr : g < wr.heap.size := by omega
      go_wp2_with (at_builtin; refine wpList_app1 (E := E2) _ (.agg #[.int .i64 0, .int .i64 0]) 16 rfl (.tmp 13) (.tmp 22) 47 92 rfl Try.underlying47 info_post rfl (by decide) (by omega) w2.heap.size _ _ _ _ ((y2 - 1, y3) : Pst) _ rfl rfl (by show Value.slice (some ⟨wr.heap.size + 1, 0, none⟩) 1 1 = _; rw [World.size_alloc]) (HOP.out.alloc (.cells #[.int .i64 y1, .int .i64 y2, .int .i64 y3, .int .i64 y4] 75)) (by omega) (by simp; omega) ?_; intro A5 c5 w5 o5 b5 g5)
      go_roundw
      case rel => exact ⟨k + 1, A5, c5, by omega, by go_num, rfl, hide (by rw [HPS.out]; exact o5), hide ((HB.out.alloc hsz _).trans b5)⟩
      case measure => simp [intOf]; omega
    · obtain rfl : k = n2 := by omega
      have HA := hide (pstTo_all HL2.out)
      go_wp2_with fail
      go_ret
      exact ⟨Ap, k, q, _, rfl, ⟨L, HO.out, by rw [HA.out, HMP.out]⟩, HOP.out.more hs2, HB2.out.trans (HB.out.mono hs2)⟩
end Go.Proofs.Ytpkjgnllkaafkaa
