/- Copies of integers, and of equal ones beside each other just one. -/
import Derived.Test.YtpkjgnllkaafkaaWalkM
import Derived.Lib.SliceRun
namespace Go.Proofs.Ytpkjgnllkaafkaa
open Go.RowKit

theorem cmpL_snoc : ∀ (L : List Int) (x y : Int), (cmpL (L ++ [x, y])).length = (cmpL (L ++ [x])).length + if x = y then 0 else 1
  | [], x, y => by
    by_cases h : x = y
    · simp [cmpL, h]
    · simp [cmpL, h]
  | [a], x, y => by
    by_cases h : x = y <;> by_cases h2 : a = x <;> simp [cmpL, h, h2] <;> (try (subst h; simp [h2]))
  | a :: b :: L, x, y => by
    have ih := cmpL_snoc (b :: L) x y
    simp only [List.cons_append] at ih ⊢
    unfold cmpL
    by_cases h2 : a = b
    · simp only [if_pos h2]; exact ih
    · simp only [if_neg h2, List.length_cons]; omega
/-- How many are left of the first m. -/
def cc (L : List Int) (m : Nat) : Nat := (cmpL (L.take m)).length
theorem cc_one {L : List Int} (h : 0 < L.length) : cc L 1 = 1 := by
  cases L with
  | nil => simp at h
  | cons a L => simp [cc, cmpL]
theorem take2 {L : List Int} {m : Nat} (h : m + 1 < L.length) : L.take (m + 2) = L.take m ++ [gi L m, gi L (m + 1)] := by
  have e1 : gi L m = L[m] := by simp [gi, List.getD_eq_getElem?_getD, show m < L.length by omega]
  have e2 : gi L (m + 1) = L[m + 1] := by simp [gi, List.getD_eq_getElem?_getD, h]
  rw [List.take_succ_eq_append_getElem h, List.take_succ_eq_append_getElem (by omega), e1, e2, List.append_assoc]
  rfl
theorem take1 {L : List Int} {m : Nat} (h : m < L.length) : L.take (m + 1) = L.take m ++ [gi L m] := by
  have e1 : gi L m = L[m] := by simp [gi, List.getD_eq_getElem?_getD, h]
  rw [List.take_succ_eq_append_getElem h, e1]
theorem cc_succ {L : List Int} {m : Nat} (h : m + 1 < L.length) : cc L (m + 2) = cc L (m + 1) + if gi L m = gi L (m + 1) then 0 else 1 := by
  unfold cc
  rw [take2 h, take1 (by omega), cmpL_snoc]
theorem cc_same {L : List Int} {m : Nat} (h : m + 1 < L.length) (e : gi L m = gi L (m + 1)) : cc L (m + 2) = cc L (m + 1) := by rw [cc_succ h, if_pos e]; rfl
theorem cc_more {L : List Int} {m : Nat} (h : m + 1 < L.length) (e : gi L m ≠ gi L (m + 1)) : cc L (m + 2) = cc L (m + 1) + 1 := by rw [cc_succ h, if_neg e]
theorem cc_all {L : List Int} {n : Nat} (h : L.length = n) : cc L n = (cmpL L).length := by unfold cc; rw [List.take_of_length_le (by omega)]
theorem gi_set {L : List Int} {k j : Nat} {v : Int} (h : k ≠ j) : gi (L.set k v) j = gi L j := by
  unfold gi
  rw [getD_set, if_neg (by omega)]
theorem gb_setCells {W : World} {g : Nat} : ∀ (vs : List Value) (o : Nat) {X : World}, W.grownBy X (some g) → W.grownBy (X.setCells g o vs) (some g)
  | [], _, _, h => h
  | v :: r, o, _, h => gb_setCells r (o + 1) (gb_set h o v)
def LenPost (L : List Int) (row : Option Nat) (w : World) (e : Ending) (w' : World) : Prop :=
  ∃ (A : Option Addr) (m c : Nat), e = .returned (.slice A m c) ∧ m = (cmpL L).length ∧ w.grownBy w' row

set_option maxRecDepth 100000 in
set_option maxHeartbeats 4000000 in
theorem Compact_any (A : Option Addr) (n c : Nat) (L : List Int) (B : Nat) (w : World) (h : Own E1 w B 3 A n c L) (hn : n ≤ 12) :
    Calls Try.prog 71 #[.slice A n c] w (LenPost L (Value.slice A n c).ownBlock w) := by
  have HL := hide h.len
  by_cases h2 : n < 2
  · have hc : n = (cmpL L).length := by
      have hl := h.len
      match L, hl with
      | [], hl => simp at hl; subst hl; rfl
      | [a], hl => simp at hl; subst hl; rfl
      | a :: b :: t, hl => simp at hl; omega
    have HC := hide hc
    clear hc
    go_enter Try.func71, Try.ntmps71
    go_wp2_with fail
    go_ret
    exact ⟨A, n, c, rfl, HC.out, gb_refl _ _⟩
  · obtain ⟨g, rfl, hBg, hgl, hnc, hcm⟩ := h.addr (by omega)
    have hcm' : c ≤ 9223372036854775807 := hcm
    have HO := hide h
    have H1 := hide (cc_one (L := L) (by rw [HL.out]; omega))
    have HALL := hide (cc_all HL.out)
    clear hcm h
    go_enter Try.func71, Try.ntmps71
    go_wp2_with fail
    go_loopw [3] (fun i wr => ∃ (k q : Nat), 1 ≤ k ∧ k ≤ n ∧ i = .int .i64 k ∧ wr = w.drewN q ∧ Hid (cc L k = k)) (fun i _ => n - (intOf i).toNat)
    case atStart => exact ⟨1, 0, by omega, by omega, rfl, rfl, H1⟩
    case round =>
      obtain ⟨k, q, hk1, hk, rfl, rfl, HC⟩ := hrel
      by_cases hlt : k < n
      · obtain ⟨k, rfl⟩ : ∃ k', k = k' + 1 := ⟨k - 1, by omega⟩
        have a1 := own1 HO.out (k := k + 1) (by omega)
        have b1 := own1 HO.out (k := k) (by omega)
        have HSA := hide (cc_same (L := L) (m := k) (by rw [HL.out]; exact hlt))
        have HMO := hide (cc_more (L := L) (m := k) (by rw [HL.out]; exact hlt))
        have HMX := hide (show gi L (k + 1) = gi L (k + 1) from rfl)
        have q1 : (0 : Int) < (k : Int) + 1 := by omega
        have q2 : (0 : Int) ≤ (k : Int) + 1 := by omega
        have q4 : (k : Int) + 1 < (n : Int) := by omega
        have q5 : (k : Int) < (n : Int) := by omega
        have q6 : ((k : Int) + 1).toNat = k + 1 := by omega
        have q3 : IntKind.i64.wrap ((k : Int) + 1 - 1) = (k : Int) := by rw [show (k : Int) + 1 - 1 = (k : Int) by omega]; exact IntWalk.i64_in _ (by omega)
        have q7 : IntKind.i64.wrap (k : Int) = (k : Int) := IntWalk.i64_in _ (by omega)
        have q8 : (0 : Int) ≤ (k : Int) := by omega
        clear HMX
        have hx : ∃ x, gi L (k + 1) = x := ⟨_, rfl⟩
        obtain ⟨x, hx⟩ := hx
        have hy : ∃ y, gi L k = y := ⟨_, rfl⟩
        obtain ⟨y, hy⟩ := hy
        rw [hx] at a1
        rw [hy] at b1
        have HX := hide hx
        have HY := hide hy
        clear hx hy
        by_cases hxy : x = y
        · have HS := hide (HSA.out (by rw [HX.out, HY.out]; exact hxy.symm))
          subst hxy
          clear HSA HMO
          go_wp2_with fail
          go_quiet (fail)
          go_wp2_with fail
          clear a1 b1 q1 q2 q3 q4 q5 q6 q7 q8
          go_loopw [3, 5] (fun i j wr => ∃ (kk k2 : Nat) (M : List Int), i = .int .i64 kk ∧ j = .int .i64 k2 ∧ 1 ≤ k2 ∧ k + 1 + k2 ≤ n ∧ kk ≤ k + k2 ∧ Hid (cc L (k + 1 + k2) = kk) ∧ Hid (Own E1 wr B 3 (some ⟨g, 0, none⟩) n c M) ∧ Hid (∀ i, k + k2 ≤ i → gi M i = gi L i) ∧ Hid (w.grownBy wr (some g))) (fun _ j _ => n - (intOf j).toNat)
          case atStart => exact ⟨k + 1, 1, L, rfl, rfl, by omega, by omega, by omega, hide (by rw [HS.out, HC.out]), hide (HO.out.drewN _), hide (fun _ _ => rfl), hide (gb_drewN (gb_refl _ _) _)⟩
          case round =>
            obtain ⟨kk, k2, M, rfl, rfl, hk21, hk22, hkk, HCC, HM, HMI, HG⟩ := hrel
            have hgr : g < wr.heap.size := Nat.lt_of_lt_of_le hgl HG.out.size
            have t1 : (n - (k + 1) : Nat) = n - k - 1 := by omega
            clear t1
            by_cases hlt2 : k + 1 + k2 < n
            · obtain ⟨k2, rfl⟩ : ∃ k', k2 = k' + 1 := ⟨k2 - 1, by omega⟩
              have a1 := own1 HM.out (k := k + 1 + (k2 + 1)) (by omega)
              have b1 := own1 HM.out (k := k + 1 + k2) (by omega)
              rw [HMI.out (k + 1 + (k2 + 1)) (by omega)] at a1
              rw [HMI.out (k + 1 + k2) (by omega)] at b1
              have d1 := own1 HM.out (k := kk) (by omega)
              have f1 := HM.out.frozen kk
              have HSA := hide (cc_same (L := L) (m := k + 1 + k2) (by rw [HL.out]; omega))
              have HMO := hide (cc_more (L := L) (m := k + 1 + k2) (by rw [HL.out]; omega))
              have q1 : (0 : Int) < (k2 : Int) + 1 := by omega
              have q2 : (0 : Int) ≤ (k2 : Int) + 1 := by omega
              have q4 : (k2 : Int) + 1 < ((n - (k + 1) : Nat) : Int) := by omega
              have q5 : (k2 : Int) < ((n - (k + 1) : Nat) : Int) := by omega
              have q6 : ((k2 : Int) + 1).toNat = k2 + 1 := by omega
              have q3 : IntKind.i64.wrap ((k2 : Int) + 1 - 1) = (k2 : Int) := by rw [show (k2 : Int) + 1 - 1 = (k2 : Int) by omega]; exact IntWalk.i64_in _ (by omega)
              have q7 : IntKind.i64.wrap (k2 : Int) = (k2 : Int) := IntWalk.i64_in _ (by omega)
              have q8 : (0 : Int) ≤ (k2 : Int) := by omega
              have q9 : (kk : Int) < (n : Int) := by omega
              have hx : ∃ x, gi L (k + 1 + (k2 + 1)) = x := ⟨_, rfl⟩
              obtain ⟨x2, hx⟩ := hx
              have hy : ∃ y, gi L (k + 1 + k2) = y := ⟨_, rfl⟩
              obtain ⟨y2, hy⟩ := hy
              rw [hx] at a1
              rw [hy] at b1
              have HX2 := hide hx
              have HY2 := hide hy
              clear hx hy
              by_cases hxy : x2 = y2
              · have HS2 := hide (HSA.out (by rw [HY2.out]; exact hxy.symm.trans HX2.out.symm))
                subst hxy
                clear HSA HMO
                go_wp2_with fail
                go_quiet (fail)
                go_wp2_with fail
                go_roundw
                case rel => exact ⟨kk, k2 + 1 + 1, M, rfl, by go_num, by omega, by omega, by omega, hide (HS2.out.trans HCC.out), hide (HM.out.drewN _), hide (fun i hi => HMI.out i (by omega)), hide (gb_drewN HG.out _)⟩
                case measure => simp [intOf]; omega
              · have HS2 := hide (HMO.out (by rw [HY2.out]; exact fun e => hxy (HX2.out.symm.trans e.symm)))
                have hne : (x2 != y2) = true := by simpa using hxy
                clear HSA HMO
                go_wp2_with fail
                go_quiet (fail)
                go_wp2_with fail
                go_roundw
                case rel => exact ⟨kk + 1, k2 + 1 + 1, M.set kk x2, by go_num, by go_num, by omega, by omega, by omega, hide (HS2.out.trans (congrArg (· + 1) HCC.out)), hide ((HM.out.drewN _).stored1 (by omega) x2), hide (fun i hi => by rw [gi_set (by omega)]; exact HMI.out i (by omega)), hide (gb_set (gb_drewN HG.out _) _ _)⟩
                case measure => simp [intOf]; omega
            · have hend : k + 1 + k2 = n := by omega
              have hcl : ∀ ty, (Builtin.clear_ #[30] ty #[.slice (some ⟨g, kk, none⟩) (n - kk) (c - kk)]).run Try.prog wr = .ok (.tuple #[]) (wr.setCells g kk (List.replicate (n - kk) (.int .i64 0))) :=
                fun ty => Lib.run_clear_slice wr _ _ ty _ Try.underlying30 Try.zeroValue3 rfl rfl g kk _ _ (by omega) (fun j hj => by rw [own1 HM.out (k := kk + j) (by omega)]; rfl) (fun j _ => HM.out.frozen (kk + j))
              have q9 : (kk : Int) < (n : Int) := by omega
              have q10 : (k2 : Int) = ((n - (k + 1) : Nat) : Int) := by omega
              have HQ := hide q10
              have q11 : ¬ (k2 : Int) < ((n - (k + 1) : Nat) : Int) := by omega
              clear q10
              go_wp2_with fail
              go_ret
              exact ⟨_, kk, c, rfl, by rw [← HALL.out, ← HCC.out, hend], gb_setCells _ _ HG.out⟩
        · have HS := hide (HMO.out (by rw [HX.out, HY.out]; exact fun e => hxy e.symm))
          have hne : (x == y) = false := by simpa using hxy
          clear HSA HMO
          go_wp2_with fail
          go_quiet (fail)
          go_wp2_with fail
          go_roundw
          case rel => exact ⟨k + 1 + 1, q + nq, by omega, by omega, by go_num, by first | rfl | (rw [World.drewN_drewN]), hide (by rw [HS.out, HC.out])⟩
          case measure => simp [intOf]; omega
      · obtain rfl : k = n := by omega
        go_wp2_with fail
        go_ret
        exact ⟨_, k, c, rfl, by rw [← HALL.out, HC.out], gb_drewN (gb_refl _ _) _⟩
end Go.Proofs.Ytpkjgnllkaafkaa
