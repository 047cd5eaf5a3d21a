/- Sorting of at most twelve integers. -/
import Derived.Test.YtpkjgnllkaafkaaWalkI
import Derived.Test.YtpkjgnllkaafkaaMA
namespace Go.Proofs.Ytpkjgnllkaafkaa
open Go.RowKit

theorem Less_any (a b : Int) (w : World) :
    Calls Try.prog 108 #[.int .i64 a, .int .i64 b] w fun e w' => e = .returned (.bool (decide (a < b))) ∧ w = w' := by
  go_enter Try.func108, Try.ntmps108
  go_wp2_with (go_at_call 101; refine (isNaN_any _ _).mono ?_; rintro e w' ⟨rfl, rfl⟩)
  go_ret
  exact ⟨ret_bool (by simp), rfl⟩
theorem own1 {w : World} {B n c g : Nat} {e : TypeId} {L : List Int} (h : Own E1 w B e (some ⟨g, 0, none⟩) n c L) {k : Nat} (hk : k < n) : w.cell? ⟨g, k, none⟩ = some (.int .i64 (gi L k)) := by
  have h1 := h.cell (j := 0) hk (by decide)
  rw [show k * E1.size + 0 = k from Nat.mul_one k] at h1
  exact h1
theorem Own.stored1 {w : World} {B n c g : Nat} {e : TypeId} {L : List Int} (h : Own E1 w B e (some ⟨g, 0, none⟩) n c L) {k : Nat} (hk : k < n) (a : Int) :
    Own E1 (w.setCell ⟨g, k, none⟩ (.int .i64 a)) B e (some ⟨g, 0, none⟩) n c (L.set k a) := by
  have h1 := h.stored (j := 0) hk (by decide) (.int .i64 a) a rfl
  rw [show k * E1.size + 0 = k from Nat.mul_one k] at h1
  exact h1
theorem swi_gi {L : List Int} {j : Nat} {x y : Int} (hx : gi L j = x) (hy : gi L (j - 1) = y) : swi L j = (L.set j y).set (j - 1) x := by unfold swi; rw [hx, hy]
def SortPostI (B g n c : Nat) (L : List Int) (w : World) (e : Ending) (w' : World) : Prop :=
  ∃ L', e = .returned (.tuple #[]) ∧ Own E1 w' B 3 (some ⟨g, 0, none⟩) n c L' ∧ L'.Perm L ∧ UptoI L' n ∧ w.grownBy w' (some g)
theorem gb_drewN {W X : World} {row : Option Nat} (h : W.grownBy X row) (k : Nat) : W.grownBy (X.drewN k) row := ⟨h.os, h.tape, h.output, h.size, h.block⟩

set_option maxRecDepth 100000 in
set_option maxHeartbeats 3200000 in
theorem insI_any (g n c : Nat) (L : List Int) (B : Nat) (w : World) (h : Own E1 w B 3 (some ⟨g, 0, none⟩) n c L) (hn1 : 1 ≤ n) (hn : n ≤ 12) :
    Calls Try.prog 102 #[.slice (some ⟨g, 0, none⟩) n c, .int .i64 0, .int .i64 n] w (SortPostI B g n c L w) := by
  obtain ⟨_, hA, hBg, hgl, hnc, hcm⟩ := h.addr hn1
  injection hA with hA
  injection hA with hA
  subst hA
  have HL := hide h.len
  have hcm' : c ≤ 9223372036854775807 := hcm
  clear hcm
  go_enter Try.func102, Try.ntmps102
  go_wp2_with fail
  go_loopw [6] (fun i wr => ∃ (k : Nat) (L' : List Int), 1 ≤ k ∧ k ≤ n ∧ i = .int .i64 k ∧ Hid (Own E1 wr B 3 (some ⟨g, 0, none⟩) n c L') ∧ Hid (L'.Perm L) ∧ Hid (UptoI L' k) ∧ Hid (w.grownBy wr (some g))) (fun i _ => n - (intOf i).toNat)
  case atStart => exact ⟨1, L, by omega, hn1, by go_num, hide h, hide (List.Perm.refl _), hide (uptoi_one _ (by omega)), hide (gb_refl _ _)⟩
  case round =>
    obtain ⟨k, L', hk1, hk, rfl, HO, HP, HU, HB⟩ := hrel
    by_cases hlt : k < n
    · go_wp2_with fail
      go_loopw [7] (fun j wr => ∃ (m : Nat) (M : List Int), m ≤ k ∧ j = .int .i64 m ∧ Hid (Own E1 wr B 3 (some ⟨g, 0, none⟩) n c M) ∧ Hid (M.Perm L) ∧ Hid (NearI M k m) ∧ Hid (w.grownBy wr (some g))) (fun j _ => (intOf j).toNat)
      case atStart => exact ⟨k, L', Nat.le_refl _, rfl, HO, HP, hide (neari_start HU.out), HB⟩
      case round =>
        clear HO HP HU HB
        obtain ⟨m, M, hm, rfl, HO, HP, HN, HB⟩ := hrel
        by_cases hm0 : m = 0
        · subst hm0
          have hd : decide ((0 : Nat) < 0) = false := by simp
          go_wp2_with fail
          go_quiet (fail)
          go_wp2_with fail
          go_roundw
          case rel => exact ⟨k + 1, M, by omega, by omega, by go_num, hide (HO.out.drewN _), HP, hide (neari_stop HN.out hm (.inl rfl)), hide (gb_drewN HB.out _)⟩
          case measure => simp [intOf]; omega
        · obtain ⟨m, rfl⟩ : ∃ m', m = m' + 1 := ⟨m - 1, by omega⟩
          have a1 := own1 HO.out (k := m + 1) (by omega)
          have b1 := own1 HO.out (k := m) (by omega)
          have hgr : g < wr.heap.size := Nat.lt_of_lt_of_le hgl HB.out.size
          have q1 : (0 : Int) < (m : Int) + 1 := by omega
          have q2 : (0 : Int) ≤ (m : Int) + 1 := by omega
          have q4 : (m : Int) + 1 < (n : Int) := by omega
          have q5 : (m : Int) < (n : Int) := by omega
          have q6 : ((m : Int) + 1).toNat = m + 1 := by omega
          have q3 : IntKind.i64.wrap ((m : Int) + 1 - 1) = (m : Int) := by rw [show (m : Int) + 1 - 1 = (m : Int) by omega]; exact IntWalk.i64_in _ (by omega)
          have q7 : IntKind.i64.wrap (m : Int) = (m : Int) := IntWalk.i64_in _ (by omega)
          have q8 : (0 : Int) ≤ (m : Int) := by omega
          generalize hx : gi M (m + 1) = x at *
          generalize hy : gi M m = y at *
          have HX := hide hx
          have HY := hide hy
          clear hx hy
          have HGS := hide (swi_gi (L := M) (j := m + 1) HX.out HY.out)
          have HPM := hide ((swi_perm (L := M) (j := m + 1) (by omega) (by rw [HO.out.len]; omega)).trans HP.out)
          by_cases hc : x < y
          · have HNS := hide (neari_swi HN.out (by omega) hm (by rw [HO.out.len]; omega) (by rw [HX.out, show m + 1 - 1 = m from rfl, HY.out]; exact hc))
            go_wp2_with fail
            go_quiet ((go_at_call 108; first | exact quiet_left (Less_any _ _ _) | exact quiet_add_left (Less_any _ _ _)))
            go_wp2_with fail
            have f1 := HO.out.frozen (m + 1)
            have f2 := HO.out.frozen m
            go_region
            all_goals
              go_wp2_with fail
              go_roundw
              case rel => exact ⟨m, swi M (m + 1), by omega, rfl, hide (by rw [HGS.out]; exact ((HO.out.drewN _).stored1 (by omega) y).stored1 (k := m) (by omega) x), HPM, HNS, hide (gb_set (gb_set (gb_drewN HB.out _) _ _) _ _)⟩
              case measure => simp [intOf]
          · have HNS := hide (neari_stop HN.out hm (.inr (by rw [HX.out, show m + 1 - 1 = m from rfl, HY.out]; omega)))
            have hc' : ¬ x < y := hc
            go_wp2_with fail
            go_quiet ((go_at_call 108; first | exact quiet_left (Less_any _ _ _) | exact quiet_add_left (Less_any _ _ _)))
            go_wp2_with fail
            go_roundw
            case rel => exact ⟨k + 1, M, by omega, by omega, by go_num, hide (HO.out.drewN _), HP, HNS, hide (gb_drewN HB.out _)⟩
            case measure => simp [intOf]; omega
    · obtain rfl : k = n := by omega
      go_wp2_with fail
      exact bodyPost_end (results_none rfl _ _ _) rfl ⟨L', rfl, HO.out, HP.out, HU.out, HB.out⟩

def SortPostA (B : Nat) (A : Option Addr) (n c : Nat) (L : List Int) (w : World) (e : Ending) (w' : World) : Prop :=
  ∃ L', e = .returned (.tuple #[]) ∧ Own E1 w' B 3 A n c L' ∧ L'.Perm L ∧ UptoI L' n ∧ w.grownBy w' (Value.slice A n c).ownBlock
set_option maxHeartbeats 1000000 in
theorem insI_zero (A : Option Addr) (c : Nat) (w : World) :
    Calls Try.prog 102 #[.slice A 0 c, .int .i64 0, .int .i64 0] w fun e w' => e = .returned (.tuple #[]) ∧ w = w' := by
  go_enter Try.func102, Try.ntmps102
  go_wp2_with fail
  go_loopw [6] (fun i wr => i = .int .i64 1 ∧ w = wr) (fun i _ => 0)
  case atStart => exact ⟨by go_num, rfl⟩
  case round =>
    obtain ⟨rfl, rfl⟩ := hrel
    go_wp2_with fail
    exact bodyPost_end (results_none rfl _ _ _) rfl ⟨rfl, rfl⟩
theorem insI_all (A : Option Addr) (n c : Nat) (L : List Int) (B : Nat) (w : World) (h : Own E1 w B 3 A n c L) (hn : n ≤ 12) :
    Calls Try.prog 102 #[.slice A n c, .int .i64 0, .int .i64 n] w (SortPostA B A n c L w) := by
  by_cases h0 : n = 0
  · subst h0
    refine (insI_zero A c w).mono ?_
    rintro e w' ⟨rfl, rfl⟩
    exact ⟨L, rfl, h, List.Perm.refl _, uptoi_one _ (by omega), gb_refl _ _⟩
  · obtain ⟨g, rfl, _⟩ := h.addr (by omega)
    exact insI_any g n c L B w h (by omega) hn
set_option maxRecDepth 100000 in
set_option maxHeartbeats 2000000 in
theorem pdq_any (A : Option Addr) (n c : Nat) (L : List Int) (B : Nat) (w : World) (lim : Int) (h : Own E1 w B 3 A n c L) (hn : n ≤ 12) :
    Calls Try.prog 92 #[.slice A n c, .int .i64 0, .int .i64 n, .int .i64 lim] w (SortPostA B A n c L w) := by
  go_enter Try.func92, Try.ntmps92
  go_wp2_with fail
  go_loopw [1, 2] (fun i j wr => i = .int .i64 0 ∧ j = .int .i64 n ∧ w = wr) (fun _ _ _ => 0)
  case atStart => exact ⟨rfl, rfl, rfl⟩
  case round =>
    obtain ⟨rfl, rfl, rfl⟩ := hrel
    have hle : (n : Int) ≤ 12 := by omega
    go_wp2_with (go_at_call 102; refine (insI_all A n c L B w h hn).mono ?_; rintro e w1 ⟨L', rfl, ho, hp, hu, hb⟩)
    exact bodyPost_ret (results_none rfl _ _ _) rfl ⟨L', rfl, ho, hp, hu, hb⟩
def SomeI (w : World) (e : Ending) (w' : World) : Prop := ∃ v : Int, e = .returned (.int .i64 v) ∧ w = w'
set_option maxRecDepth 100000 in
set_option maxHeartbeats 2000000 in
theorem Len64_any (n : Nat) (w : World) (hn : n ≤ 12) : Calls Try.prog 112 #[.int .u64 n] w (SomeI w) := by
  obtain rfl | rfl | rfl | rfl | rfl | rfl | rfl | rfl | rfl | rfl | rfl | rfl | rfl : n = 0 ∨ n = 1 ∨ n = 2 ∨ n = 3 ∨ n = 4 ∨ n = 5 ∨ n = 6 ∨ n = 7 ∨ n = 8 ∨ n = 9 ∨ n = 10 ∨ n = 11 ∨ n = 12 := by omega
  all_goals
    go_enter Try.func112, Try.ntmps112
    go_wp2_with fail
    go_ret
    exact ⟨_, rfl, rfl⟩
theorem Len_any (n : Nat) (w : World) (hn : n ≤ 12) : Calls Try.prog 93 #[.int .u64 n] w (SomeI w) := by
  go_enter Try.func93, Try.ntmps93
  go_wp2_with (go_at_call 112; refine (Len64_any _ _ hn).mono ?_; rintro e w1 ⟨v, rfl, rfl⟩)
  go_ret
  exact ⟨v, rfl, rfl⟩
theorem SortI_any (A : Option Addr) (n c : Nat) (L : List Int) (B : Nat) (w : World) (h : Own E1 w B 3 A n c L) (hn : n ≤ 12) :
    Calls Try.prog 70 #[.slice A n c] w (SortPostA B A n c L w) := by
  have hw : IntKind.u64.wrap (n : Int) = (n : Int) := IntWalk.u64_in _ (by omega)
  go_enter Try.func70, Try.ntmps70
  go_wp2_with (first
    | (go_at_call 93; refine (Len_any _ _ hn).mono ?_; rintro e w1 ⟨v, rfl, rfl⟩)
    | (go_at_call 92; refine (pdq_any A n c L B w _ h hn).mono ?_; rintro e w1 ⟨L', rfl, ho, hp, hu, hb⟩))
  exact bodyPost_end (results_none rfl _ _ _) rfl ⟨L', rfl, ho, hp, hu, hb⟩
end Go.Proofs.Ytpkjgnllkaafkaa
