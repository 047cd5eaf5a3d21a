/- Sorting by insertion, by either comparison: the row is in order behind it, and holds the same. -/
import Derived.Test.YtpkjgnllkaafkaaWalkB
import Derived.Deep.RegionHeld3
import Derived.Deep.RegionWith
import Derived.Deep.RegionLaw
import Derived.IntWalk
namespace Go.Proofs.Ytpkjgnllkaafkaa
open Go.RowKit

theorem swp_gt {L : Ns} {j : Nat} {x y : Nm} (hx : gt L j = x) (hy : gt L (j - 1) = y) : swp L j = (L.set j y).set (j - 1) x := by unfold swp; rw [hx, hy]
theorem getD_set4 {L : Ns} {k : Nat} (hk : k < L.length) (y : Nm) : (L.set k y).getD k nm0 = y := by simp [List.getD_eq_getElem?_getD, hk]
theorem Own.addr {α : Type} {E : Enc α} {w : World} {B n c : Nat} {e : TypeId} {A : Option Addr} {xs : List α} (h : Own E w B e A n c xs) (hn : 1 ≤ n) : ∃ g, A = some ⟨g, 0, none⟩ ∧ B ≤ g ∧ g < w.heap.size ∧ n ≤ c ∧ c ≤ maxLen := by
  rcases h.form with ⟨_, h1, _⟩ | h
  · omega
  · exact h
theorem own4 {w : World} {B n c g : Nat} {e : TypeId} {L : Ns} (h : Own E4 w B e (some ⟨g, 0, none⟩) n c L) {k : Nat} (hk : k < n) : w.cell? ⟨g, k * 4, none⟩ = some (.int .i64 (gt L k).1) ∧ w.cell? ⟨g, k * 4 + 1, none⟩ = some (.int .i64 (gt L k).2.1) ∧ w.cell? ⟨g, k * 4 + 2, none⟩ = some (.int .i64 (gt L k).2.2.1) ∧ w.cell? ⟨g, k * 4 + 3, none⟩ = some (.int .i64 (gt L k).2.2.2) :=
  ⟨h.cell (j := 0) hk (by decide), h.cell (j := 1) hk (by decide), h.cell (j := 2) hk (by decide), h.cell (j := 3) hk (by decide)⟩
theorem Own.stored4 {w : World} {B n c g : Nat} {e : TypeId} {L : Ns} (h : Own E4 w B e (some ⟨g, 0, none⟩) n c L) {k : Nat} (hk : k < n) (a b p i : Int) :
    Own E4 ((((w.setCell ⟨g, k * 4, none⟩ (.int .i64 a)).setCell ⟨g, k * 4 + 1, none⟩ (.int .i64 b)).setCell ⟨g, k * 4 + 2, none⟩ (.int .i64 p)).setCell ⟨g, k * 4 + 3, none⟩ (.int .i64 i)) B e (some ⟨g, 0, none⟩) n c (L.set k (a, b, p, i)) := by
  have hl := h.len
  have h1 := h.stored (j := 0) hk (by decide) (.int .i64 a) (a, (gt L k).2.1, (gt L k).2.2.1, (gt L k).2.2.2) rfl
  have h2 := h1.stored (j := 1) hk (by decide) (.int .i64 b) (a, b, (gt L k).2.2.1, (gt L k).2.2.2) (by
    show _ = (E4.enc ((L.set k _).getD k nm0)).set 1 _
    rw [getD_set4 (by omega)]; rfl)
  have h3 := h2.stored (j := 2) hk (by decide) (.int .i64 p) (a, b, p, (gt L k).2.2.2) (by
    show _ = (E4.enc (((L.set k _).set k _).getD k nm0)).set 2 _
    rw [getD_set4 (by simp; omega)]; rfl)
  have h4 := h3.stored (j := 3) hk (by decide) (.int .i64 i) (a, b, p, i) (by
    show _ = (E4.enc ((((L.set k _).set k _).set k _).getD k nm0)).set 3 _
    rw [getD_set4 (by simp; omega)]; rfl)
  rw [List.set_set, List.set_set, List.set_set] at h4
  exact h4
/-- A row of its own holds the same in the order of a key. -/
def SortPost (key : Nm → Int) (B g n c : Nat) (L : Ns) (w : World) (e : Ending) (w' : World) : Prop :=
  ∃ L', e = .returned (.tuple #[]) ∧ Own E4 w' B 75 (some ⟨g, 0, none⟩) n c L' ∧ L'.Perm L ∧ Upto key L' n ∧ Below B w w'

set_option maxRecDepth 100000 in
set_option maxHeartbeats 3200000 in
theorem insFrom_any (g n c : Nat) (L : Ns) (B : Nat) (w : World) (h : Own E4 w B 75 (some ⟨g, 0, none⟩) n c L) (hn1 : 1 ≤ n) (hn : n ≤ 12) :
    Calls Try.prog 114 #[.slice (some ⟨g, 0, none⟩) n c, .int .i64 0, .int .i64 n, .func (.func 67) #[] #[]] w (SortPost kf B g n c L w) := by
  obtain ⟨_, hA, hBg, hgl, hnc, hcm⟩ := h.addr hn1
  injection hA with hA
  injection hA with hA
  subst hA
  have HL := hide h.len
  have hcm' : c ≤ 9223372036854775807 := hcm
  clear hcm
  go_enter Try.func114, Try.ntmps114
  go_wp2_with fail
  go_loopw [8] (fun i wr => ∃ (k : Nat) (L' : Ns), 1 ≤ k ∧ k ≤ n ∧ i = .int .i64 k ∧ Hid (Own E4 wr B 75 (some ⟨g, 0, none⟩) n c L') ∧ Hid (L'.Perm L) ∧ Hid (Upto kf L' k) ∧ Hid (Below B w wr)) (fun i _ => n - (intOf i).toNat)
  case atStart => exact ⟨1, L, by omega, hn1, by go_num, hide h, hide (List.Perm.refl _), hide (upto_one _ _ (by omega)), hide (Below.refl _ _)⟩
  case round =>
    obtain ⟨k, L', hk1, hk, rfl, HO, HP, HU, HB⟩ := hrel
    by_cases hlt : k < n
    · go_wp2_with fail
      go_loopw [9] (fun j wr => ∃ (m : Nat) (M : Ns), m ≤ k ∧ j = .int .i64 m ∧ Hid (Own E4 wr B 75 (some ⟨g, 0, none⟩) n c M) ∧ Hid (M.Perm L) ∧ Hid (Near kf M k m) ∧ Hid (Below B w wr)) (fun j _ => (intOf j).toNat)
      case atStart => exact ⟨k, L', Nat.le_refl _, rfl, HO, HP, hide (near_start HU.out), HB⟩
      case round =>
        clear HO HP HU HB
        obtain ⟨m, M, hm, rfl, HO, HP, HN, HB⟩ := hrel
        by_cases hm0 : m = 0
        · subst hm0
          have hd : decide ((0 : Nat) < 0) = false := by simp
          go_wp2_with fail
          go_quiet (fail)
          go_wp2_with fail
          go_roundw
          case rel => exact ⟨k + 1, M, by omega, by omega, by go_num, hide (HO.out.drewN _), HP, hide (near_stop HN.out hm (.inl rfl)), hide (below_drewN HB.out _)⟩
          case measure => simp [intOf]; omega
        · obtain ⟨m, rfl⟩ : ∃ m', m = m' + 1 := ⟨m - 1, by omega⟩
          obtain ⟨a1, a2, a3, a4⟩ := own4 HO.out (k := m + 1) (by omega)
          obtain ⟨b1, b2, b3, b4⟩ := own4 HO.out (k := m) (by omega)
          have hgr : g < wr.heap.size := Nat.lt_of_lt_of_le hgl HB.out.size
          have q1 : (0 : Int) < (m : Int) + 1 := by omega
          have q2 : (0 : Int) ≤ (m : Int) + 1 := by omega
          have q4 : (m : Int) + 1 < (n : Int) := by omega
          have q5 : (m : Int) < (n : Int) := by omega
          have q6 : ((m : Int) + 1).toNat = m + 1 := by omega
          have q3 : IntKind.i64.wrap ((m : Int) + 1 - 1) = (m : Int) := by rw [show (m : Int) + 1 - 1 = (m : Int) by omega]; exact IntWalk.i64_in _ (by omega)
          have q7 : IntKind.i64.wrap (m : Int) = (m : Int) := IntWalk.i64_in _ (by omega)
          have q8 : (0 : Int) ≤ (m : Int) := by omega
          generalize hx : gt M (m + 1) = x at *
          generalize hy : gt M m = y at *
          have HX := hide hx
          have HY := hide hy
          clear hx hy
          obtain ⟨x1, x2, x3, x4⟩ := x
          obtain ⟨y1, y2, y3, y4⟩ := y
          simp only at a1 a2 a3 a4 b1 b2 b3 b4
          have HGS := hide (swp_gt (L := M) (j := m + 1) HX.out HY.out)
          have HPM := hide ((swp_perm (L := M) (j := m + 1) (by omega) (by rw [HO.out.len]; omega)).trans HP.out)
          by_cases hc : x1 < y1
          · have hcc := cmpI_neg hc
            have HNS := hide (near_swp HN.out (by omega) hm (by rw [HO.out.len]; omega) (by rw [HX.out, show m + 1 - 1 = m from rfl, HY.out]; exact hc))
            go_wp2_with fail
            go_region_held3 (fun w' => w'.cell? ⟨g, (m + 1) * 4, none⟩ = some (.int .i64 x1) ∧ w'.cell? ⟨g, (m + 1) * 4 + 1, none⟩ = some (.int .i64 x2) ∧ w'.cell? ⟨g, (m + 1) * 4 + 2, none⟩ = some (.int .i64 x3) ∧ w'.cell? ⟨g, (m + 1) * 4 + 3, none⟩ = some (.int .i64 x4) ∧ w'.cell? ⟨g, m * 4, none⟩ = some (.int .i64 y1) ∧ w'.cell? ⟨g, m * 4 + 1, none⟩ = some (.int .i64 y2) ∧ w'.cell? ⟨g, m * 4 + 2, none⟩ = some (.int .i64 y3) ∧ w'.cell? ⟨g, m * 4 + 3, none⟩ = some (.int .i64 y4))
              (first
                | go_keep
                | (go_split_ands
                   refine ⟨?_, ?_, ?_, ?_, ?_, ?_, ?_, ?_⟩ <;> (rw [hb8.cell (by simp; omega)]; assumption)))
              (first
                | (go_at_call 67; refine (cmpFrom_any _ _ _ _ _ _ _ _ _).mono ?_; rintro e8 w8 ⟨rfl, hb8⟩))
            all_goals
              have HO8 := hide ((HO.out.drewN 1).below hb8 (Nat.le_refl _))
              have HB8 := hide ((below_drewN HB.out 1).trans (hb8.mono (by simp; omega)))
              have hg8 : g < w8.heap.size := Nat.lt_of_lt_of_le hgr hb8.size
              clear a1 a2 a3 a4 b1 b2 b3 b4 hb8
              obtain ⟨a1, a2, a3, a4⟩ := own4 HO8.out (k := m + 1) (by omega)
              obtain ⟨b1, b2, b3, b4⟩ := own4 HO8.out (k := m) (by omega)
              have f1 := HO8.out.frozen ((m + 1) * 4)
              have f2 := HO8.out.frozen ((m + 1) * 4 + 1)
              have f3 := HO8.out.frozen ((m + 1) * 4 + 2)
              have f4 := HO8.out.frozen ((m + 1) * 4 + 3)
              have f5 := HO8.out.frozen (m * 4)
              have f6 := HO8.out.frozen (m * 4 + 1)
              have f7 := HO8.out.frozen (m * 4 + 2)
              have f8 := HO8.out.frozen (m * 4 + 3)
              rw [HX.out] at a1 a2 a3 a4
              rw [HY.out] at b1 b2 b3 b4
              simp only at a1 a2 a3 a4 b1 b2 b3 b4
              go_wp2_with fail
              go_region
              all_goals
                go_wp2_with fail
                go_roundw
                case rel => exact ⟨m, swp M (m + 1), by omega, rfl, hide (by rw [HGS.out]; exact ((HO8.out.stored4 (by omega) y1 y2 y3 y4).stored4 (k := m) (by omega) x1 x2 x3 x4).drew), HPM, HNS, hide ((((((((HB8.out.setCell hBg _).setCell hBg _).setCell hBg _).setCell hBg _).setCell hBg _).setCell hBg _).setCell hBg _).setCell hBg _).drew⟩
                case measure => simp [intOf]
          · have hcc := cmpI_nneg (a := x1) (b := y1) (by omega)
            have HNS := hide (near_stop HN.out hm (.inr (by rw [HX.out, show m + 1 - 1 = m from rfl, HY.out]; show y1 ≤ x1; omega)))
            go_wp2_with fail
            go_region_held3 (fun w' => w'.cell? ⟨g, (m + 1) * 4, none⟩ = some (.int .i64 x1) ∧ w'.cell? ⟨g, (m + 1) * 4 + 1, none⟩ = some (.int .i64 x2) ∧ w'.cell? ⟨g, (m + 1) * 4 + 2, none⟩ = some (.int .i64 x3) ∧ w'.cell? ⟨g, (m + 1) * 4 + 3, none⟩ = some (.int .i64 x4) ∧ w'.cell? ⟨g, m * 4, none⟩ = some (.int .i64 y1) ∧ w'.cell? ⟨g, m * 4 + 1, none⟩ = some (.int .i64 y2) ∧ w'.cell? ⟨g, m * 4 + 2, none⟩ = some (.int .i64 y3) ∧ w'.cell? ⟨g, m * 4 + 3, none⟩ = some (.int .i64 y4))
              (first
                | go_keep
                | (go_split_ands
                   refine ⟨?_, ?_, ?_, ?_, ?_, ?_, ?_, ?_⟩ <;> (rw [hb8.cell (by simp; omega)]; assumption)))
              (first
                | (go_at_call 67; refine (cmpFrom_any _ _ _ _ _ _ _ _ _).mono ?_; rintro e8 w8 ⟨rfl, hb8⟩))
            all_goals
              have HO8 := hide ((HO.out.drewN 1).below hb8 (Nat.le_refl _))
              have HB8 := hide ((below_drewN HB.out 1).trans (hb8.mono (by simp; omega)))
              clear hb8
              go_wp2_with fail
              go_roundw
              case rel => exact ⟨k + 1, M, by omega, by omega, by go_num, HO8, HP, HNS, HB8⟩
              case measure => simp [intOf]; omega
    · obtain rfl : k = n := by omega
      go_wp2_with fail
      exact bodyPost_end (results_none rfl _ _ _) rfl ⟨L', rfl, HO.out, HP.out, HU.out, HB.out⟩

set_option maxRecDepth 100000 in
set_option maxHeartbeats 3200000 in
theorem insTo_any (g n c : Nat) (L : Ns) (B : Nat) (w : World) (h : Own E4 w B 75 (some ⟨g, 0, none⟩) n c L) (hn1 : 1 ≤ n) (hn : n ≤ 12) :
    Calls Try.prog 114 #[.slice (some ⟨g, 0, none⟩) n c, .int .i64 0, .int .i64 n, .func (.func 96) #[] #[]] w (SortPost kt B g n c L w) := by
  obtain ⟨_, hA, hBg, hgl, hnc, hcm⟩ := h.addr hn1
  injection hA with hA
  injection hA with hA
  subst hA
  have HL := hide h.len
  have hcm' : c ≤ 9223372036854775807 := hcm
  clear hcm
  go_enter Try.func114, Try.ntmps114
  go_wp2_with fail
  go_loopw [8] (fun i wr => ∃ (k : Nat) (L' : Ns), 1 ≤ k ∧ k ≤ n ∧ i = .int .i64 k ∧ Hid (Own E4 wr B 75 (some ⟨g, 0, none⟩) n c L') ∧ Hid (L'.Perm L) ∧ Hid (Upto kt L' k) ∧ Hid (Below B w wr)) (fun i _ => n - (intOf i).toNat)
  case atStart => exact ⟨1, L, by omega, hn1, by go_num, hide h, hide (List.Perm.refl _), hide (upto_one _ _ (by omega)), hide (Below.refl _ _)⟩
  case round =>
    obtain ⟨k, L', hk1, hk, rfl, HO, HP, HU, HB⟩ := hrel
    by_cases hlt : k < n
    · go_wp2_with fail
      go_loopw [9] (fun j wr => ∃ (m : Nat) (M : Ns), m ≤ k ∧ j = .int .i64 m ∧ Hid (Own E4 wr B 75 (some ⟨g, 0, none⟩) n c M) ∧ Hid (M.Perm L) ∧ Hid (Near kt M k m) ∧ Hid (Below B w wr)) (fun j _ => (intOf j).toNat)
      case atStart => exact ⟨k, L', Nat.le_refl _, rfl, HO, HP, hide (near_start HU.out), HB⟩
      case round =>
        clear HO HP HU HB
        obtain ⟨m, M, hm, rfl, HO, HP, HN, HB⟩ := hrel
        by_cases hm0 : m = 0
        · subst hm0
          have hd : decide ((0 : Nat) < 0) = false := by simp
          go_wp2_with fail
          go_quiet (fail)
          go_wp2_with fail
          go_roundw
          case rel => exact ⟨k + 1, M, by omega, by omega, by go_num, hide (HO.out.drewN _), HP, hide (near_stop HN.out hm (.inl rfl)), hide (below_drewN HB.out _)⟩
          case measure => simp [intOf]; omega
        · obtain ⟨m, rfl⟩ : ∃ m', m = m' + 1 := ⟨m - 1, by omega⟩
          obtain ⟨a1, a2, a3, a4⟩ := own4 HO.out (k := m + 1) (by omega)
          obtain ⟨b1, b2, b3, b4⟩ := own4 HO.out (k := m) (by omega)
          have hgr : g < wr.heap.size := Nat.lt_of_lt_of_le hgl HB.out.size
          have q1 : (0 : Int) < (m : Int) + 1 := by omega
          have q2 : (0 : Int) ≤ (m : Int) + 1 := by omega
          have q4 : (m : Int) + 1 < (n : Int) := by omega
          have q5 : (m : Int) < (n : Int) := by omega
          have q6 : ((m : Int) + 1).toNat = m + 1 := by omega
          have q3 : IntKind.i64.wrap ((m : Int) + 1 - 1) = (m : Int) := by rw [show (m : Int) + 1 - 1 = (m : Int) by omega]; exact IntWalk.i64_in _ (by omega)
          have q7 : IntKind.i64.wrap (m : Int) = (m : Int) := IntWalk.i64_in _ (by omega)
          have q8 : (0 : Int) ≤ (m : Int) := by omega
          generalize hx : gt M (m + 1) = x at *
          generalize hy : gt M m = y at *
          have HX := hide hx
          have HY := hide hy
          clear hx hy
          obtain ⟨x1, x2, x3, x4⟩ := x
          obtain ⟨y1, y2, y3, y4⟩ := y
          simp only at a1 a2 a3 a4 b1 b2 b3 b4
          have HGS := hide (swp_gt (L := M) (j := m + 1) HX.out HY.out)
          have HPM := hide ((swp_perm (L := M) (j := m + 1) (by omega) (by rw [HO.out.len]; omega)).trans HP.out)
          by_cases hc : x2 < y2
          · have hcc := cmpI_neg hc
            have HNS := hide (near_swp HN.out (by omega) hm (by rw [HO.out.len]; omega) (by rw [HX.out, show m + 1 - 1 = m from rfl, HY.out]; exact hc))
            go_wp2_with fail
            go_region_held3 (fun w' => w'.cell? ⟨g, (m + 1) * 4, none⟩ = some (.int .i64 x1) ∧ w'.cell? ⟨g, (m + 1) * 4 + 1, none⟩ = some (.int .i64 x2) ∧ w'.cell? ⟨g, (m + 1) * 4 + 2, none⟩ = some (.int .i64 x3) ∧ w'.cell? ⟨g, (m + 1) * 4 + 3, none⟩ = some (.int .i64 x4) ∧ w'.cell? ⟨g, m * 4, none⟩ = some (.int .i64 y1) ∧ w'.cell? ⟨g, m * 4 + 1, none⟩ = some (.int .i64 y2) ∧ w'.cell? ⟨g, m * 4 + 2, none⟩ = some (.int .i64 y3) ∧ w'.cell? ⟨g, m * 4 + 3, none⟩ = some (.int .i64 y4))
              (first
                | go_keep
                | (go_split_ands
                   refine ⟨?_, ?_, ?_, ?_, ?_, ?_, ?_, ?_⟩ <;> (rw [hb8.cell (by simp; omega)]; assumption)))
              (first
                | (go_at_call 96; refine (cmpTo_any _ _ _ _ _ _ _ _ _).mono ?_; rintro e8 w8 ⟨rfl, hb8⟩))
            all_goals
              have HO8 := hide ((HO.out.drewN 1).below hb8 (Nat.le_refl _))
              have HB8 := hide ((below_drewN HB.out 1).trans (hb8.mono (by simp; omega)))
              have hg8 : g < w8.heap.size := Nat.lt_of_lt_of_le hgr hb8.size
              clear a1 a2 a3 a4 b1 b2 b3 b4 hb8
              obtain ⟨a1, a2, a3, a4⟩ := own4 HO8.out (k := m + 1) (by omega)
              obtain ⟨b1, b2, b3, b4⟩ := own4 HO8.out (k := m) (by omega)
              have f1 := HO8.out.frozen ((m + 1) * 4)
              have f2 := HO8.out.frozen ((m + 1) * 4 + 1)
              have f3 := HO8.out.frozen ((m + 1) * 4 + 2)
              have f4 := HO8.out.frozen ((m + 1) * 4 + 3)
              have f5 := HO8.out.frozen (m * 4)
              have f6 := HO8.out.frozen (m * 4 + 1)
              have f7 := HO8.out.frozen (m * 4 + 2)
              have f8 := HO8.out.frozen (m * 4 + 3)
              rw [HX.out] at a1 a2 a3 a4
              rw [HY.out] at b1 b2 b3 b4
              simp only at a1 a2 a3 a4 b1 b2 b3 b4
              go_wp2_with fail
              go_region
              all_goals
                go_wp2_with fail
                go_roundw
                case rel => exact ⟨m, swp M (m + 1), by omega, rfl, hide (by rw [HGS.out]; exact ((HO8.out.stored4 (by omega) y1 y2 y3 y4).stored4 (k := m) (by omega) x1 x2 x3 x4).drew), HPM, HNS, hide ((((((((HB8.out.setCell hBg _).setCell hBg _).setCell hBg _).setCell hBg _).setCell hBg _).setCell hBg _).setCell hBg _).setCell hBg _).drew⟩
                case measure => simp [intOf]
          · have hcc := cmpI_nneg (a := x2) (b := y2) (by omega)
            have HNS := hide (near_stop HN.out hm (.inr (by rw [HX.out, show m + 1 - 1 = m from rfl, HY.out]; show y2 ≤ x2; omega)))
            go_wp2_with fail
            go_region_held3 (fun w' => w'.cell? ⟨g, (m + 1) * 4, none⟩ = some (.int .i64 x1) ∧ w'.cell? ⟨g, (m + 1) * 4 + 1, none⟩ = some (.int .i64 x2) ∧ w'.cell? ⟨g, (m + 1) * 4 + 2, none⟩ = some (.int .i64 x3) ∧ w'.cell? ⟨g, (m + 1) * 4 + 3, none⟩ = some (.int .i64 x4) ∧ w'.cell? ⟨g, m * 4, none⟩ = some (.int .i64 y1) ∧ w'.cell? ⟨g, m * 4 + 1, none⟩ = some (.int .i64 y2) ∧ w'.cell? ⟨g, m * 4 + 2, none⟩ = some (.int .i64 y3) ∧ w'.cell? ⟨g, m * 4 + 3, none⟩ = some (.int .i64 y4))
              (first
                | go_keep
                | (go_split_ands
                   refine ⟨?_, ?_, ?_, ?_, ?_, ?_, ?_, ?_⟩ <;> (rw [hb8.cell (by simp; omega)]; assumption)))
              (first
                | (go_at_call 96; refine (cmpTo_any _ _ _ _ _ _ _ _ _).mono ?_; rintro e8 w8 ⟨rfl, hb8⟩))
            all_goals
              have HO8 := hide ((HO.out.drewN 1).below hb8 (Nat.le_refl _))
              have HB8 := hide ((below_drewN HB.out 1).trans (hb8.mono (by simp; omega)))
              clear hb8
              go_wp2_with fail
              go_roundw
              case rel => exact ⟨k + 1, M, by omega, by omega, by go_num, HO8, HP, HNS, HB8⟩
              case measure => simp [intOf]; omega
    · obtain rfl : k = n := by omega
      go_wp2_with fail
      exact bodyPost_end (results_none rfl _ _ _) rfl ⟨L', rfl, HO.out, HP.out, HU.out, HB.out⟩

end Go.Proofs.Ytpkjgnllkaafkaa
