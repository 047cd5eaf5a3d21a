/- The walk of HazeBlocks. -/
import Derived.Test.YtlmmkaadoicogaaWalkBd
namespace Go.Proofs.Ytlmmkaadoicogaa
open Go.RowKit

theorem errM_in {xs : Rd} (he : errH xs = 0) {a b : Nat} (h1 : a ≤ b) (h2 : b < xs.length) : errM xs a b = 0 := by
  have i1 : inH xs.length (a : Int) = true := inH_iff.2 ⟨by omega, by omega⟩
  have i2 : inH xs.length (b : Int) = true := inH_iff.2 ⟨by omega, by omega⟩
  unfold errM errV
  simp [he, i1, i2]
  omega
theorem meanOr_in {xs : Rd} (he : errH xs = 0) {a b : Nat} (h1 : a ≤ b) (h2 : b < xs.length) : meanOr xs a b = (nu (mq xs a b), de (mq xs a b)) := by
  unfold meanOr
  rw [if_pos (errM_in he h1 h2)]
  rfl

set_option maxHeartbeats 4000000 in
theorem HazeBlocks_walk (A : Option Addr) (n c : Nat) (xs : Rd) (w : World) (h : Row w A n c xs) :
    Calls Try.prog 5 #[.slice A n c] w fun e w' => e = .returned (.bool true) ∧ Below w.heap.size w w' := by
  have HR := hide h
  have HL := hide h.length
  by_cases hn : 100 < n
  · clear h
    go_enter Try.func5, Try.ntmps5
    go_wp2_with (first | (go_at_call 18; refine (Long_yes _ _ _ _ hn).mono ?_; rintro e w' ⟨rfl, rfl⟩) | (go_at_call 19; refine (known_any _).mono ?_; rintro e w1 ⟨rfl, hb⟩))
    go_ret
    exact ⟨rfl, hb⟩
  have hn' : n ≤ 100 := by omega
  clear h hn
  go_enter Try.func5, Try.ntmps5
  go_wp2_with fail
  refine (Long_no _ _ _ _ hn').mono ?_
  rintro e w' ⟨rfl, rfl⟩
  go_wp2_with fail
  refine (Blocks_any _ _ _ xs _ HR.out (by omega)).mono ?_
  rintro e w1 ⟨A1, m1, c1, rfl, o1, b1⟩
  have B1 := hide b1
  have R1 := hide o1.row
  clear b1 o1
  go_wp2_with fail
  refine (rBlocks_any _ _ _ xs _ (HR.out.below B1.out (Nat.le_refl _)) (by omega)).mono ?_
  rintro e w2 ⟨A2, m2, c2, rfl, o2, b2⟩
  have B2 := hide (B1.out.trans (b2.mono B1.out.size))
  have S1 := hide (R1.out.below b2 (Nat.le_refl _))
  have S2 := hide o2.row
  clear b2 o2
  obtain rfl : m1 = m2 := by rw [← S1.out.length, ← S2.out.length]
  have eself : (errH xs != errH xs) = false := by simp
  by_cases he : errH xs = 0
  case neg =>
    have hz : m1 = 0 := by rw [← S1.out.length, if_neg he]; rfl
    subst hz
    clear he
    go_wp2_with fail
    go_loopw [7] (fun i wr => i = .int .i64 0 ∧ wr = w2) (fun i _ => 0)
    case atStart => exact ⟨rfl, rfl⟩
    case round =>
      obtain ⟨rfl, rfl⟩ := hrel
      go_wp2_with fail
      refine (known_any _).mono ?_
      rintro e wz ⟨rfl, bz⟩
      go_wp2_with fail
      go_ret
      exact ⟨rfl, B2.out.trans (bz.mono B2.out.size)⟩
  rw [if_pos he] at S1 S2
  have HE := hide he
  obtain ⟨_, e2, e3⟩ := errH_zero he
  have O := hide e3
  rw [HL.out] at e2
  have HMN := hide (fun k (hk : k < m1) => blocks_mean e3 (k := k) (by rw [S1.out.length]; exact hk))
  clear he e3 eself
  rw [HE.out]
  go_wp2_with fail
  go_loopw [7] (fun i wr => ∃ k : Nat, k ≤ m1 ∧ i = .int .i64 k ∧ Below w2.heap.size w2 wr) (fun i _ => m1 - (intOf i).toNat)
  case atStart => exact ⟨0, by omega, rfl, Below.refl _ _⟩
  case round =>
    obtain ⟨k, hk, rfl, hbel⟩ := hrel
    have HB := hide hbel
    clear hbel
    by_cases hlt : k < m1
    · obtain ⟨a, b, hab, hbl, hget⟩ := HMN.out k hlt
      obtain ⟨x1, y1, z1⟩ := S1.out
      obtain ⟨x2, y2, z2⟩ := S2.out
      obtain rfl := z1.at_ (by omega)
      obtain rfl := z2.at_ (by omega)
      have q1 := z1.cap
      have q2 := z1.max
      have q3 := z2.cap
      have q4 := z2.max
      have u1 := z1.below HB.out (Nat.le_refl _)
      have u2 := z2.below HB.out (Nat.le_refl _)
      obtain ⟨c0, c1', c2', c3⟩ := u1.cell k hlt
      obtain ⟨d0, d1, d2, d3⟩ := u2.cell k hlt
      have s1 := u1.lt (by omega)
      have s2 := u2.lt (by omega)
      rw [hget] at c0 c1' c2' c3 d0 d1 d2 d3
      simp only at c0 c1' c2' c3 d0 d1 d2 d3
      have HMV := hide (fun W (hW : Row W A n c xs) => Mean_any A n c xs (a : Int) (b : Int) W hW (by omega))
      rw [errM_in HE.out hab hbl, meanOr_in HE.out hab hbl] at HMV
      have BW := hide (B2.out.trans (HB.out.mono B2.out.size))
      have U1 := hide u1
      have U2 := hide u2
      have HGET := hide hget
      clear z1 z2 u1 u2 hget hab hbl
      generalize nu (mq xs a b) = p at *
      generalize de (mq xs a b) = q at *
      have l2 : (k : Int) < m1 := by omega
      go_wp2_with fail
      go_region_law (first
        | (go_simp; go_at_call 20; refine (HMV.out _ (HR.out.below (BW.out.alloc BW.out.size (.cells #[.int .i64 0, .int .i64 0] 26)).drew (Nat.le_refl _))).mono ?_; rintro e8 w8 ⟨rfl, hb8⟩; have KB := hide ((Bk.born wr 26 #[.int .i64 0, .int .i64 0]).draw.keep hb8 (by simp)); have B8 := hide (((Below.refl wr.heap.size wr).alloc (Nat.le_refl _) (.cells #[.int .i64 0, .int .i64 0] 26)).drew.trans (hb8.mono (by simp))); obtain ⟨zz0, zz1, f0, f1, _⟩ := KB.out.two; clear hb8)
        | (go_simp; go_at_call 20; refine (HMV.out _ (HR.out.below BW.out.drew (Nat.le_refl _))).mono ?_; rintro e8 w8 ⟨rfl, hb8⟩; have B8 := hide ((Below.refl wr.heap.size wr).drew.trans (hb8.mono (Nat.le_refl _))); have s8 := hb8.size; clear hb8))
      all_goals
        first
          | (have K9 := hide (KB.out.set2 (x' := .int .i64 p) (y' := .int .i64 q))
             have B9 := hide ((B8.out.setCell (p := ⟨wr.heap.size, 0, none⟩) (Nat.le_refl _) (.int .i64 p)).setCell (p := ⟨wr.heap.size, 1, none⟩) (Nat.le_refl _) (.int .i64 q))
             clear KB zz0 zz1 f0 f1
             have V1 := U1.out.below B9.out (Nat.le_refl _)
             have V2 := U2.out.below B9.out (Nat.le_refl _)
             clear c0 c1' c2' c3 d0 d1 d2 d3
             obtain ⟨c0, c1', c2', c3⟩ := V1.cell k hlt
             obtain ⟨d0, d1, d2, d3⟩ := V2.cell k hlt
             obtain ⟨k0, k1, _, _, _⟩ := K9.out.two
             rw [HGET.out] at c0 c1' c2' c3 d0 d1 d2 d3
             simp only at c0 c1' c2' c3 d0 d1 d2 d3
             clear V1 V2
             go_wp2_with fail
             go_quiet (fail)
             go_wp2_with fail
             go_roundw
             case rel => exact ⟨k + 1, by omega, by go_num, below_drewN (HB.out.trans (B9.out.mono HB.out.size)) _⟩
             case measure => simp [intOf]; omega)
          | (have K9 := hide (Bk.born w8 26 #[.int .i64 p, .int .i64 q])
             have B9 := hide (B8.out.alloc s8 (.cells #[.int .i64 p, .int .i64 q] 26))
             have V1 := U1.out.below B9.out (Nat.le_refl _)
             have V2 := U2.out.below B9.out (Nat.le_refl _)
             clear c0 c1' c2' c3 d0 d1 d2 d3
             obtain ⟨c0, c1', c2', c3⟩ := V1.cell k hlt
             obtain ⟨d0, d1, d2, d3⟩ := V2.cell k hlt
             obtain ⟨k0, k1, _, _, _⟩ := K9.out.two
             rw [HGET.out] at c0 c1' c2' c3 d0 d1 d2 d3
             simp only at c0 c1' c2' c3 d0 d1 d2 d3
             clear V1 V2
             go_wp2_with fail
             go_quiet (fail)
             go_wp2_with fail
             go_roundw
             case rel => exact ⟨k + 1, by omega, by go_num, below_drewN (HB.out.trans (B9.out.mono HB.out.size)) _⟩
             case measure => simp [intOf]; omega)
    · obtain rfl : k = m1 := by omega
      go_wp2_with fail
      refine (known_any _).mono ?_
      rintro e wz ⟨rfl, bz⟩
      go_wp2_with fail
      go_ret
      exact ⟨rfl, (B2.out.trans (HB.out.mono B2.out.size)).trans (bz.mono (B2.out.trans (HB.out.mono B2.out.size)).size)⟩

end Go.Proofs.Ytlmmkaadoicogaa
