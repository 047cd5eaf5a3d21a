/- Walks of the document's own stock, errors and cost of a plan. -/
import Derived.Test.YtjhnfcmijijdcaaWalkH
namespace Go.Proofs.Ytjhnfcmijijdcaa
open Go.RowKit

set_option maxHeartbeats 2000000 in
theorem rstock_any (K h : Int) (A : Option Addr) (n c : Nat) (cs : List Int) (A' : Option Addr) (c' : Nat) (ds : List Int) (P : Option Addr) (pc : Nat) (ps : List Int) (w : World)
    (hT : Tin w A n c cs A' n c' ds) (hP : Row w P n pc ps) (ok : (tk K h cs ds).Ok n) (hp : PlanIn (pl ps) n) (hn1 : 1 ≤ n) (hn : n ≤ 12) :
    Calls Try.prog 64 #[.agg #[.int .i64 K, .int .i64 h, .slice A n c, .slice A' n c'], .slice P n pc] w fun e w' =>
      ∃ A1 c1, e = .returned (.slice A1 n c1) ∧ Own w' w.heap.size A1 n c1 ((tk K h cs ds).stkL (pl ps) n) ∧ Below w.heap.size w w' := by
  obtain ⟨b, off, r⟩ := hT.2
  obtain ⟨bp, offp, rp⟩ := hP
  obtain rfl := r.at_ (by omega)
  obtain rfl := rp.at_ (by omega)
  have hcap := r.cap
  have hmax := r.max
  have hcapp := rp.cap
  have hmaxp := rp.max
  have R := hide r
  have RP := hide rp
  have OK := hide ok
  have HP := hide hp
  clear hT r rp ok hp
  have B0 := hide ((Below.refl w.heap.size w).alloc (Nat.le_refl _) (.cells #[.int .i64 K, .int .i64 h, .slice A n c, .slice (some ⟨b, off, none⟩) n c'] 24))
  have K0 := hide (Bk.born w 24 #[.int .i64 K, .int .i64 h, .slice A n c, .slice (some ⟨b, off, none⟩) n c'])
  go_enter Try.func64, Try.ntmps64
  go_wp2_with fail
  go_loopw [5, 6, 7] (fun v s i wr => ∃ (k : Nat) (A1 : Option Addr) (c1 : Nat), k ≤ n ∧ i = .int .i64 k ∧ s = .int .i64 ((tk K h cs ds).stk (pl ps) k) ∧ v = .slice A1 k c1 ∧ Own wr (w.heap.size + 1) A1 k c1 ((tk K h cs ds).stkL (pl ps) k) ∧
      Bk wr w.heap.size 24 #[.int .i64 K, .int .i64 h, .slice A n c, .slice (some ⟨b, off, none⟩) n c'] ∧ Below w.heap.size w wr) (fun _ _ i _ => n - (intOf i).toNat)
  case atStart => exact ⟨0, none, 0, by omega, rfl, rfl, rfl, Own.nil _ _, K0.out, B0.out⟩
  case round =>
    obtain ⟨k, A1, c1, hk, rfl, rfl, rfl, ho, hb, hbel⟩ := hrel
    by_cases hlt : k < n
    · have d0 := OK.out.d0 k hlt
      have d1 := OK.out.d1 k hlt
      have p0 := HP.out k hlt
      have q0 := OK.out.stk_in HP.out hn (i := k) (by omega)
      have q1 := OK.out.stk_in HP.out hn (i := k + 1) (by omega)
      have HS := hide ((tk K h cs ds).stk_succ (pl ps) k)
      have HL := hide ((tk K h cs ds).stkL_succ (pl ps) k)
      have cd := (R.out.below hbel (Nat.le_refl _)).cell k hlt
      have cp := (RP.out.below hbel (Nat.le_refl _)).cell k hlt
      rw [← tk_d K h cs ds k] at cd
      rw [show ps.getD k 0 = pl ps k from rfl] at cp
      rw [HS.out] at q1
      have HL := hide (HL.out.trans (by rw [HS.out]))
      generalize hx : (tk K h cs ds).stk (pl ps) k = x at *
      have HX := hide hx
      clear hx
      generalize (tk K h cs ds).d k = y at *
      generalize pl ps k = z at *
      obtain ⟨k0, k1, k2, k3, _⟩ := hb.four
      have HO := hide ho
      have HB := hide hb
      have HBL := hide hbel
      clear ho hb hbel
      have w1 : IntKind.i64.wrap (z - y) = z - y := IntWalk.i64_in _ (by omega)
      have w2 : IntKind.i64.wrap (x + (z - y)) = x + (z - y) := IntWalk.i64_in _ (by omega)
      have l2 : (k : Int) < n := by omega
      go_wp2_with fail
      go_quiet (fail)
      clear w1 w2
      have hsz : w.heap.size + 1 ≤ (wr.drewN nq).heap.size := HB.out.in_
      go_wp2_with (at_builtin; refine wpList_app1 _ rfl (.tmp 26) (.tmp 28) rfl (w.heap.size + 1) k c1 A1 _ _ rfl rfl (HO.out.drewN _) (by omega) hsz ?_; intro A2 c2 w2 hown1 hb1 hg1)
      go_roundw
      case rel => exact ⟨k + 1, A2, c2, by omega, by go_num, by rw [HS.out], by go_num, by rw [HL.out]; exact hown1, (HB.out.draws _).keep hb1 (by omega), (below_drewN HBL.out _).trans (hb1.mono (by omega))⟩
      case measure => simp [intOf]; omega
    · go_wp2_with fail
      go_ret
      obtain rfl : k = n := by omega
      exact ⟨_, _, rfl, ho.more (by omega), hbel⟩

end Go.Proofs.Ytjhnfcmijijdcaa
