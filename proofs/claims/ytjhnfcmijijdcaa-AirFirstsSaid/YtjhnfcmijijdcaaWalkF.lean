/- Walks of the hours of starts and of the cost of a plan (program). -/
import Derived.Test.YtjhnfcmijijdcaaWalkE
import Derived.Deep.RegionHeld3
import Derived.StillTailTactics
namespace Go.Proofs.Ytjhnfcmijijdcaa
open Go.RowKit

set_option maxHeartbeats 2000000 in
theorem pumped_any (P : Option Addr) (n pc : Nat) (ps : List Int) (w : World) (hP : Row w P n pc ps) (hn : n ≤ 12) :
    Calls Try.prog 65 #[.slice P n pc] w fun e w' =>
      ∃ A1 n1 c1, e = .returned (.slice A1 n1 c1) ∧ Own w' w.heap.size A1 n1 c1 (pumpL (pl ps) n) ∧ Below w.heap.size w w' := by
  obtain ⟨bp, offp, rp⟩ := hP
  have hcapp := rp.cap
  have hmaxp := rp.max
  have RP := hide rp
  clear rp
  go_enter Try.func65, Try.ntmps65
  go_wp2
  go_loopw [3, 8] (fun v i wr => ∃ (k m : Nat) (A1 : Option Addr) (c1 : Nat), k ≤ n ∧ i = .int .i64 k ∧ v = .slice A1 m c1 ∧ m ≤ k ∧ Own wr w.heap.size A1 m c1 (pumpL (pl ps) k) ∧ Below w.heap.size w wr) (fun _ i _ => n - (intOf i).toNat)
  case atStart => exact ⟨0, 0, none, 0, Nat.zero_le _, rfl, rfl, Nat.le_refl _, Own.nil _ _, Below.refl _ _⟩
  case round =>
    obtain ⟨k, m, A1, c1, hk, rfl, rfl, hm, hown, hb⟩ := hrel
    by_cases hlt : k < n
    · obtain rfl := RP.out.at_ (by omega)
      have cp := (RP.out.below hb (Nat.le_refl _)).cell k hlt
      rw [show ps.getD k 0 = pl ps k from rfl] at cp
      have HY := hide (fun h => pumpL_yes (p := pl ps) (k := k) h)
      have HN := hide (fun h => pumpL_no (p := pl ps) (k := k) h)
      generalize pl ps k = z at *
      have hsz := hb.size
      by_cases hz : 0 < z
      · go_wp2_with (at_builtin; refine wpList_app1 _ rfl (.tmp 15) (.tmp 17) rfl w.heap.size m c1 A1 _ _ rfl rfl hown (by omega) hsz ?_; intro A2 c2 w2 hown1 hb1 hg1)
        go_roundw
        case rel => exact ⟨k + 1, m + 1, A2, c2, by omega, by go_num, by go_num, by omega, by rw [HY.out hz]; exact hown1, hb.trans (hb1.mono (by omega))⟩
        case measure => simp [intOf]; omega
      · go_wp2
        go_roundw
        case rel => exact ⟨k + 1, m, A1, c1, by omega, by go_num, by go_num, by omega, by rw [HN.out hz]; exact hown, hb⟩
        case measure => simp [intOf]; omega
    · obtain rfl : k = n := by omega
      go_wp2
      go_ret
      exact ⟨A1, m, c1, rfl, hown, hb⟩

set_option maxHeartbeats 4000000 in
theorem cost_any (K h : Int) (A : Option Addr) (n c : Nat) (cs : List Int) (A' : Option Addr) (c' : Nat) (ds : List Int) (P : Option Addr) (pc : Nat) (ps : List Int) (w : World)
    (hT : Tin w A n c cs A' n c' ds) (hP : Row w P n pc ps) (ok : (tk K h cs ds).Ok n) (hp : PlanIn (pl ps) n) (hn1 : 1 ≤ n) (hn : n ≤ 12) :
    Calls Try.prog 57 #[.agg #[.int .i64 K, .int .i64 h, .slice A n c, .slice A' n c'], .slice P n pc] w fun e w' =>
      e = .returned (.int .i64 ((tk K h cs ds).cost (pl ps) n)) ∧ Below w.heap.size w w' := by
  have HT := hide hT
  have HPr := hide hP
  obtain ⟨b, off, r⟩ := hT.1
  obtain ⟨bp, offp, rp⟩ := hP
  obtain rfl := r.at_ (by omega)
  obtain rfl := rp.at_ (by omega)
  have hcap := r.cap
  have hmax := r.max
  have hcapp := rp.cap
  have hmaxp := rp.max
  have R := hide r
  have RP := hide rp
  have OK := hide ok
  have HP := hide hp
  have hK0 := ok.K0
  have hK1 := ok.K1
  replace hK0 : 0 ≤ K := hK0
  replace hK1 : K ≤ 999 := hK1
  clear hT r rp ok hp
  have B0 := hide ((Below.refl w.heap.size w).alloc (Nat.le_refl _) (.cells #[.int .i64 K, .int .i64 h, .slice (some ⟨b, off, none⟩) n c, .slice A' n c'] 24))
  have K0 := hide (Bk.born w 24 #[.int .i64 K, .int .i64 h, .slice (some ⟨b, off, none⟩) n c, .slice A' n c'])
  go_enter Try.func57, Try.ntmps57
  go_wp2_with fail
  have W0 : (w.alloc (.cells #[.int .i64 K, .int .i64 h, .slice (some ⟨b, off, none⟩) n c, .slice A' n c'] 24)).cell? ⟨w.heap.size, 0, none⟩ = some (.int .i64 K) := K0.out.four.1
  go_region_held3 (fun w' => w'.cell? ⟨w.heap.size, 0, none⟩ = some (.int .i64 K))
    (first
      | go_keep
      | (rw [b1.cell (by simp)]; assumption))
    (first
      | (go_at_call 65; refine (pumped_any _ _ _ ps _ ((HPr.out.alloc _).drewN 1) hn).mono ?_; rintro e w1 ⟨A1, n1, c1, rfl, o1, b1⟩))
  obtain rfl := o1.len
  have hpl := pumpL_len (pl ps) n
  have hbe := (tk K h cs ds).begs_len (pl ps) n
  have hbi := OK.out.begs_in (p := pl ps) (i := n)
  replace hbe : ((pumpL (pl ps) n).length : Int) * K = (tk K h cs ds).begs (pl ps) n := hbe
  have hw : IntKind.i64.wrap (((pumpL (pl ps) n).length : Int) * K) = (tk K h cs ds).begs (pl ps) n := by rw [hbe]; exact IntWalk.i64_in _ (by omega)
  rw [hw]
  have B1 := hide ((below_drewN B0.out 1).trans (b1.mono (by simp)))
  have K1 := hide ((K0.out.draws 1).keep b1 (by simp))
  clear hw hbe o1 b1 B0 K0 W0 hpl
  obtain ⟨k0, k1, k2, k3, _⟩ := K1.out.four
  go_wp2_with fail
  refine (stock_any K h _ n c cs _ c' ds _ pc ps _ (HT.out.below B1.out (Nat.le_refl _)) (HPr.out.below B1.out (Nat.le_refl _)) OK.out HP.out hn1 hn).mono ?_
  rintro e w2 ⟨A2, rfl, o2, b2⟩
  have B2 := hide (B1.out.trans (b2.mono B1.out.size))
  have K2 := hide (K1.out.keep b2 K1.out.in_)
  rcases o2.form with ⟨_, h0, _⟩ | ⟨g, rfl, hg1, hg2, _⟩
  · omega
  have O2 := hide o2
  have RB := hide (R.out.below B2.out (Nat.le_refl _))
  have RPB := hide (RP.out.below B2.out (Nat.le_refl _))
  clear o2 b2 B1 K1 k0 k1 k2 k3
  generalize hBE : (tk K h cs ds).begs (pl ps) n = be at *
  have HBE := hide hBE
  clear hBE
  go_wp2_with fail
  go_loopw [5, 18] (fun s i wr => ∃ k m : Nat, k ≤ n ∧ i = .int .i64 k ∧ s = .int .i64 (be + (tk K h cs ds).runs (pl ps) k) ∧ wr = w2.drewN m) (fun _ i _ => n - (intOf i).toNat)
  case atStart => exact ⟨0, 0, by omega, rfl, by simp [Tk.runs, sm], rfl⟩
  case round =>
    obtain ⟨k, m, hk, rfl, rfl, rfl⟩ := hrel
    by_cases hlt : k < n
    · have cd := RB.out.cell k hlt
      have cp := RPB.out.cell k hlt
      have cl := O2.out.cell hlt
      rw [← tk_c K h cs ds k] at cd
      rw [show ps.getD k 0 = pl ps k from rfl] at cp
      rw [Tk.stkL_get _ _ hlt] at cl
      have x0 := OK.out.cp_in HP.out hlt
      have x1 := OK.out.hs_in HP.out hn (i := k + 1) (by omega)
      have x2 := OK.out.runs_in HP.out hn (i := k) (by omega)
      replace x1 : -12000 ≤ h * (tk K h cs ds).stk (pl ps) (k + 1) ∧ h * (tk K h cs ds).stk (pl ps) (k + 1) ≤ 144000 := x1
      have HS := (tk K h cs ds).runs_succ (pl ps) k
      replace HS : (tk K h cs ds).runs (pl ps) (k + 1) = (tk K h cs ds).runs (pl ps) k + ((tk K h cs ds).c k * pl ps k + h * (tk K h cs ds).stk (pl ps) (k + 1)) := HS
      have HS := hide HS
      generalize (tk K h cs ds).runs (pl ps) k = x at *
      generalize (tk K h cs ds).stk (pl ps) (k + 1) = v at *
      generalize (tk K h cs ds).c k = y at *
      generalize pl ps k = z at *
      obtain ⟨k0, k1, k2, k3, _⟩ := K2.out.four
      have w1 : IntKind.i64.wrap (y * z) = y * z := IntWalk.i64_in _ (by omega)
      have w3 : IntKind.i64.wrap (h * v) = h * v := IntWalk.i64_in _ (by omega)
      have w4 : IntKind.i64.wrap (y * z + h * v) = y * z + h * v := IntWalk.i64_in _ (by omega)
      have w5 : IntKind.i64.wrap (be + x + (y * z + h * v)) = be + x + (y * z + h * v) := IntWalk.i64_in _ (by omega)
      have l2 : (k : Int) < n := by omega
      go_wp2_with fail
      go_quiet (fail)
      clear w1 w3 w4 w5
      go_wp2
      go_roundw
      case rel => exact ⟨k + 1, _, by omega, by go_num, by rw [HS.out]; go_num, rfl⟩
      case measure => simp [intOf]; omega
    · go_wp2_with fail
      go_ret
      obtain rfl : k = n := by omega
      exact ⟨ret_i64 (by rw [Tk.cost, HBE.out]), below_drewN B2.out _⟩

end Go.Proofs.Ytjhnfcmijijdcaa
