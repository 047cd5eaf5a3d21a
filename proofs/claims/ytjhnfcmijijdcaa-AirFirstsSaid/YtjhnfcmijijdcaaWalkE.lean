/- Walks of the program's stock and of the hours of starts. -/
import Derived.Test.YtjhnfcmijijdcaaWalkD
namespace Go.Proofs.Ytjhnfcmijijdcaa
open Go.RowKit

set_option maxHeartbeats 2000000 in
theorem stock_any (K h : Int) (A : Option Addr) (n c : Nat) (cs : List Int) (A' : Option Addr) (c' : Nat) (ds : List Int) (P : Option Addr) (pc : Nat) (ps : List Int) (w : World)
    (hT : Tin w A n c cs A' n c' ds) (hP : Row w P n pc ps) (ok : (tk K h cs ds).Ok n) (hp : PlanIn (pl ps) n) (hn1 : 1 ≤ n) (hn : n ≤ 12) :
    Calls Try.prog 63 #[.agg #[.int .i64 K, .int .i64 h, .slice A n c, .slice A' n c'], .slice P n pc] w fun e w' =>
      ∃ A1, e = .returned (.slice A1 n n) ∧ Own w' w.heap.size A1 n n ((tk K h cs ds).stkL (pl ps) n) ∧ Below w.heap.size w w' := by
  obtain ⟨b, off, r⟩ := hT.2
  obtain ⟨bp, offp, rp⟩ := hP
  obtain rfl := r.at_ (by omega)
  obtain rfl := rp.at_ (by omega)
  have hcap := r.cap
  have hmax := r.max
  have hcapp := rp.cap
  have hmaxp := rp.max
  have R := hide r
  have RP := hide rp
  have OK := hide ok
  have HP := hide hp
  clear hT r rp ok hp
  have B0 := hide ((Below.refl w.heap.size w).alloc (Nat.le_refl _) (.cells #[.int .i64 K, .int .i64 h, .slice A n c, .slice (some ⟨b, off, none⟩) n c'] 24))
  have K0 := hide (Bk.born w 24 #[.int .i64 K, .int .i64 h, .slice A n c, .slice (some ⟨b, off, none⟩) n c'])
  go_enter Try.func63, Try.ntmps63
  go_wp2_with (at_make; refine wpList_mk _ rfl _ _ rfl w.heap.size n rfl rfl (by omega) (by simp) ?_; intro w1 o1 b1 s1)
  have B1 := hide (B0.out.trans (b1.mono (by simp)))
  have K1 := hide (K0.out.keep b1 (by simp))
  have O1 := hide o1
  have S1 := hide s1
  clear o1 b1 s1 B0 K0
  go_loopw [6, 13] (fun s i wr => ∃ k : Nat, k ≤ n ∧ i = .int .i64 k ∧ s = .int .i64 ((tk K h cs ds).stk (pl ps) k) ∧ Own wr w.heap.size (some ⟨w.heap.size + 1, 0, none⟩) n n (fillL (fun i => (tk K h cs ds).stk (pl ps) (i + 1)) n k) ∧
      Bk wr w.heap.size 24 #[.int .i64 K, .int .i64 h, .slice A n c, .slice (some ⟨b, off, none⟩) n c'] ∧ Below w.heap.size w wr) (fun _ i _ => n - (intOf i).toNat)
  case atStart => 
    exact ⟨0, by omega, rfl, rfl, by rw [fillL_zero]; simpa using O1.out, K1.out, B1.out⟩
  case round =>
    obtain ⟨k, hk, rfl, rfl, ho, hb, hbel⟩ := hrel
    by_cases hlt : k < n
    · have d0 := OK.out.d0 k hlt
      have d1 := OK.out.d1 k hlt
      have p0 := HP.out k hlt
      have q0 := OK.out.stk_in HP.out hn (i := k) (by omega)
      have q1 := OK.out.stk_in HP.out hn (i := k + 1) (by omega)
      have HS := hide ((tk K h cs ds).stk_succ (pl ps) k)
      have cd := (R.out.below hbel (Nat.le_refl _)).cell k hlt
      have cp := (RP.out.below hbel (Nat.le_refl _)).cell k hlt
      rw [← tk_d K h cs ds k] at cd
      rw [show ps.getD k 0 = pl ps k from rfl] at cp
      rw [HS.out] at q1
      have FS := hide (fun x => fillL_set (f := fun i => (tk K h cs ds).stk (pl ps) (i + 1)) (n := n) (x := x) hlt)
      generalize hx : (tk K h cs ds).stk (pl ps) k = x at *
      have HX := hide hx
      clear hx
      generalize (tk K h cs ds).d k = y at *
      generalize pl ps k = z at *
      obtain ⟨k0, k1, k2, k3, _⟩ := hb.four
      have fz := ho.frozen k
      have cx := ho.cell hlt
      have HO := hide ho
      have HB := hide hb
      have HL := hide hbel
      clear ho hb hbel
      have w1 : IntKind.i64.wrap (z - y) = z - y := IntWalk.i64_in _ (by omega)
      have w2 : IntKind.i64.wrap (x + (z - y)) = x + (z - y) := IntWalk.i64_in _ (by omega)
      have l2 : (k : Int) < n := by omega
      go_wp2_with fail
      go_quiet (fail)
      clear w1 w2
      go_wp2
      go_roundw
      case rel => exact ⟨k + 1, by omega, by go_num, by rw [HS.out], by rw [← FS.out _ HS.out]; exact (HO.out.drewN _).stored k _, (HB.out.draws _).apart (by simp) _, (below_drewN HL.out _).setCell (by simp) _⟩
      case measure => simp [intOf]; omega
    · go_wp2_with fail
      go_ret
      obtain rfl : k = n := by omega
      rw [fillL_all] at ho
      exact ⟨_, rfl, ho, hbel⟩

end Go.Proofs.Ytjhnfcmijijdcaa
