/- The document's own least: the least cost over all sets of starts. -/
import Derived.Test.YtjhnfcmijijdcaaWalkAt
namespace Go.Proofs.Ytjhnfcmijijdcaa
open Go.RowKit

/-- The cost of the plan of the set that j stands for. -/
def Tk.setC (t : Tk) (n j : Nat) : Int := t.cost (pl (t.aL (t.ast (bitS j)) n n)) n
open Classical in
/-- The least cost over the sets below j that make a plan; -1 where none does. -/
noncomputable def Tk.lb (t : Tk) (n : Nat) : Nat → Int
  | 0 => -1
  | j + 1 => if t.Can (bitS j) n then (if Tk.lb t n j < 0 ∨ t.setC n j < Tk.lb t n j then t.setC n j else Tk.lb t n j) else Tk.lb t n j
theorem Tk.lb_no {t : Tk} {n j : Nat} (h : ¬ t.Can (bitS j) n) : t.lb n (j + 1) = t.lb n j := by
  rw [Tk.lb, if_neg h]
theorem Tk.lb_new {t : Tk} {n j : Nat} (h : t.Can (bitS j) n) (e : t.lb n j < 0 ∨ t.setC n j < t.lb n j) : t.lb n (j + 1) = t.setC n j := by
  rw [Tk.lb, if_pos h, if_pos e]
theorem Tk.lb_old {t : Tk} {n j : Nat} (h : t.Can (bitS j) n) (e : ¬ (t.lb n j < 0 ∨ t.setC n j < t.lb n j)) : t.lb n (j + 1) = t.lb n j := by
  rw [Tk.lb, if_pos h, if_neg e]

set_option maxHeartbeats 2000000 in
theorem rleast_any (K h : Int) (A : Option Addr) (n c : Nat) (cs : List Int) (A' : Option Addr) (c' : Nat) (ds : List Int) (w : World) (hT : Tin w A n c cs A' n c' ds)
    (ok : (tk K h cs ds).Ok n) (hn1 : 1 ≤ n) (hn : n ≤ 12) :
    Calls Try.prog 67 #[.agg #[.int .i64 K, .int .i64 h, .slice A n c, .slice A' n c']] w fun e w' =>
      e = .returned (.int .i64 ((tk K h cs ds).lb n (2 ^ n))) ∧ Below w.heap.size w w' := by
  have HT := hide hT
  have OK := hide ok
  have hcap : n ≤ c' := by obtain ⟨b, off, r⟩ := hT.2; exact r.cap
  have hmax : c' ≤ 9223372036854775807 := by obtain ⟨b, off, r⟩ := hT.2; exact r.max
  have B0 := hide ((Below.refl w.heap.size w).alloc (Nat.le_refl _) (.cells #[.int .i64 K, .int .i64 h, .slice A n c, .slice A' n c'] 24))
  have K0 := hide (Bk.born w 24 #[.int .i64 K, .int .i64 h, .slice A n c, .slice A' n c'])
  have wu : IntKind.u64.wrap (n : Int) = n := IntWalk.u64_in _ (by omega)
  have wm : min n 64 = n := by omega
  obtain ⟨N, hN⟩ : ∃ N : Nat, 2 ^ n = N := ⟨_, rfl⟩
  have hN2 : N ≤ 4096 := by rw [← hN]; exact Nat.pow_le_pow_right (by omega) hn
  have hNi : (2 : Int) ^ n = N := by rw [← hN]; simp
  have wN : IntKind.i64.wrap ((2 : Int) ^ n) = N := by rw [hNi]; exact IntWalk.i64_in _ (by omega)
  rw [hN]
  clear hT ok hN hNi
  go_enter Try.func67, Try.ntmps67
  go_wp2_with fail
  go_loopw [3, 4] (fun v i wr => ∃ j : Nat, j ≤ N ∧ i = .int .i64 j ∧ v = .int .i64 ((tk K h cs ds).lb n j) ∧
      Bk wr w.heap.size 24 #[.int .i64 K, .int .i64 h, .slice A n c, .slice A' n c'] ∧ Below w.heap.size w wr) (fun _ i _ => N - (intOf i).toNat)
  case atStart => exact ⟨0, by omega, rfl, rfl, K0.out, B0.out⟩
  case round =>
    obtain ⟨j, hj, rfl, rfl, hb, hbel⟩ := hrel
    have HB := hide hb
    have HBL := hide hbel
    obtain ⟨k0, k1, k2, k3, _⟩ := hb.four
    clear hb hbel
    by_cases hlt : j < N
    · have l2 : (j : Int) < N := by omega
      go_wp2_with fail
      refine (rat_any K h _ n c cs _ c' ds j _ (HT.out.below HBL.out (Nat.le_refl _)) OK.out hn1 hn).mono ?_
      rintro e w2 ⟨b2, (⟨hno, rfl⟩ | ⟨hyes, A2, c2, rfl, o2⟩)⟩
      · have B2 := hide (HBL.out.trans (b2.mono HBL.out.size))
        have K2 := hide (HB.out.keep b2 HB.out.in_)
        have HV := hide (Tk.lb_no hno)
        clear b2 k0 k1 k2 k3
        go_wp2_with fail
        go_roundw
        case rel => exact ⟨j + 1, by omega, by go_num, by rw [HV.out], K2.out, B2.out⟩
        case measure => simp [intOf]; omega
      · have B2 := hide (HBL.out.trans (b2.mono HBL.out.size))
        have K2 := hide (HB.out.keep b2 HB.out.in_)
        have O2 := hide o2.row
        have HVn := hide (fun e => Tk.lb_new hyes e)
        have HVo := hide (fun e => Tk.lb_old hyes e)
        have hp : PlanIn (pl ((tk K h cs ds).aL ((tk K h cs ds).ast (bitS j)) n n)) n := fun i hi => by
          have := Tk.asg_bound OK.out hn (a := (tk K h cs ds).ast (bitS j)) (m := n) (Nat.le_refl n) i
          rw [← Tk.aL_get _ _ hi] at this
          exact this
        have HP := hide hp
        clear b2 o2 k0 k1 k2 k3 hp hyes
        obtain ⟨k0, k1, k2, k3, _⟩ := K2.out.four
        go_wp2_with fail
        refine (rcost_any K h _ n c cs _ c' ds _ c2 _ _ (HT.out.below B2.out (Nat.le_refl _)) O2.out OK.out HP.out hn1 hn).mono ?_
        rintro e w3 ⟨rfl, b3⟩
        have B3 := hide (B2.out.trans (b3.mono B2.out.size))
        have K3 := hide (K2.out.keep b3 K2.out.in_)
        clear b3 k0 k1 k2 k3
        rw [show (tk K h cs ds).cost (pl ((tk K h cs ds).aL ((tk K h cs ds).ast (bitS j)) n n)) n = (tk K h cs ds).setC n j from rfl]
        have HVn := hide HVn.out
        generalize (tk K h cs ds).setC n j = z at *
        have HX := hide (show ∃ y, (tk K h cs ds).lb n j = y from ⟨_, rfl⟩)
        obtain ⟨y, hy⟩ := HX.out
        rw [hy] at HVn HVo ⊢
        clear hy HX
        by_cases c1 : y < 0
        · have HV := hide (HVn.out (Or.inl c1))
          go_wp2_with fail
          go_roundw
          case rel => exact ⟨j + 1, by omega, by go_num, by rw [HV.out], K3.out, B3.out⟩
          case measure => simp [intOf]; omega
        · by_cases c2 : z < y
          · have HV := hide (HVn.out (Or.inr c2))
            go_wp2_with fail
            go_roundw
            case rel => exact ⟨j + 1, by omega, by go_num, by rw [HV.out], K3.out, B3.out⟩
            case measure => simp [intOf]; omega
          · have HV := hide (HVo.out (by omega))
            go_wp2_with fail
            go_roundw
            case rel => exact ⟨j + 1, by omega, by go_num, by rw [HV.out], K3.out, B3.out⟩
            case measure => simp [intOf]; omega
    · obtain rfl : j = N := by omega
      go_wp2_with fail
      go_ret
      exact ⟨rfl, HBL.out⟩

end Go.Proofs.Ytjhnfcmijijdcaa
