/- The contract of the closure that fills the table of the least costs: it calls itself. -/
import Derived.Test.YtjhnfcmijijdcaaWalkM
namespace Go.Proofs.Ytjhnfcmijijdcaa
open Go.RowKit

/-- What a call of the closure for x leaves. -/
def FindPost (w0 : World) (B n : Nat) (task : Array Value) (gr gt gk gb gf gc gl gn : Nat) (T : Tk) (m : Nat) (cl ll : List Int) (x : Nat) (e : Ending) (w' : World) : Prop :=
  e = .returned (.int .i64 (T.f x)) ∧ ∃ cl' ll', St w' B n task gr gt gk gb gf gc gl gn (max m x) cl' ll' ∧ Kn T (max m x) cl' ll' ∧
    (∀ j, x < j → cl'.getD j 0 = cl.getD j 0 ∧ ll'.getD j 0 = ll.getD j 0) ∧ Below B w0 w'

set_option maxHeartbeats 4000000 in
theorem find_any (K h : Int) (A : Option Addr) (n c : Nat) (cs : List Int) (A' : Option Addr) (c' : Nat) (ds : List Int) (w0 : World) (gr gt gk gb gf gc gl gn : Nat)
    (ap : Apart gr gt gk gb gf gc gl gn) (hT : Tin w0 A n c cs A' n c' ds) (ok : (tk K h cs ds).Ok n) (hn1 : 1 ≤ n) (hn : n ≤ 12) :
    ∀ x : Nat, x ≤ n → ∀ (m : Nat) (cl ll : List Int) (w : World), m ≤ n →
      St w w0.heap.size n #[.int .i64 K, .int .i64 h, .slice A n c, .slice A' n c'] gr gt gk gb gf gc gl gn m cl ll → Kn (tk K h cs ds) m cl ll → Below w0.heap.size w0 w →
      Calls Try.prog 82 #[.int .i64 x, .pointer (some ⟨gk, 0, none⟩), .pointer (some ⟨gb, 0, none⟩), .pointer (some ⟨gf, 0, none⟩), .pointer (some ⟨gt, 0, none⟩)] w
        (FindPost w0 w0.heap.size n #[.int .i64 K, .int .i64 h, .slice A n c, .slice A' n c'] gr gt gk gb gf gc gl gn (tk K h cs ds) m cl ll x) := by
  intro x
  have HT := hide hT
  have OK := hide ok
  have AP := hide ap
  clear hT ok ap
  induction x using Nat.strongRecOn with
  | ind x ih =>
    have IH := hide ih
    clear ih
    intro hxn m cl ll w hmn hst hkn hbel
    have ST := hide hst
    have KN := hide hkn
    have BEL := hide hbel
    have kk := hst.k.at_ 0
    have kb0 := hst.b.at_ 0
    have kb1 := hst.b.at_ 1
    simp at kk kb0 kb1
    by_cases hx : x ≤ m
    · have kx := hst.known (j := x) hxn
      rw [decide_eq_true hx] at kx
      have cx := hst.c.cell (k := x) (by omega)
      rw [(hkn x hx).1] at cx
      clear hst hkn hbel
      generalize hv : (tk K h cs ds).f x = v at *
      have HV := hide hv
      clear hv
      go_enter Try.func82, Try.ntmps82
      go_wp2_with fail
      go_ret
      exact ⟨ret_i64 HV.out.symm, cl, ll, by rw [show max m x = m by omega]; exact ST.out, by rw [show max m x = m by omega]; exact KN.out, fun j _ => ⟨rfl, rfl⟩, BEL.out⟩
    · have kx := hst.known (j := x) hxn
      rw [decide_eq_false hx] at kx
      clear hst hkn hbel
      go_enter Try.func82, Try.ntmps82
      go_wp2_with fail
      go_loopw [19] (fun i wr => ∃ (k : Nat) (cl' ll' : List Int), k ≤ x ∧ i = .int .i64 k ∧ St wr w0.heap.size n #[.int .i64 K, .int .i64 h, .slice A n c, .slice A' n c'] gr gt gk gb gf gc gl gn (max m (k - 1)) cl' ll' ∧
        Kn (tk K h cs ds) (max m (k - 1)) cl' ll' ∧ (1 ≤ k → cl'.getD x 0 = (firstMin ((tk K h cs ds).G x) k).1 ∧ ll'.getD x 0 = ((firstMin ((tk K h cs ds).G x) k).2 : Int)) ∧
        (∀ j, x < j → cl'.getD j 0 = cl.getD j 0 ∧ ll'.getD j 0 = ll.getD j 0) ∧ Below w0.heap.size w0 wr) (fun i _ => x - (intOf i).toNat)
      case atStart => exact ⟨0, cl, ll, by omega, rfl, by rw [show max m (0 - 1) = m by omega]; exact ST.out, by rw [show max m (0 - 1) = m by omega]; exact KN.out, fun h => by omega, fun j _ => ⟨rfl, rfl⟩, BEL.out⟩
      case round =>
        obtain ⟨k, cl', ll', hk, rfl, hst, hkn, hcur, hfar, hbel⟩ := hrel
        have ST1 := hide hst
        have KN1 := hide hkn
        have CUR := hide hcur
        have FAR := hide hfar
        have BEL1 := hide hbel
        by_cases hlt : k < x
        · have kf := hst.f.at_ 0
          simp at kf
          clear hst hkn hcur hfar hbel
          go_wp2_with fail
          refine (IH.out k hlt (by omega) (max m (k - 1)) cl' ll' _ (by omega) ST1.out KN1.out BEL1.out).mono ?_
          rintro e w1 ⟨rfl, cl1, ll1, st1, kn1, far1, bel1⟩
          rw [show max (max m (k - 1)) k = max m k by omega] at st1 kn1
          obtain ⟨t0, t1, t2, t3, _⟩ := st1.t.four
          have TW := hide (together_any K h A n c cs A' c' ds k x w1 (HT.out.below bel1 (Nat.le_refl _)) OK.out (by omega) hxn hn1 hn)
          have hG := hide (show (tk K h cs ds).G x k = (tk K h cs ds).f k + (tk K h cs ds).tog k x from rfl)
          have g0 := OK.out.f0 (m := k) (by omega)
          have g1 := OK.out.f1 hn (m := k) (by omega)
          have g2 := OK.out.tog0 k (m := x) hxn
          have g3 := OK.out.tog1 k (m := x) hxn hn
          have HY := hide (fun e => firstMin_yes (f := (tk K h cs ds).G x) (k := k) e)
          have HN := hide (fun e1 e2 => firstMin_no (f := (tk K h cs ds).G x) (k := k) e1 e2)
          rw [hG.out] at HY HN
          generalize (tk K h cs ds).f k = vf at *
          generalize (tk K h cs ds).tog k x = vt at *
          have S1 := hide st1
          have KN2 := hide kn1
          have FAR1 := hide far1
          have BEL2 := hide bel1
          clear st1 kn1 far1 bel1 hG
          go_wp2_with fail
          refine TW.out.mono ?_
          rintro e w2 ⟨rfl, b2⟩
          have S2 := hide (S1.out.keep b2)
          have BEL3 := hide (BEL2.out.trans (b2.mono BEL2.out.size))
          clear t0 t1 t2 t3 b2
          have q0 := S2.out.b.at_ 0
          have q1 := S2.out.b.at_ 1
          simp at q0 q1
          have cx := S2.out.c.cell (k := x) (by omega)
          have lx := S2.out.l.cell (k := x) (by omega)
          have fc := S2.out.c.frozen x
          have fl := S2.out.l.frozen x
          rw [(FAR1.out x hlt).1] at cx
          have lc := S2.out.c.len
          have ll := S2.out.l.len
          have LC := hide lc
          have LL := hide ll
          clear lc ll
          have SC := hide (S2.out.setC AP.out x (vf + vt))
          have SL := hide (S2.out.setL AP.out x k)
          have c0 := SC.out.b.at_ 0
          have c1 := SC.out.b.at_ 1
          have c2 := SC.out.l.cell (k := x) (by omega)
          have c3 := SC.out.l.frozen x
          have d0 := SL.out.b.at_ 0
          have d1 := SL.out.b.at_ 1
          have d2 := SL.out.c.cell (k := x) (by omega)
          have d3 := SL.out.c.frozen x
          rw [(FAR1.out x hlt).1] at d2
          simp at c0 c1 d0 d1
          by_cases hk0 : k = 0
          · have hke : ((k : Int) == 0) = true := by simp [hk0]
            have HK := hide hk0
            clear hk0
            go_wp2_with fail
            go_region
            all_goals
              go_wp2_with fail
              go_roundw
              case rel => exact ⟨k + 1, cl1.set x (vf + vt), ll1.set x k, by omega, by go_num, by rw [show max m (k + 1 - 1) = max m k by omega]; exact (SC.out.setL AP.out x k).draw, by rw [show max m (k + 1 - 1) = max m k by omega]; exact KN2.out.set (by omega) _ _, fun _ => ⟨by rw [getD_set_eq (by rw [LC.out]; omega), HY.out (.inl HK.out)], by rw [getD_set_eq (by rw [LL.out]; omega), HY.out (.inl HK.out)]⟩, fun j hj => ⟨by rw [getD_set_ne (by omega), (FAR1.out j (by omega)).1, (FAR.out j hj).1], by rw [getD_set_ne (by omega), (FAR1.out j (by omega)).2, (FAR.out j hj).2]⟩, ((BEL3.out.setCell S2.out.ge.1 _).setCell S2.out.ge.2.1 _).drew⟩
              case measure => simp [intOf]; omega
          · have hke : ((k : Int) == 0) = false := by simp [hk0]
            rw [(CUR.out (by omega)).1] at cx
            have HK1 := hide (show 1 ≤ k by omega)
            have HK := hide hk0
            clear hk0
            generalize hbest : (firstMin ((tk K h cs ds).G x) k).1 = best at *
            have HB := hide hbest
            clear hbest
            by_cases hc : vf + vt < best
            · have HC := hide hc
              go_wp2_with fail
              go_region
              all_goals
                go_wp2_with fail
                go_roundw
                case rel => exact ⟨k + 1, cl1.set x (vf + vt), ll1.set x k, by omega, by go_num, by rw [show max m (k + 1 - 1) = max m k by omega]; exact (SC.out.setL AP.out x k).draw, by rw [show max m (k + 1 - 1) = max m k by omega]; exact KN2.out.set (by omega) _ _, fun _ => ⟨by rw [getD_set_eq (by rw [LC.out]; omega), HY.out (.inr HC.out)], by rw [getD_set_eq (by rw [LL.out]; omega), HY.out (.inr HC.out)]⟩, fun j hj => ⟨by rw [getD_set_ne (by omega), (FAR1.out j (by omega)).1, (FAR.out j hj).1], by rw [getD_set_ne (by omega), (FAR1.out j (by omega)).2, (FAR.out j hj).2]⟩, ((BEL3.out.setCell S2.out.ge.1 _).setCell S2.out.ge.2.1 _).drew⟩
                case measure => simp [intOf]; omega
            · go_wp2_with fail
              go_roundw
              case rel => exact ⟨k + 1, cl1, ll1, by omega, by go_num, by rw [show max m (k + 1 - 1) = max m k by omega]; exact S2.out, by rw [show max m (k + 1 - 1) = max m k by omega]; exact KN2.out, fun _ => ⟨by rw [(FAR1.out x hlt).1, (CUR.out HK1.out).1, HN.out HK.out (by omega), HB.out], by rw [(FAR1.out x hlt).2, (CUR.out HK1.out).2, HN.out HK.out (by omega)]⟩, fun j hj => ⟨by rw [(FAR1.out j (by omega)).1, (FAR.out j hj).1], by rw [(FAR1.out j (by omega)).2, (FAR.out j hj).2]⟩, BEL3.out⟩
              case measure => simp [intOf]; omega
        · obtain rfl : k = x := by omega
          rw [show max m (k - 1) = k - 1 by omega] at hst hkn
          have r0 := hst.k.at_ 0
          have r1 := hst.b.at_ 0
          simp at r0 r1
          have r2 := hst.known (j := k) hxn
          have r3 := World.ownsRow.frozenAt hst.n k
          have ST2 := hst.setN AP.out (by omega)
          rw [show k - 1 + 1 = k by omega] at ST2
          have r4 := ST2.c.cell (k := k) (by omega)
          have r5 := ST2.b.at_ 0
          simp at r5
          have hF := (tk K h cs ds).F_eq k
          have hcl : cl'.getD k 0 = (tk K h cs ds).f k ∧ ll'.getD k 0 = ((tk K h cs ds).q k : Int) := by
            have := hcur (by omega)
            unfold Tk.f Tk.q
            rw [hF]
            exact this
          rw [hcl.1] at r4
          have HCL := hide hcl
          have ST3 := hide ST2
          clear hst hkn hcur hfar hbel ST2 ST1 hF hcl CUR
          generalize hv : (tk K h cs ds).f k = v at *
          have HV := hide hv
          clear hv
          go_wp2_with fail
          go_ret
          exact ⟨ret_i64 HV.out.symm, cl', ll', by rw [show max m k = k by omega]; exact ST3.out, by
            rw [show max m k = k by omega]
            intro j hj
            by_cases e : j = k
            · subst e; rw [HV.out]; exact HCL.out
            · exact KN1.out j (by omega), FAR.out, BEL1.out.setCell ST3.out.ge.2.2 _⟩

end Go.Proofs.Ytjhnfcmijijdcaa
