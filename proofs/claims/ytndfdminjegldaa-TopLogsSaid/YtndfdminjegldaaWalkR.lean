/- Walks: comparisons as pairs, on both sides. -/
import Derived.Test.YtndfdminjegldaaMS
import Derived.Test.YtndfdminjegldaaWalkP
namespace Go.Proofs.Ytndfdminjegldaa
open Go.RowKit Go.Shelf
attribute [local go_sem] Oper.semAt_some

def EP : Enc Pr := { size := 2, enc := fun p => [.int .i64 p.1, .int .i64 p.2], len := fun _ => rfl, one := fun x u h => by simp at h; rcases h with rfl | rfl <;> rfl, d := pr0 }
section
variable {w : World} {A : Option Addr} {n c b off : Nat}
theorem cPr {ps : List Pr} (h : RAt EP w A n c ps b off) {k : Nat} (hk : k < n) : w.cell? ⟨b, off + k * 2, none⟩ = some (.int .i64 (ps.getD k pr0).1) ∧ w.cell? ⟨b, off + k * 2 + 1, none⟩ = some (.int .i64 (ps.getD k pr0).2) :=
  ⟨h.cell k hk 0 (by decide), h.cell k hk 1 (by decide)⟩
end
theorem bk_two {w : World} {g : Nat} {t : TypeId} {a b : Value} (h : Bk w g t #[a, b]) : w.cell? ⟨g, 0, none⟩ = some a ∧ w.cell? ⟨g, 1, none⟩ = some b := ⟨h.at_ 0, h.at_ 1⟩
theorem rg_succ {a b : Int} {ps : List Pr} {t : Nat} (h : RgTo a b ps t) (h1 : rng a b (ps.getD t pr0)) : RgTo a b ps (t + 1) := fun k hk => by
  by_cases e : k = t
  · subst e; exact h1
  · exact h k (by omega)
theorem as_succ {ps : List Pr} {t : Nat} (h : AsTo ps t) (h1 : 0 < t → (ps.getD (t - 1) pr0).1 < (ps.getD t pr0).1 ∧ (ps.getD (t - 1) pr0).2 < (ps.getD t pr0).2) : AsTo ps (t + 1) := fun k hk => by
  by_cases e : k + 1 = t
  · subst e; exact h1 (by omega)
  · exact h k (by omega)
def lastP (ps : List Pr) (t : Nat) : Pr := if t = 0 then (-1, -1) else ps.getD (t - 1) pr0
theorem lastP_zero (ps : List Pr) : lastP ps 0 = (-1, -1) := rfl
theorem lastP_succ (ps : List Pr) (t : Nat) : lastP ps (t + 1) = ps.getD t pr0 := rfl
set_option maxRecDepth 100000 in
set_option maxHeartbeats 4000000 in
theorem cost_any (A : Option Addr) (n c : Nat) (xs : List Int) (A' : Option Addr) (n' c' : Nat) (ys : List Int) (o i h : Int) (Ap : Option Addr) (np cp : Nat) (ps : List Pr) (w : World) (hx : R E1 w A n c xs) (hy : R E1 w A' n' c' ys) (hp : R EP w Ap np cp ps)
    (hn : n ≤ 10) (hn' : n' ≤ 10) (ho : 1 ≤ o ∧ o ≤ 9) (hi : 1 ≤ i ∧ i ≤ 9) (hh : 1 ≤ h ∧ h ≤ 9) (hr : RgTo n n' ps np) (hl1 : np ≤ n) (hl2 : np ≤ n') :
    Calls Try.prog 56 #[.slice A n c, .slice A' n' c', cV o i h, .slice Ap np cp] w fun e w' => e = .returned (.int .i64 (cstP xs ys ⟨o, i, h⟩ ps)) ∧ Below w.heap.size w w' := by
  have BX := hide ((Below.refl w.heap.size w).alloc (Nat.le_refl _) (.cells #[.int .i64 o, .int .i64 i, .int .i64 h] 24))
  have HBK := hide (Bk.born w 24 #[.int .i64 o, .int .i64 i, .int .i64 h])
  have HC := hide (show Cst.ok ⟨o, i, h⟩ from ⟨ho, hi, hh⟩)
  have HLX := hide hx.length
  have HLY := hide hy.length
  have HLP := hide hp.length
  have HX := hide (hx.below BX.out (Nat.le_refl _))
  have HY := hide (hy.below BX.out (Nat.le_refl _))
  have HP := hide (hp.below BX.out (Nat.le_refl _))
  have HR := hide hr
  have hz : w.heap.size < (w.alloc (.cells #[.int .i64 o, .int .i64 i, .int .i64 h] 24)).heap.size := by simp
  have m1 := mulb (x := (n : Int) - (np : Int)) ho (by omega)
  have m2 := mulb (x := (n' : Int) - (np : Int)) hi (by omega)
  obtain ⟨P, hP⟩ : ∃ P, o * ((n : Int) - (np : Int)) = P := ⟨_, rfl⟩
  obtain ⟨Q, hQ⟩ : ∃ Q, i * ((n' : Int) - (np : Int)) = Q := ⟨_, rfl⟩
  rw [hP] at m1
  rw [hQ] at m2
  have HPQ := hide (show cstP xs ys ⟨o, i, h⟩ ps = P + Q + smQ xs ys ⟨o, i, h⟩ ps np from by unfold cstP; rw [HLX.out, HLY.out, HLP.out, ← hP, ← hQ])
  have q1 : IntKind.i64.wrap ((n : Int) - (np : Int)) = (n : Int) - (np : Int) := IntWalk.i64_in _ (by omega)
  have q2 : IntKind.i64.wrap (o * ((n : Int) - (np : Int))) = P := by rw [hP]; exact IntWalk.i64_in _ (by omega)
  have q3 : IntKind.i64.wrap ((n' : Int) - (np : Int)) = (n' : Int) - (np : Int) := IntWalk.i64_in _ (by omega)
  have q4 : IntKind.i64.wrap (i * ((n' : Int) - (np : Int))) = Q := by rw [hQ]; exact IntWalk.i64_in _ (by omega)
  clear hP hQ hx hy hp hr
  go_enter Try.func56, Try.ntmps56
  go_wp2_with fail
  clear q1 q2 q3 q4
  generalize w.alloc (.cells #[.int .i64 o, .int .i64 i, .int .i64 h] 24) = w0 at *
  go_loopw [9, 31] (fun a9 a31 wr => ∃ (t : Nat) (S : Int), t ≤ np ∧ a9 = .int .i64 S ∧ a31 = .int .i64 t ∧ Hid (S = P + Q + smQ xs ys ⟨o, i, h⟩ ps t) ∧ Hid (Below w0.heap.size w0 wr)) (fun _ a31 _ => np - (intOf a31).toNat)
  case atStart => exact ⟨0, P + Q, Nat.zero_le _, rfl, rfl, hide (by rw [smQ]; omega), hide (Below.refl _ _)⟩
  case round =>
    obtain ⟨t, S, ht, rfl, rfl, HS, HB⟩ := hrel
    by_cases hlt : t < np
    · have htn : (t : Int) < (np : Int) := by omega
      obtain ⟨bp, op, hrp⟩ := HP.out.below HB.out (Nat.le_refl _)
      obtain rfl := hrp.at_ (by omega)
      have hbp := hrp.lt (by omega)
      have hcp := hrp.cap
      have hmp := hrp.max
      obtain ⟨p1, p2⟩ := cPr hrp hlt
      have hrg := HR.out t hlt
      have hsm := smQ_bd (l := xs) (m := ys) (ps := ps) HC.out t
      have hss : smQ xs ys ⟨o, i, h⟩ ps (t + 1) = smQ xs ys ⟨o, i, h⟩ ps t + chg ⟨o, i, h⟩ (xs.getD (ps.getD t pr0).1.toNat 0) (ys.getD (ps.getD t pr0).2.toNat 0) := rfl
      have HSS := hide hss
      clear hrp hss
      generalize ps.getD t pr0 = p at *
      obtain ⟨pa, pb⟩ := p
      unfold rng at hrg
      dsimp only at p1 p2 hrg HSS
      obtain ⟨ia, rfl⟩ : ∃ ia : Nat, pa = ia := ⟨pa.toNat, by omega⟩
      obtain ⟨ib, rfl⟩ : ∃ ib : Nat, pb = ib := ⟨pb.toNat, by omega⟩
      obtain ⟨⟨_, r1⟩, _, r2⟩ := hrg
      rw [Int.toNat_natCast, Int.toNat_natCast] at HSS
      obtain ⟨bx, ox, hrx⟩ := HX.out.below HB.out (Nat.le_refl _)
      obtain rfl := hrx.at_ (by omega)
      have hbx := hrx.lt (by omega)
      have hcx := hrx.cap
      have hmx := hrx.max
      have cx := c1 hrx (k := ia) (by omega)
      obtain ⟨by', oy, hry⟩ := HY.out.below HB.out (Nat.le_refl _)
      obtain rfl := hry.at_ (by omega)
      have hby := hry.lt (by omega)
      have hcy := hry.cap
      have hmy := hry.max
      have cy := c1 hry (k := ib) (by omega)
      have kk2 := (HBK.out.keep HB.out hz).at_ 2
      simp at kk2
      have hwz : w.heap.size < wr.heap.size := Nat.lt_of_lt_of_le hz HB.out.size
      have hSb : 0 ≤ S ∧ S ≤ 300 := by have := HS.out; omega
      clear hrx hry hsm
      generalize xs.getD ia 0 = u at *
      generalize ys.getD ib 0 = v at *
      have HB2 := hide (HB.out.alloc HB.out.size (.cells #[.int .i64 ia, .int .i64 ib] 62))
      by_cases huv : u = v
      · have hxy : (u != v) = false := by simpa using huv
        have HS2 := hide (show S = P + Q + smQ xs ys ⟨o, i, h⟩ ps (t + 1) from by rw [HSS.out, HS.out, show chg ⟨o, i, h⟩ u v = 0 from if_pos huv]; omega)
        clear huv
        go_wp2_with fail
        go_quiet (fail)
        go_wp2_with fail
        go_roundw
        case rel => exact ⟨t + 1, S, by omega, rfl, by go_num, HS2, hide (below_drewN HB2.out _)⟩
        case measure => simp [intOf]; omega
      · have hxy : (u != v) = true := by simpa using huv
        have HS2 := hide (show S + h = P + Q + smQ xs ys ⟨o, i, h⟩ ps (t + 1) from by rw [HSS.out, HS.out, show chg ⟨o, i, h⟩ u v = h from if_neg huv]; omega)
        have w1' : IntKind.i64.wrap (S + h) = S + h := IntWalk.i64_in _ (by omega)
        clear huv
        go_wp2_with fail
        go_quiet (fail)
        go_wp2_with fail
        go_roundw
        case rel => exact ⟨t + 1, S + h, by omega, rfl, by go_num, HS2, hide (below_drewN HB2.out _)⟩
        case measure => simp [intOf]; omega
    · obtain rfl : t = np := by omega
      have HV := hide (show cstP xs ys ⟨o, i, h⟩ ps = S from by rw [HPQ.out, HS.out])
      go_wp2_with fail
      go_ret
      exact ⟨ret_i64 HV.out.symm, BX.out.trans (HB.out.mono (Nat.le_of_lt hz))⟩
end Go.Proofs.Ytndfdminjegldaa
