/- Group 11: texts WalkLe, MathJ, WalkLl, MathK. -/
import Derived.Test.YtlndjjdggedljaaG10
/- WalkLe -/
namespace Go.Proofs.Ytlndjjdggedljaa
open Go.RowKit

/-- The cost of the plan of the set that j stands for. -/
def Tk.setC (t : Tk) (n j : Nat) : Int := t.cost (pl (t.aL (t.ast (bitS j)) n n)) n
open Classical in
/-- The least cost over the sets below j that make a plan; -1 where none does. -/
noncomputable def Tk.lb (t : Tk) (n : Nat) : Nat → Int
  | 0 => -1
  | j + 1 => if t.Can (bitS j) n then (if Tk.lb t n j < 0 ∨ t.setC n j < Tk.lb t n j then t.setC n j else Tk.lb t n j) else Tk.lb t n j
theorem Tk.lb_no {t : Tk} {n j : Nat} (h : ¬ t.Can (bitS j) n) : t.lb n (j + 1) = t.lb n j := by
  rw [Tk.lb, if_neg h]
theorem Tk.lb_new {t : Tk} {n j : Nat} (h : t.Can (bitS j) n) (e : t.lb n j < 0 ∨ t.setC n j < t.lb n j) : t.lb n (j + 1) = t.setC n j := by
  rw [Tk.lb, if_pos h, if_pos e]
theorem Tk.lb_old {t : Tk} {n j : Nat} (h : t.Can (bitS j) n) (e : ¬ (t.lb n j < 0 ∨ t.setC n j < t.lb n j)) : t.lb n (j + 1) = t.lb n j := by
  rw [Tk.lb, if_pos h, if_neg e]

set_option maxHeartbeats 2000000 in
theorem rleast_any (K h : Int) (A : Option Addr) (n c : Nat) (cs : List Int) (A' : Option Addr) (c' : Nat) (ds : List Int) (w : World) (hT : Tin w A n c cs A' n c' ds)
    (ok : (tk K h cs ds).Ok n) (hn1 : 1 ≤ n) (hn : n ≤ 12) :
    Calls Try.prog 67 #[.agg #[.int .i64 K, .int .i64 h, .slice A n c, .slice A' n c']] w fun e w' =>
      e = .returned (.int .i64 ((tk K h cs ds).lb n (2 ^ n))) ∧ Below w.heap.size w w' := by
  have HT := hide hT
  have OK := hide ok
  have hcap : n ≤ c' := by obtain ⟨b, off, r⟩ := hT.2; exact r.cap
  have hmax : c' ≤ 9223372036854775807 := by obtain ⟨b, off, r⟩ := hT.2; exact r.max
  have B0 := hide ((Below.refl w.heap.size w).alloc (Nat.le_refl _) (.cells #[.int .i64 K, .int .i64 h, .slice A n c, .slice A' n c'] 24))
  have K0 := hide (Bk.born w 24 #[.int .i64 K, .int .i64 h, .slice A n c, .slice A' n c'])
  have wu : IntKind.u64.wrap (n : Int) = n := IntWalk.u64_in _ (by omega)
  have wm : min n 64 = n := by omega
  obtain ⟨N, hN⟩ : ∃ N : Nat, 2 ^ n = N := ⟨_, rfl⟩
  have hN2 : N ≤ 4096 := by rw [← hN]; exact Nat.pow_le_pow_right (by omega) hn
  have hNi : (2 : Int) ^ n = N := by rw [← hN]; simp
  have wN : IntKind.i64.wrap ((2 : Int) ^ n) = N := by rw [hNi]; exact IntWalk.i64_in _ (by omega)
  rw [hN]
  clear hT ok hN hNi
  go_enter Try.func67, Try.ntmps67
  go_wp2_with fail
  go_loopw [3, 4] (fun v i wr => ∃ j : Nat, j ≤ N ∧ i = .int .i64 j ∧ v = .int .i64 ((tk K h cs ds).lb n j) ∧
      Bk wr w.heap.size 24 #[.int .i64 K, .int .i64 h, .slice A n c, .slice A' n c'] ∧ Below w.heap.size w wr) (fun _ i _ => N - (intOf i).toNat)
  case atStart => exact ⟨0, by omega, rfl, rfl, K0.out, B0.out⟩
  case round =>
    obtain ⟨j, hj, rfl, rfl, hb, hbel⟩ := hrel
    have HB := hide hb
    have HBL := hide hbel
    obtain ⟨k0, k1, k2, k3, _⟩ := hb.four
    clear hb hbel
    by_cases hlt : j < N
    · have l2 : (j : Int) < N := by omega
      go_wp2_with fail
      refine (rat_any K h _ n c cs _ c' ds j _ (HT.out.below HBL.out (Nat.le_refl _)) OK.out hn1 hn).mono ?_
      rintro e w2 ⟨b2, (⟨hno, rfl⟩ | ⟨hyes, A2, c2, rfl, o2⟩)⟩
      · have B2 := hide (HBL.out.trans (b2.mono HBL.out.size))
        have K2 := hide (HB.out.keep b2 HB.out.in_)
        have HV := hide (Tk.lb_no hno)
        clear b2 k0 k1 k2 k3
        go_wp2_with fail
        go_roundw
        case rel => exact ⟨j + 1, by omega, by go_num, by rw [HV.out], K2.out, B2.out⟩
        case measure => simp [intOf]; omega
      · have B2 := hide (HBL.out.trans (b2.mono HBL.out.size))
        have K2 := hide (HB.out.keep b2 HB.out.in_)
        have O2 := hide o2.row
        have HVn := hide (fun e => Tk.lb_new hyes e)
        have HVo := hide (fun e => Tk.lb_old hyes e)
        have hp : PlanIn (pl ((tk K h cs ds).aL ((tk K h cs ds).ast (bitS j)) n n)) n := fun i hi => by
          have := Tk.asg_bound OK.out hn (a := (tk K h cs ds).ast (bitS j)) (m := n) (Nat.le_refl n) i
          rw [← Tk.aL_get _ _ hi] at this
          exact this
        have HP := hide hp
        clear b2 o2 k0 k1 k2 k3 hp hyes
        obtain ⟨k0, k1, k2, k3, _⟩ := K2.out.four
        go_wp2_with fail
        refine (rcost_any K h _ n c cs _ c' ds _ c2 _ _ (HT.out.below B2.out (Nat.le_refl _)) O2.out OK.out HP.out hn1 hn).mono ?_
        rintro e w3 ⟨rfl, b3⟩
        have B3 := hide (B2.out.trans (b3.mono B2.out.size))
        have K3 := hide (K2.out.keep b3 K2.out.in_)
        clear b3 k0 k1 k2 k3
        rw [show (tk K h cs ds).cost (pl ((tk K h cs ds).aL ((tk K h cs ds).ast (bitS j)) n n)) n = (tk K h cs ds).setC n j from rfl]
        have HVn := hide HVn.out
        generalize (tk K h cs ds).setC n j = z at *
        have HX := hide (show ∃ y, (tk K h cs ds).lb n j = y from ⟨_, rfl⟩)
        obtain ⟨y, hy⟩ := HX.out
        rw [hy] at HVn HVo ⊢
        clear hy HX
        by_cases c1 : y < 0
        · have HV := hide (HVn.out (Or.inl c1))
          go_wp2_with fail
          go_roundw
          case rel => exact ⟨j + 1, by omega, by go_num, by rw [HV.out], K3.out, B3.out⟩
          case measure => simp [intOf]; omega
        · by_cases c2 : z < y
          · have HV := hide (HVn.out (Or.inr c2))
            go_wp2_with fail
            go_roundw
            case rel => exact ⟨j + 1, by omega, by go_num, by rw [HV.out], K3.out, B3.out⟩
            case measure => simp [intOf]; omega
          · have HV := hide (HVo.out (by omega))
            go_wp2_with fail
            go_roundw
            case rel => exact ⟨j + 1, by omega, by go_num, by rw [HV.out], K3.out, B3.out⟩
            case measure => simp [intOf]; omega
    · obtain rfl : j = N := by omega
      go_wp2_with fail
      go_ret
      exact ⟨rfl, HBL.out⟩

end Go.Proofs.Ytlndjjdggedljaa

/- MathJ -/
namespace Go.Proofs.Ytlndjjdggedljaa
open Go.RowKit

theorem bits_one (m : Nat) (h : m < 4611686018427387904) : bits BinOp.and IntKind.i64 (m : Int) 1 = ((m % 2 : Nat) : Int) := by
  have h1 : (BitVec.ofInt 64 (m : Int)).toNat = m := by
    rw [BitVec.ofInt_natCast, BitVec.toNat_ofNat]
    exact Nat.mod_eq_of_lt (by omega)
  have h2 : (BitVec.ofInt 64 (1 : Int)).toNat = 1 := by rfl
  show IntKind.i64.wrap ((BitVec.ofInt 64 (m : Int) &&& BitVec.ofInt 64 (1 : Int)).toNat : Int) = _
  rw [BitVec.toNat_and, h1, h2, Nat.and_one_is_mod]
  exact IntWalk.i64_in _ (by omega)
theorem bitS_eq (x s : Nat) (hx : x ≤ 4096) (hs : s < 64) : bitS x s = x.testBit s := by
  have wq : IntKind.u64.wrap (s : Int) = s := IntWalk.u64_in _ (by omega)
  have wm : min s 64 = s := by omega
  have e : (x : Int) / 2 ^ s = ((x / 2 ^ s : Nat) : Int) := by simp
  have le : x / 2 ^ s ≤ x := Nat.div_le_self _ _
  unfold bitS
  rw [wq, Int.toNat_natCast, wm, e, bits_one _ (by omega), Nat.testBit_eq_decide_div_mod_eq]
  by_cases g : x / 2 ^ s % 2 = 1
  · rw [g]; simp
  · have : x / 2 ^ s % 2 = 0 := by omega
    rw [this]; simp
theorem set_num (P : Nat → Bool) : ∀ n : Nat, ∃ x, x < 2 ^ n ∧ ∀ s, s < n → x.testBit s = P s := by
  intro n
  induction n with
  | zero => exact ⟨0, by simp, fun s hs => by omega⟩
  | succ n ih =>
    obtain ⟨x, h1, h2⟩ := ih
    refine ⟨2 ^ n * (P n).toNat + x, ?_, fun s hs => ?_⟩
    · have : (P n).toNat ≤ 1 := by cases P n <;> simp
      have e : 2 ^ (n + 1) = 2 ^ n + 2 ^ n := by rw [Nat.pow_succ]; omega
      have : 2 ^ n * (P n).toNat ≤ 2 ^ n * 1 := Nat.mul_le_mul_left _ this
      omega
    · rw [Nat.testBit_two_pow_mul_add _ h1]
      by_cases e : s < n
      · rw [if_pos e, h2 s e]
      · obtain rfl : s = n := by omega
        rw [if_neg e, Nat.sub_self]
        cases P s <;> rfl

theorem setC_eq (t : Tk) (n j : Nat) : t.setC n j = t.cost (t.asg (t.ast (bitS j)) n) n := cost_congr fun i hi => Tk.aL_get _ _ hi
theorem setC_ge {t : Tk} {n : Nat} (ok : t.Ok n) (hn : n ≤ 12) (j : Nat) : t.f n ≤ t.setC n j := by
  rw [setC_eq]
  exact ok.least_le (Tk.asg_right ok hn fun u _ => t.ast_le _ u)
theorem lb_ge {t : Tk} {n : Nat} (ok : t.Ok n) (hn : n ≤ 12) : ∀ j : Nat, t.lb n j = -1 ∨ t.f n ≤ t.lb n j := by
  intro j
  induction j with
  | zero => left; rw [Tk.lb]
  | succ j ih =>
    have g := setC_ge ok hn j
    by_cases h : t.Can (bitS j) n
    · by_cases e : t.lb n j < 0 ∨ t.setC n j < t.lb n j
      · right; rw [Tk.lb_new h e]; exact g
      · rw [Tk.lb_old h e]; exact ih
    · rw [Tk.lb_no h]; exact ih
theorem lb_le {t : Tk} {n : Nat} (ok : t.Ok n) (hn : n ≤ 12) (f0 : 0 ≤ t.f n) {i : Nat} (hi : t.Can (bitS i) n) : ∀ j : Nat, i < j → 0 ≤ t.lb n j ∧ t.lb n j ≤ t.setC n i := by
  intro j
  induction j with
  | zero => intro h; omega
  | succ j ih =>
    intro hij
    have g := setC_ge ok hn j
    by_cases e : i = j
    · subst e
      by_cases q : t.lb n i < 0 ∨ t.setC n i < t.lb n i
      · rw [Tk.lb_new hi q]; omega
      · rw [Tk.lb_old hi q]; omega
    · have ih := ih (by omega)
      by_cases h : t.Can (bitS j) n
      · by_cases q : t.lb n j < 0 ∨ t.setC n j < t.lb n j
        · rw [Tk.lb_new h q]; omega
        · rw [Tk.lb_old h q]; exact ih
      · rw [Tk.lb_no h]; exact ih
theorem near_congr (t : Tk) {S S' : Nat → Bool} (u : Nat) : ∀ {k : Nat}, (∀ s, s < k → S s = S' s) → t.near S u k = t.near S' u k := by
  intro k
  induction k with
  | zero => intro _; rfl
  | succ k ih =>
    intro h
    have a := ih fun s hs => h s (by omega)
    show (if _ then _ else _) = (if _ then _ else _)
    rw [a, h k (by omega)]
end Go.Proofs.Ytlndjjdggedljaa

/- WalkLl -/
namespace Go.Proofs.Ytlndjjdggedljaa
open Go.RowKit

theorem lb_all {t : Tk} {n : Nat} (ok : t.Ok n) (hn : n ≤ 12) : t.lb n (2 ^ n) = t.f n := by
  obtain ⟨x, hx, hb⟩ := set_num (fun s => decide (0 < t.bp n s)) n
  have h4 : 2 ^ n ≤ 2 ^ 12 := Nat.pow_le_pow_right (by omega) hn
  have h5 : x ≤ 4096 := by omega
  have r := ok.bp_right hn
  obtain ⟨can, le⟩ := Tk.set_le ok hn r (S := bitS x) (fun s hs => by rw [bitS_eq x s h5 (by omega), hb s hs]; simp)
  rw [← setC_eq, (ok.good (Nat.le_refl n)).cost] at le
  have a := lb_le ok hn (ok.f0 (Nat.le_refl n)) can (2 ^ n) hx
  have b := lb_ge ok hn (2 ^ n)
  omega

set_option maxHeartbeats 2000000 in
theorem rLeast_any (K h : Int) (A : Option Addr) (n c : Nat) (cs : List Int) (A' : Option Addr) (n' c' : Nat) (ds : List Int) (w : World) (hT : Tin w A n c cs A' n' c' ds) :
    Calls Try.prog 32 #[.agg #[.int .i64 K, .int .i64 h, .slice A n c, .slice A' n' c']] w (NumPost (okv (errT K h cs ds) ((tk K h cs ds).f ds.length)) (errT K h cs ds) w) := by
  have HT := hide hT
  have L2 := hT.2.length
  have B0 := hide ((Below.refl w.heap.size w).alloc (Nat.le_refl _) (.cells #[.int .i64 K, .int .i64 h, .slice A n c, .slice A' n' c'] 24))
  have K0 := hide (Bk.born w 24 #[.int .i64 K, .int .i64 h, .slice A n c, .slice A' n' c'])
  clear hT
  by_cases he : errT K h cs ds = 0
  case neg =>
    have HV := hide (okv_ne he ((tk K h cs ds).f ds.length))
    have he' : (errT K h cs ds != 0) = true := by simpa using he
    have HE := hide (errT_ne he)
    go_enter Try.func32, Try.ntmps32
    go_wp2_with fail
    refine (rValidate_any K h _ n c cs _ n' c' ds _ (HT.out.below B0.out (Nat.le_refl _))).mono ?_
    rintro e w1 ⟨rfl, b1⟩
    go_wp2_with fail
    go_ret2
    exact ⟨ret2_ii (by rw [HV.out]) rfl, B0.out.trans (b1.mono B0.out.size)⟩
  have o := errT_zero he
  have hn1 : 1 ≤ n' := by have := o.n1; omega
  have hn2 : n' ≤ 12 := by have := o.n2; omega
  obtain rfl : n = n' := by have := o.c.1; have := HT.out.1.length; omega
  have OK := hide (by have := o.tk; rw [L2] at this; exact this)
  have HA := hide (lb_all OK.out hn2)
  rw [he, okv_zero rfl, L2]
  have HE := hide he
  clear he o
  go_enter Try.func32, Try.ntmps32
  go_wp2_with fail
  refine (rValidate_any K h _ n c cs _ n c' ds _ (HT.out.below B0.out (Nat.le_refl _))).mono ?_
  rw [HE.out]
  rintro e w1 ⟨rfl, b1⟩
  have B1 := hide (B0.out.trans (b1.mono B0.out.size))
  have K1 := hide (K0.out.keep b1 K0.out.in_)
  clear b1
  obtain ⟨k0, k1, k2, k3, _⟩ := K1.out.four
  go_wp2_with fail
  refine (rleast_any K h _ n c cs _ c' ds _ (HT.out.below B1.out (Nat.le_refl _)) OK.out hn1 hn2).mono ?_
  rw [HA.out]
  rintro e w2 ⟨rfl, b2⟩
  go_wp2_with fail
  go_ret2
  exact ⟨rfl, B1.out.trans (b2.mono B1.out.size)⟩

set_option maxHeartbeats 4000000 in
theorem AirLeast_walk (K h : Int) (A : Option Addr) (n c : Nat) (cs : List Int) (A' : Option Addr) (n' c' : Nat) (ds : List Int) (w : World)
    (hT : Tin w A n c cs A' n' c' ds) :
    Calls Try.prog 5 #[.agg #[.int .i64 K, .int .i64 h, .slice A n c, .slice A' n' c']] w fun e w' => e = .returned (.bool true) ∧ Below w.heap.size w w' := by
  have HT := hide hT
  have B0 := hide ((Below.refl w.heap.size w).alloc (Nat.le_refl _) (.cells #[.int .i64 K, .int .i64 h, .slice A n c, .slice A' n' c'] 24))
  have K0 := hide (Bk.born w 24 #[.int .i64 K, .int .i64 h, .slice A n c, .slice A' n' c'])
  clear hT
  by_cases hL : 100 < n ∨ 100 < n'
  case pos =>
    go_enter Try.func5, Try.ntmps5
    go_wp2_with fail
    refine (Long_any K h _ n c cs _ n' c' ds _ (HT.out.below B0.out (Nat.le_refl _))).mono ?_
    rw [decide_eq_true hL]
    rintro e w1 ⟨rfl, b1⟩
    have B1 := hide (B0.out.trans (b1.mono B0.out.size))
    have K1 := hide (K0.out.keep b1 K0.out.in_)
    clear b1
    go_wp2_with fail
    refine (known_any _).mono ?_
    rintro e wz ⟨rfl, bz⟩
    go_wp2_with fail
    go_ret
    exact ⟨rfl, B1.out.trans (bz.mono B1.out.size)⟩
  go_enter Try.func5, Try.ntmps5
  go_wp2_with fail
  refine (Long_any K h _ n c cs _ n' c' ds _ (HT.out.below B0.out (Nat.le_refl _))).mono ?_
  rw [decide_eq_false hL]
  rintro e w1 ⟨rfl, b1⟩
  have B1 := hide (B0.out.trans (b1.mono B0.out.size))
  have K1 := hide (K0.out.keep b1 K0.out.in_)
  clear b1
  obtain ⟨k0, k1, k2, k3, _⟩ := K1.out.four
  go_wp2_with fail
  refine (Least_any K h _ n c cs _ n' c' ds _ (HT.out.below B1.out (Nat.le_refl _))).mono ?_
  rintro e w2 ⟨rfl, b2⟩
  have B2 := hide (B1.out.trans (b2.mono B1.out.size))
  have K2 := hide (K1.out.keep b2 K1.out.in_)
  clear b2
  clear k0 k1 k2 k3
  obtain ⟨k0, k1, k2, k3, _⟩ := K2.out.four
  go_wp2_with fail
  refine (rLeast_any K h _ n c cs _ n' c' ds _ (HT.out.below B2.out (Nat.le_refl _))).mono ?_
  rintro e w3 ⟨rfl, b3⟩
  have B3 := hide (B2.out.trans (b3.mono B2.out.size))
  have K3 := hide (K2.out.keep b3 K2.out.in_)
  clear b3
  clear k0 k1 k2 k3
  obtain ⟨k0, k1, k2, k3, _⟩ := K3.out.four
  go_wp2_with fail
  refine (Best_any K h _ n c cs _ n' c' ds _ (HT.out.below B3.out (Nat.le_refl _))).mono ?_
  rintro e w4 ⟨Ab, nb, cb, rfl, ob, b4⟩
  have B4 := hide (B3.out.trans (b4.mono B3.out.size))
  have K4 := hide (K3.out.keep b4 K3.out.in_)
  clear b4
  clear k0 k1 k2 k3
  have Lb := hide ob.len
  have Rb := hide (ob.row)
  clear ob
  obtain ⟨k0, k1, k2, k3, _⟩ := K4.out.four
  by_cases he : errT K h cs ds = 0
  case neg =>
    have he' : (errT K h cs ds != 0) = true := by simpa using he
    have hq0 : nb = 0 := by have := Lb.out; rw [okl_ne he] at this; simpa using this.symm
    subst hq0
    go_wp2_with fail
    refine (known_any _).mono ?_
    rintro e wz ⟨rfl, bz⟩
    go_wp2_with fail
    go_ret
    exact ⟨rfl, B4.out.trans (bz.mono B4.out.size)⟩
  have BO := hide (best_ok (errT_zero he))
  rw [okl_zero he] at Rb
  rw [he, okv_zero rfl]
  clear he
  generalize hf : (tk K h cs ds).f ds.length = fv at *
  clear hf
  go_wp2_with fail
  refine (rCheckPlan_any K h _ n c cs _ n' c' ds _ nb cb _ _ (HT.out.below B4.out (Nat.le_refl _)) Rb.out).mono ?_
  rw [BO.out.1]
  rw [okv_zero rfl]
  rw [BO.out.2.1]
  rintro e w5 ⟨rfl, b5⟩
  have B5 := hide (B4.out.trans (b5.mono B4.out.size))
  have K5 := hide (K4.out.keep b5 K4.out.in_)
  replace Rb := hide (Rb.out.below b5 (Nat.le_refl _))
  clear b5
  clear k0 k1 k2 k3
  obtain ⟨k0, k1, k2, k3, _⟩ := K5.out.four
  go_wp2_with fail
  refine (rIsTidy_any K h _ n c cs _ n' c' ds _ nb cb _ _ (HT.out.below B5.out (Nat.le_refl _)) Rb.out).mono ?_
  rw [BO.out.1]
  rw [okb_zero rfl]
  rw [decide_eq_true BO.out.2.2]
  rintro e w6 ⟨rfl, b6⟩
  have B6 := hide (B5.out.trans (b6.mono B5.out.size))
  have K6 := hide (K5.out.keep b6 K5.out.in_)
  replace Rb := hide (Rb.out.below b6 (Nat.le_refl _))
  clear b6
  clear k0 k1 k2 k3
  go_wp2_with fail
  refine (known_any _).mono ?_
  rintro e wz ⟨rfl, bz⟩
  go_wp2_with fail
  go_ret
  exact ⟨rfl, B6.out.trans (bz.mono B6.out.size)⟩

end Go.Proofs.Ytlndjjdggedljaa

/- MathK -/
namespace Go.Proofs.Ytlndjjdggedljaa
open Go.RowKit

/-- The first k numbers of the list are hours of the first n, each above the one before. -/
def SetTo (xs : List Int) (n k : Nat) : Prop := ∀ j, j < k → (0 ≤ xs.getD j 0 ∧ xs.getD j 0 ≤ (n : Int) - 1) ∧ (0 < j → xs.getD (j - 1) 0 < xs.getD j 0)
theorem SetTo.zero (xs : List Int) (n : Nat) : SetTo xs n 0 := fun _ h => by omega
theorem SetTo.succ {xs : List Int} {n k : Nat} (h : SetTo xs n k) (a : 0 ≤ xs.getD k 0 ∧ xs.getD k 0 ≤ (n : Int) - 1) (b : 0 < k → xs.getD (k - 1) 0 < xs.getD k 0) : SetTo xs n (k + 1) := fun j hj => by
  by_cases e : j = k
  · subst e; exact ⟨a, b⟩
  · exact h j (by omega)
theorem SetTo.up {xs : List Int} {n k : Nat} (h : SetTo xs n k) : ∀ {j i : Nat}, i < j → j < k → xs.getD i 0 < xs.getD j 0 := by
  intro j
  induction j with
  | zero => intro i h1; omega
  | succ j ih =>
    intro i h1 h2
    have a := (h (j + 1) h2).2 (by omega)
    rw [Nat.add_sub_cancel] at a
    by_cases e : i = j
    · subst e; exact a
    · have := ih (i := i) (by omega) (by omega)
      omega
def inS (xs : List Int) (s : Nat) : Bool := decide ((s : Int) ∈ xs)
theorem inS_iff (xs : List Int) (s : Nat) : inS xs s = true ↔ ∃ j, j < xs.length ∧ xs.getD j 0 = s := by
  unfold inS
  rw [decide_eq_true_iff, List.mem_iff_getElem]
  constructor
  · rintro ⟨j, h, e⟩
    exact ⟨j, h, by simp [List.getD_eq_getElem?_getD, h, e]⟩
  · rintro ⟨j, h, e⟩
    exact ⟨j, h, by simpa [List.getD_eq_getElem?_getD, h] using e⟩
theorem near_skip (t : Tk) {S : Nat → Bool} (u : Nat) {a : Nat} : ∀ {b : Nat}, a ≤ b → (∀ s, a ≤ s → s < b → ¬ S s = true) → t.near S u b = t.near S u a := by
  intro b
  induction b with
  | zero =>
    intro h _
    obtain rfl : a = 0 := by omega
    rfl
  | succ b ih =>
    intro h f
    by_cases e : a = b + 1
    · subst e; rfl
    · rw [t.near_out u (f b (by omega) (by omega)), ih (by omega) fun s h1 h2 => f s h1 (by omega)]
/-- The nearest start to u among the first k numbers of the list. -/
def Tk.ln (t : Tk) (xs : List Int) (u : Nat) : Nat → Option Nat
  | 0 => none
  | k + 1 => match t.ln xs u k with
    | none => if (xs.getD k 0).toNat ≤ u then some (xs.getD k 0).toNat else none
    | some b => if (xs.getD k 0).toNat ≤ u ∧ t.way (xs.getD k 0).toNat u < t.way b u then some (xs.getD k 0).toNat else some b
section
variable {t : Tk} {xs : List Int} {u k x b : Nat}
theorem Tk.ln_first (e : t.ln xs u k = none) (g : xs.getD k 0 = (x : Int)) (h : x ≤ u) : t.ln xs u (k + 1) = some x := by
  rw [Tk.ln, e, g, Int.toNat_natCast]; exact if_pos h
theorem Tk.ln_late (g : xs.getD k 0 = (x : Int)) (h : ¬ x ≤ u) : t.ln xs u (k + 1) = t.ln xs u k := by
  rw [Tk.ln, g, Int.toNat_natCast]
  split
  · rename_i e; rw [e]; exact if_neg h
  · rename_i e; rw [e]; exact if_neg fun q => h q.1
theorem Tk.ln_less (e : t.ln xs u k = some b) (g : xs.getD k 0 = (x : Int)) (h : x ≤ u) (l : t.way x u < t.way b u) : t.ln xs u (k + 1) = some x := by
  rw [Tk.ln, e, g, Int.toNat_natCast]; exact if_pos ⟨h, l⟩
theorem Tk.ln_more (e : t.ln xs u k = some b) (g : xs.getD k 0 = (x : Int)) (l : ¬ t.way x u < t.way b u) : t.ln xs u (k + 1) = some b := by
  rw [Tk.ln, e, g, Int.toNat_natCast]; exact if_neg fun q => l q.2
theorem Tk.ln_in (t : Tk) {n : Nat} (hs : SetTo xs n xs.length) : ∀ {k b : Nat}, k ≤ xs.length → t.ln xs u k = some b → b ≤ u ∧ b < n := by
  intro k
  induction k with
  | zero => intro b _ e; cases e
  | succ k ih =>
    intro b hk e
    have a := (hs k (by omega)).1
    obtain ⟨x, g⟩ : ∃ x : Nat, xs.getD k 0 = (x : Int) := ⟨(xs.getD k 0).toNat, by omega⟩
    by_cases h : x ≤ u
    · cases e' : t.ln xs u k with
      | none => rw [Tk.ln_first e' g h] at e; injection e with e; omega
      | some c =>
        by_cases l : t.way x u < t.way c u
        · rw [Tk.ln_less e' g h l] at e; injection e with e; omega
        · rw [Tk.ln_more e' g l] at e; exact ih (by omega) (e'.trans e)
    · rw [Tk.ln_late g h] at e; exact ih (by omega) e
theorem Tk.ln_near (t : Tk) {n : Nat} (hs : SetTo xs n xs.length) (hu : u < n) : ∀ {k : Nat}, k ≤ xs.length →
    t.ln xs u k = t.near (inS xs) u (min (if k < xs.length then (xs.getD k 0).toNat else n) (u + 1)) := by
  intro k
  induction k with
  | zero =>
    intro _
    rw [near_skip t u (Nat.zero_le _)]
    · rfl
    · intro s _ h2 h3
      obtain ⟨j, hj, e⟩ := (inS_iff xs s).1 h3
      rw [if_pos (by omega)] at h2
      have a := (hs 0 (by omega)).1
      by_cases ej : j = 0
      · subst ej; omega
      · have := hs.up (i := 0) (j := j) (by omega) hj
        omega
  | succ k ih =>
    intro hk
    have a := (hs k (by omega)).1
    obtain ⟨x, g⟩ : ∃ x : Nat, xs.getD k 0 = (x : Int) := ⟨(xs.getD k 0).toNat, by omega⟩
    have ih := ih (by omega)
    rw [if_pos (by omega), g, Int.toNat_natCast] at ih
    have hS : inS xs x = true := (inS_iff xs x).2 ⟨k, by omega, g⟩
    have hb : x < (if k + 1 < xs.length then (xs.getD (k + 1) 0).toNat else n) := by
      split
      · have := hs.up (i := k) (j := k + 1) (by omega) (by omega)
        omega
      · omega
    have hb2 : ∀ s : Nat, x < s → s < (if k + 1 < xs.length then (xs.getD (k + 1) 0).toNat else n) → ¬ inS xs s = true := by
      intro s h1 h2 h3
      obtain ⟨j, hj, e⟩ := (inS_iff xs s).1 h3
      have hjk : k < j := by
        apply Classical.byContradiction
        intro q
        by_cases ej : j = k
        · subst ej; omega
        · have := hs.up (i := j) (j := k) (by omega) (by omega)
          omega
      rw [if_pos (by omega)] at h2
      by_cases ej : j = k + 1
      · subst ej; omega
      · have := hs.up (i := k + 1) (j := j) (by omega) hj
        omega
    generalize (if k + 1 < xs.length then (xs.getD (k + 1) 0).toNat else n) = b' at *
    by_cases h : x ≤ u
    · rw [show min x (u + 1) = x by omega] at ih
      rw [near_skip t u (a := x + 1) (by omega) fun s h1 h2 => hb2 s (by omega) (by omega)]
      cases e : t.near (inS xs) u x with
      | none =>
        rw [e] at ih
        rw [Tk.ln_first ih g h, t.near_new hS e]
      | some c =>
        rw [e] at ih
        by_cases l : t.way x u < t.way c u
        · rw [Tk.ln_less ih g h l, t.near_less hS e l]
        · rw [Tk.ln_more ih g l, t.near_more hS e l]
    · rw [Tk.ln_late g h, ih, show min x (u + 1) = u + 1 by omega, show min b' (u + 1) = u + 1 by omega]
theorem Tk.ln_all (t : Tk) {n : Nat} (hs : SetTo xs n xs.length) (hu : u < n) : t.ln xs u xs.length = t.near (inS xs) u (u + 1) := by
  rw [t.ln_near hs hu (Nat.le_refl _), if_neg (Nat.lt_irrefl _), show min n (u + 1) = u + 1 by omega]
end

/-- The first k numbers of the list as a number. -/
def msk (xs : List Int) : Nat → Nat
  | 0 => 0
  | k + 1 => msk xs k ||| 2 ^ (xs.getD k 0).toNat
theorem msk_bit (xs : List Int) (s : Nat) : ∀ k : Nat, (msk xs k).testBit s = decide (∃ j, j < k ∧ (xs.getD j 0).toNat = s) := by
  intro k
  induction k with
  | zero => simp [msk]
  | succ k ih =>
    rw [msk, Nat.testBit_or, ih, Nat.testBit_two_pow]
    rw [← Bool.decide_or]
    apply decide_eq_decide.2
    constructor
    · rintro (⟨j, h, e⟩ | e)
      · exact ⟨j, by omega, e⟩
      · exact ⟨k, by omega, e⟩
    · rintro ⟨j, h, e⟩
      by_cases ej : j = k
      · subst ej; exact Or.inr e
      · exact Or.inl ⟨j, by omega, e⟩
theorem msk_lt {xs : List Int} {n : Nat} : ∀ {k : Nat}, SetTo xs n k → msk xs k < 2 ^ n := by
  intro k
  induction k with
  | zero => intro _; exact Nat.two_pow_pos n
  | succ k ih =>
    intro h
    have a := (h k (by omega)).1
    exact Nat.or_lt_two_pow (ih fun j hj => h j (by omega)) (Nat.pow_lt_pow_right (by omega) (by omega))
theorem msk_in {xs : List Int} {n : Nat} (hn : n ≤ 12) (hs : SetTo xs n xs.length) {s : Nat} (h : s < n) : bitS (msk xs xs.length) s = inS xs s := by
  have a := msk_lt hs
  have b : 2 ^ n ≤ 2 ^ 12 := Nat.pow_le_pow_right (by omega) hn
  rw [bitS_eq _ _ (by omega) (by omega), msk_bit]
  apply Bool.eq_iff_iff.2
  rw [decide_eq_true_iff, inS_iff]
  constructor
  · rintro ⟨j, h1, h2⟩
    exact ⟨j, h1, by have := (hs j h1).1; omega⟩
  · rintro ⟨j, h1, h2⟩
    exact ⟨j, h1, by omega⟩
theorem can_congr (t : Tk) {S S' : Nat → Bool} {n : Nat} (h : ∀ s, s < n → S s = S' s) : t.Can S n ↔ t.Can S' n := by
  unfold Tk.Can
  constructor
  · intro f u hu hd
    rw [← near_congr t u fun s hs => h s (by omega)]
    exact f u hu hd
  · intro f u hu hd
    rw [near_congr t u fun s hs => h s (by omega)]
    exact f u hu hd
theorem ast_congr (t : Tk) {S S' : Nat → Bool} {n u : Nat} (h : ∀ s, s < n → S s = S' s) (hu : u < n) : t.ast S u = t.ast S' u := by
  unfold Tk.ast
  rw [near_congr t u fun s hs => h s (by omega)]
theorem asg_congr (t : Tk) {a a' : Nat → Nat} {n m : Nat} (h : ∀ u, u < n → a u = a' u) (hm : m ≤ n) (i : Nat) : t.asg a m i = t.asg a' m i :=
  sm_congr fun u _ hu => by rw [h u (by omega)]
theorem aL_congr (t : Tk) {a a' : Nat → Nat} {n : Nat} (h : ∀ u, u < n → a u = a' u) : t.aL a n n = t.aL a' n n := by
  unfold Tk.aL
  apply List.map_congr_left
  intro i _
  exact asg_congr t h (Nat.le_refl _) i
/-- bits or of two numbers that are no less than 0. -/
theorem bits_or (a b : Nat) (ha : a < 4611686018427387904) (hb : b < 4611686018427387904) : bits BinOp.or IntKind.i64 (a : Int) (b : Int) = ((a ||| b : Nat) : Int) := by
  have h1 : (BitVec.ofInt 64 (a : Int)).toNat = a := by
    rw [BitVec.ofInt_natCast, BitVec.toNat_ofNat]
    exact Nat.mod_eq_of_lt (by omega)
  have h2 : (BitVec.ofInt 64 (b : Int)).toNat = b := by
    rw [BitVec.ofInt_natCast, BitVec.toNat_ofNat]
    exact Nat.mod_eq_of_lt (by omega)
  have h3 : a ||| b < 2 ^ 62 := Nat.or_lt_two_pow (by omega) (by omega)
  show IntKind.i64.wrap ((BitVec.ofInt 64 (a : Int) ||| BitVec.ofInt 64 (b : Int)).toNat : Int) = _
  rw [BitVec.toNat_or, h1, h2]
  exact IntWalk.i64_in _ (by omega)
end Go.Proofs.Ytlndjjdggedljaa
