/- Walks of the document's own At, and of AirSets. -/
import Derived.Test.YtlndjjdggedljaaWalkNr
namespace Go.Proofs.Ytlndjjdggedljaa
open Go.RowKit

theorem within_quiet {a lo hi : Int} {v : Bool} (hv : withinB a lo hi = v) (w : World) (m : Nat) : Calls Try.prog 61 #[.int .i64 a, .int .i64 lo, .int .i64 hi] (w.drewN m) fun e w'' => e = .returned (.bool v) ∧ ∃ q, w'' = w.drewN q :=
  Calls.quiet_of_same ((within_any a lo hi (w.drewN m)).mono fun e w' h => ⟨by rw [h.1, hv], h.2.symm⟩)

set_option maxHeartbeats 4000000 in
theorem rmask_any (Sp : Option Addr) (ns sc : Nat) (ss : List Int) (n : Nat) (w : World) (hS : Row w Sp ns sc ss) (hn : n ≤ 12) :
    Calls Try.prog 72 #[.slice Sp ns sc, .int .i64 n] w fun e w' =>
      ((¬ SetTo ss n ns ∧ e = .returned (.tuple #[.int .i64 0, .bool false])) ∨ (SetTo ss n ns ∧ e = .returned (.tuple #[.int .i64 (msk ss ns : Nat), .bool true]))) ∧ Below w.heap.size w w' := by
  have HSr := hide hS
  clear hS
  have wn : IntKind.i64.wrap ((n : Int) - 1) = (n : Int) - 1 := IntWalk.i64_in _ (by omega)
  go_enter Try.func72, Try.ntmps72
  go_wp2_with fail
  go_loopw [6, 7] (fun m i wr => ∃ k : Nat, k ≤ ns ∧ i = .int .i64 k ∧ m = .int .i64 (msk ss k : Nat) ∧ SetTo ss n k ∧ Below w.heap.size w wr) (fun _ i _ => ns - (intOf i).toNat)
  case atStart => exact ⟨0, by omega, rfl, rfl, SetTo.zero _ _, Below.refl _ _⟩
  case round =>
    obtain ⟨k, hk, rfl, rfl, hst, hbel⟩ := hrel
    have HST := hide hst
    have HBL := hide hbel
    clear hst hbel
    by_cases hlt : k < ns
    · obtain ⟨bs, os, rs⟩ := HSr.out
      obtain rfl := rs.at_ (by omega)
      have rcap := rs.cap
      have rmax := rs.max
      have RS := hide (rs.below HBL.out (Nat.le_refl _))
      clear rs
      have cx := RS.out.cell k hlt
      have l2 : (k : Int) < ns := by omega
      have HY := hide (fun a b => HST.out.succ (k := k) a b)
      have HN := hide (fun (q : ¬ (0 ≤ ss.getD k 0 ∧ ss.getD k 0 ≤ (n : Int) - 1)) (f : SetTo ss n ns) => q (f k hlt).1)
      have HP := hide (fun (q0 : 0 < k) (q : ¬ ss.getD (k - 1) 0 < ss.getD k 0) (f : SetTo ss n ns) => q ((f k hlt).2 q0))
      have HM := hide (show msk ss (k + 1) = msk ss k ||| 2 ^ (ss.getD k 0).toNat from rfl)
      have HLT := hide (msk_lt HST.out)
      have P12 := hide (Nat.pow_le_pow_right (n := 2) (by omega) hn)
      generalize hx : ss.getD k 0 = x at *
      clear hx
      generalize msk ss k = m at *
      by_cases hin : 0 ≤ x ∧ x ≤ (n : Int) - 1
      · have HW := hide (withinB_true hin.1 hin.2)
        obtain ⟨y, rfl⟩ : ∃ y : Nat, x = (y : Int) := ⟨x.toNat, by omega⟩
        rw [Int.toNat_natCast] at HM
        have hy : y < 12 := by omega
        have p4 : 2 ^ y ≤ 2 ^ 12 := Nat.pow_le_pow_right (n := 2) (by omega) (show y ≤ 12 by omega)
        have p3 := HLT.out
        have wp0 : ∀ q : Nat, q ≤ 4096 → IntKind.i64.wrap (q : Int) = q := fun q hq => IntWalk.i64_in _ (by omega)
        have p5 := P12.out
        have wq : IntKind.u64.wrap (y : Int) = y := IntWalk.u64_in _ (by omega)
        have wm : min y 64 = y := by omega
        have wp : IntKind.i64.wrap ((2 : Int) ^ y) = ((2 ^ y : Nat) : Int) := by rw [show ((2 : Int) ^ y) = ((2 ^ y : Nat) : Int) by simp]; exact wp0 _ p4
        have HBO := hide (show bits BinOp.or IntKind.i64 (m : Int) ((2 : Int) ^ y) = ((m ||| 2 ^ y : Nat) : Int) by rw [show ((2 : Int) ^ y) = ((2 ^ y : Nat) : Int) by simp]; exact bits_or _ _ (Nat.lt_of_lt_of_le p3 (Nat.le_trans p5 (by decide))) (Nat.lt_of_le_of_lt p4 (by decide)))
        clear p3 p4 p5 wp0
        cases k with
        | zero =>
          rw [Nat.add_zero] at cx
          go_wp2_with fail
          go_quiet (first | (go_at_call 61; exact within_quiet HW.out _ _))
          all_goals
            go_wp2_with fail
            go_roundw
            case rel => exact ⟨1, by omega, by go_num, by rw [HM.out, HBO.out], HY.out hin fun q => by omega, below_drewN HBL.out _⟩
            case measure => simp [intOf]; omega
        | succ j =>
          have cp := RS.out.cell j (by omega)
          rw [show j + 1 - 1 = j from rfl] at HY HP
          generalize hp : ss.getD j 0 = p at *
          clear hp
          have wj : IntKind.i64.wrap ((j : Int) + 1 - 1) = j := by rw [Int.add_sub_cancel]; exact IntWalk.i64_in _ (by omega)
          have l3 : (j : Int) < ns := by omega
          have l4 : (0 : Int) < (j : Int) + 1 := by omega
          have l5 : (0 : Int) ≤ (j : Int) + 1 := by omega
          have l6 : (j : Int) + 1 < ns := by omega
          by_cases h2 : p < (y : Int)
          · have h2' : ¬ (y : Int) ≤ p := by omega
            go_wp2_with fail
            go_quiet (first | (go_at_call 61; exact within_quiet HW.out _ _))
            all_goals
              go_wp2_with fail
              go_roundw
              case rel => exact ⟨j + 2, by omega, by go_num, by rw [HM.out, HBO.out], HY.out hin fun _ => h2, below_drewN HBL.out _⟩
              case measure => simp [intOf]; omega
          · have h2' : (y : Int) ≤ p := by omega
            have HF := hide (HP.out (by omega) h2)
            go_wp2_with fail
            go_quiet (first | (go_at_call 61; exact within_quiet HW.out _ _))
            all_goals
              go_wp2_with fail
              go_ret2
              exact ⟨Or.inl ⟨HF.out, rfl⟩, below_drewN HBL.out _⟩
      · have HW := hide (withinB_no hin)
        have HF := hide (HN.out hin)
        go_wp2_with fail
        go_quiet (first | (go_at_call 61; exact within_quiet HW.out _ _))
        all_goals
          go_wp2_with fail
          go_ret2
          exact ⟨Or.inl ⟨HF.out, rfl⟩, below_drewN HBL.out _⟩
    · obtain rfl : k = ns := by omega
      go_wp2_with fail
      go_ret2
      exact ⟨Or.inr ⟨HST.out, rfl⟩, HBL.out⟩


theorem AtPost.to {t : Tk} {S S' : Nat → Bool} {n : Nat} {w w' : World} {e : Ending} (h : AtPost t S n w e w') (g : ∀ s, s < n → S s = S' s) : AtPost t S' n w e w' := by
  obtain ⟨b, (⟨h1, h2⟩ | ⟨h1, A, c, h2, h3⟩)⟩ := h
  · exact ⟨b, Or.inl ⟨fun q => h1 ((can_congr t g).2 q), h2⟩⟩
  · exact ⟨b, Or.inr ⟨(can_congr t g).1 h1, A, c, h2, by rw [← aL_congr t fun u hu => ast_congr t g hu]; exact h3⟩⟩

set_option maxHeartbeats 4000000 in
theorem rAt_any (K h : Int) (A : Option Addr) (n c : Nat) (cs : List Int) (A' : Option Addr) (n' c' : Nat) (ds : List Int) (Sp : Option Addr) (ns sc : Nat) (ss : List Int) (w : World)
    (hT : Tin w A n c cs A' n' c' ds) (hS : Row w Sp ns sc ss) :
    Calls Try.prog 38 #[.agg #[.int .i64 K, .int .i64 h, .slice A n c, .slice A' n' c'], .slice Sp ns sc] w (At3 (tk K h cs ds) (inS ss) n' (errS K h cs ds ss) w) := by
  have HT := hide hT
  have HSr := hide hS
  have LS := hide hS.length
  have L2 := hT.2.length
  have B0 := hide ((Below.refl w.heap.size w).alloc (Nat.le_refl _) (.cells #[.int .i64 K, .int .i64 h, .slice A n c, .slice A' n' c'] 24))
  have K0 := hide (Bk.born w 24 #[.int .i64 K, .int .i64 h, .slice A n c, .slice A' n' c'])
  clear hT hS
  by_cases he : errT K h cs ds = 0
  case neg =>
    have HE := hide (errS_task (ss := ss) (errT_not he))
    have H1 := hide (errT_ne he)
    clear he
    go_enter Try.func38, Try.ntmps38
    go_wp2_with fail
    refine (rValidate_any K h _ n c cs _ n' c' ds _ (HT.out.below B0.out (Nat.le_refl _))).mono ?_
    rw [H1.out]
    rintro e w1 ⟨rfl, b1⟩
    go_wp2_with fail
    go_ret3
    rw [HE.out]
    exact ⟨B0.out.trans (b1.mono B0.out.size), Or.inl ⟨Or.inl (by decide), rfl⟩⟩
  have o := errT_zero he
  have hn1 : 1 ≤ n' := by have := o.n1; omega
  have hn2 : n' ≤ 12 := by have := o.n2; omega
  obtain rfl : n = n' := by have := o.c.1; have := HT.out.1.length; omega
  have OK := hide (by have := o.tk; rw [L2] at this; exact this)
  have HG := hide (fun (s : SetTo ss n ns) => errS_ok (ss := ss) o (by rw [L2, LS.out]; exact s))
  have HB1 := hide (fun (s : ¬ SetTo ss n ns) => errS_set (K := K) (h := h) (cs := cs) (ds := ds) (ss := ss) (by rw [L2, LS.out]; exact s))
  have HE := hide he
  clear he o L2
  go_enter Try.func38, Try.ntmps38
  go_wp2_with fail
  refine (rValidate_any K h _ n c cs _ n c' ds _ (HT.out.below B0.out (Nat.le_refl _))).mono ?_
  rw [HE.out]
  rintro e w1 ⟨rfl, b1⟩
  have B1 := hide (B0.out.trans (b1.mono B0.out.size))
  have K1 := hide (K0.out.keep b1 K0.out.in_)
  clear b1
  obtain ⟨k0, k1, k2, k3, _⟩ := K1.out.four
  go_wp2_with fail
  refine (rmask_any Sp ns sc ss n _ (HSr.out.below B1.out (Nat.le_refl _)) hn2).mono ?_
  rintro e w2 ⟨(⟨hs, rfl⟩ | ⟨hs, rfl⟩), b2⟩
  · have HS := hide hs
    clear hs
    go_wp2_with fail
    go_ret3
    rw [HB1.out HS.out]
    exact ⟨B1.out.trans (b2.mono B1.out.size), Or.inl ⟨Or.inl (by decide), rfl⟩⟩
  · have HS := hide hs
    clear hs
    have B2 := hide (B1.out.trans (b2.mono B1.out.size))
    have K2 := hide (K1.out.keep b2 K1.out.in_)
    clear b2 k0 k1 k2 k3
    obtain ⟨k0, k1, k2, k3, _⟩ := K2.out.four
    go_wp2_with fail
    refine ((rat_any K h _ n c cs _ c' ds (msk ss ns) _ (HT.out.below B2.out (Nat.le_refl _)) OK.out hn1 hn2).mono fun _ _ q => q.to (S' := inS ss) fun s hs => by rw [← LS.out]; exact msk_in hn2 (by rw [LS.out]; exact HS.out) hs).mono ?_
    rintro e w3 ⟨b3, (⟨hc, rfl⟩ | ⟨hc, A3, c3, rfl, o3⟩)⟩
    · have HC := hide hc
      go_wp2_with fail
      go_ret3
      rw [HG.out HS.out]
      exact ⟨B2.out.trans (b3.mono B2.out.size), Or.inl ⟨Or.inr HC.out, rfl⟩⟩
    · have HC := hide hc
      have HO := hide o3
      clear o3
      go_wp2_with fail
      go_ret3
      rw [HG.out HS.out]
      exact ⟨B2.out.trans (b3.mono B2.out.size), Or.inr ⟨rfl, HC.out, _, _, rfl, HO.out.more B2.out.size⟩⟩

/-- The plan of a set of starts is right, and costs at least the least. -/
theorem sets_ok {K h : Int} {cs ds : List Int} (o : OkT K h cs ds) (S : Nat → Bool) {n : Nat} (hn : ds.length = n) : errP K h cs ds ((tk K h cs ds).aL ((tk K h cs ds).ast S) n n) = 0 ∧
    (tk K h cs ds).f ds.length ≤ (tk K h cs ds).cost (pl ((tk K h cs ds).aL ((tk K h cs ds).ast S) n n)) ds.length := by
  subst hn
  have e : ∀ i, i < ds.length → (tk K h cs ds).asg ((tk K h cs ds).ast S) ds.length i = pl ((tk K h cs ds).aL ((tk K h cs ds).ast S) ds.length ds.length) i := fun i hi => (Tk.aL_get _ _ hi).symm
  have r := Tk.asg_right o.tk o.n2 (a := (tk K h cs ds).ast S) fun u _ => (tk K h cs ds).ast_le S u
  refine ⟨errP_ok o ⟨by rw [Tk.aL_len], fun j hj => ?_⟩ ⟨fun i hi => ?_, ?_⟩, ?_⟩
  · rw [Tk.aL_len] at hj
    rw [Tk.aL_get _ _ hj]
    exact r.in_ j hj
  · rw [← stk_congr e (i := i + 1) (by omega)]; exact r.stk i hi
  · rw [← stk_congr e (Nat.le_refl _)]; exact r.last
  · rw [← cost_congr e]; exact o.tk.least_le r
theorem At3.neg {t : Tk} {S : Nat → Bool} {n : Nat} {er : Int} {w w' : World} {e : Ending} (q : At3 t S n er w e w') (g : ¬ (er = 0 ∧ t.Can S n)) : e = .returned (.tuple #[.slice none 0 0, .bool false, .int .i64 er]) ∧ Below w.heap.size w w' := by
  obtain ⟨b, (⟨_, h⟩ | ⟨h1, h2, _⟩)⟩ := q
  · exact ⟨h, b⟩
  · exact absurd ⟨h1, h2⟩ g
theorem At3.pos {t : Tk} {S : Nat → Bool} {n : Nat} {er : Int} {w w' : World} {e : Ending} (q : At3 t S n er w e w') (g : er = 0) (g' : t.Can S n) :
    ∃ A c, e = .returned (.tuple #[.slice A n c, .bool true, .int .i64 0]) ∧ Own w' w.heap.size A n c (t.aL (t.ast S) n n) ∧ Below w.heap.size w w' := by
  obtain ⟨b, (⟨h, _⟩ | ⟨_, _, A, c, h1, h2⟩)⟩ := q
  · rcases h with h | h
    · exact absurd g h
    · exact absurd g' h
  · exact ⟨A, c, h1, h2, b⟩

set_option maxHeartbeats 4000000 in
theorem AirSets_walk (K h : Int) (A : Option Addr) (n c : Nat) (cs : List Int) (A' : Option Addr) (n' c' : Nat) (ds : List Int) (S : Option Addr) (ns sc : Nat) (ss : List Int) (w : World)
    (hT : Tin w A n c cs A' n' c' ds) (hS : Row w S ns sc ss) :
    Calls Try.prog 8 #[.agg #[.int .i64 K, .int .i64 h, .slice A n c, .slice A' n' c'], .slice S ns sc] w fun e w' => e = .returned (.bool true) ∧ Below w.heap.size w w' := by
  have HT := hide hT
  have HSr := hide hS
  have B0 := hide ((Below.refl w.heap.size w).alloc (Nat.le_refl _) (.cells #[.int .i64 K, .int .i64 h, .slice A n c, .slice A' n' c'] 24))
  have K0 := hide (Bk.born w 24 #[.int .i64 K, .int .i64 h, .slice A n c, .slice A' n' c'])
  clear hT hS
  by_cases hL : 100 < n ∨ 100 < n'
  case pos =>
    go_enter Try.func8, Try.ntmps8
    go_wp2_with fail
    refine (Long_any K h _ n c cs _ n' c' ds _ (HT.out.below B0.out (Nat.le_refl _))).mono ?_
    rw [decide_eq_true hL]
    rintro e w1 ⟨rfl, b1⟩
    have B1 := hide (B0.out.trans (b1.mono B0.out.size))
    have K1 := hide (K0.out.keep b1 K0.out.in_)
    clear b1
    go_wp2_with fail
    refine (known_any _).mono ?_
    rintro e wz ⟨rfl, bz⟩
    go_wp2_with fail
    go_ret
    exact ⟨rfl, B1.out.trans (bz.mono B1.out.size)⟩
  by_cases hL4 : 100 < ns
  case pos =>
    go_enter Try.func8, Try.ntmps8
    go_wp2_with fail
    refine (Long_any K h _ n c cs _ n' c' ds _ (HT.out.below B0.out (Nat.le_refl _))).mono ?_
    rw [decide_eq_false hL]
    rintro e w1 ⟨rfl, b1⟩
    have B1 := hide (B0.out.trans (b1.mono B0.out.size))
    have K1 := hide (K0.out.keep b1 K0.out.in_)
    clear b1
    go_wp2_with fail
    refine (large_any _ ns sc ss _ (HSr.out.below B1.out (Nat.le_refl _))).mono ?_
    rw [decide_eq_true hL4]
    rintro e wq ⟨rfl, rfl⟩
    go_wp2_with fail
    refine (known_any _).mono ?_
    rintro e wz ⟨rfl, bz⟩
    go_wp2_with fail
    go_ret
    exact ⟨rfl, B1.out.trans (bz.mono B1.out.size)⟩
  go_enter Try.func8, Try.ntmps8
  go_wp2_with fail
  refine (Long_any K h _ n c cs _ n' c' ds _ (HT.out.below B0.out (Nat.le_refl _))).mono ?_
  rw [decide_eq_false hL]
  rintro e w1 ⟨rfl, b1⟩
  have B1 := hide (B0.out.trans (b1.mono B0.out.size))
  have K1 := hide (K0.out.keep b1 K0.out.in_)
  clear b1
  go_wp2_with fail
  refine (large_any _ ns sc ss _ (HSr.out.below B1.out (Nat.le_refl _))).mono ?_
  rw [decide_eq_false hL4]
  rintro e wq ⟨rfl, rfl⟩
  obtain ⟨k0, k1, k2, k3, _⟩ := K1.out.four
  have L2 := hide HT.out.2.length
  by_cases hg : errS K h cs ds ss = 0 ∧ (tk K h cs ds).Can (inS ss) n'
  case neg =>
    have HG := hide hg
    clear hg
    have he : (errS K h cs ds ss != errS K h cs ds ss) = false := by simp
    go_wp2_with fail
    refine ((At_any K h _ n c cs _ n' c' ds _ ns sc ss _ (HT.out.below B1.out (Nat.le_refl _)) (HSr.out.below B1.out (Nat.le_refl _))).mono fun _ _ q => q.neg HG.out).mono ?_
    rintro e w2 ⟨rfl, b2⟩
    have B2 := hide (B1.out.trans (b2.mono B1.out.size))
    have K2 := hide (K1.out.keep b2 K1.out.in_)
    clear b2
    clear k0 k1 k2 k3
    obtain ⟨k0, k1, k2, k3, _⟩ := K2.out.four
    go_wp2_with fail
    refine ((rAt_any K h _ n c cs _ n' c' ds _ ns sc ss _ (HT.out.below B2.out (Nat.le_refl _)) (HSr.out.below B2.out (Nat.le_refl _))).mono fun _ _ q => q.neg HG.out).mono ?_
    rintro e w3 ⟨rfl, b3⟩
    have B3 := hide (B2.out.trans (b3.mono B2.out.size))
    have K3 := hide (K2.out.keep b3 K2.out.in_)
    clear b3
    clear k0 k1 k2 k3
    go_wp2_with fail
    refine (SameInts_any _ _ _ [] _ _ _ [] _ (Own.nil _ 0).row (Own.nil _ 0).row).mono ?_
    rw [show eqL [] [] = true from rfl]
    rintro e w4 ⟨rfl, b4⟩
    have B4 := hide (B3.out.trans (b4.mono B3.out.size))
    have K4 := hide (K3.out.keep b4 K3.out.in_)
    clear b4
    go_wp2_with fail
    refine (known_any _).mono ?_
    rintro e wz ⟨rfl, bz⟩
    go_wp2_with fail
    go_ret
    exact ⟨rfl, B4.out.trans (bz.mono B4.out.size)⟩
  obtain ⟨he, hc⟩ := hg
  have HO := hide (errS_zero he).1
  have HC := hide hc
  have HE := hide he
  clear he hc
  have SO := hide (sets_ok HO.out (inS ss) L2.out)
  have HE0 := hide (errT_ok HO.out)
  go_wp2_with fail
  refine ((At_any K h _ n c cs _ n' c' ds _ ns sc ss _ (HT.out.below B1.out (Nat.le_refl _)) (HSr.out.below B1.out (Nat.le_refl _))).mono fun _ _ q => q.pos HE.out HC.out).mono ?_
  rintro e w2 ⟨A2, c2, rfl, o2, b2⟩
  have B2 := hide (B1.out.trans (b2.mono B1.out.size))
  have K2 := hide (K1.out.keep b2 K1.out.in_)
  clear b2
  have R2 := hide (o2.row)
  clear o2
  clear k0 k1 k2 k3
  obtain ⟨k0, k1, k2, k3, _⟩ := K2.out.four
  go_wp2_with fail
  refine ((rAt_any K h _ n c cs _ n' c' ds _ ns sc ss _ (HT.out.below B2.out (Nat.le_refl _)) (HSr.out.below B2.out (Nat.le_refl _))).mono fun _ _ q => q.pos HE.out HC.out).mono ?_
  rintro e w3 ⟨A3, c3, rfl, o3, b3⟩
  have B3 := hide (B2.out.trans (b3.mono B2.out.size))
  have K3 := hide (K2.out.keep b3 K2.out.in_)
  replace R2 := hide (R2.out.below b3 (Nat.le_refl _))
  clear b3
  have R3 := hide (o3.row)
  clear o3
  clear k0 k1 k2 k3
  obtain ⟨k0, k1, k2, k3, _⟩ := K3.out.four
  have LN := hide ((tk K h cs ds).aL_len ((tk K h cs ds).ast (inS ss)) n' n')
  generalize (tk K h cs ds).aL ((tk K h cs ds).ast (inS ss)) n' n' = la at *
  go_wp2_with fail
  refine (SameInts_any _ _ _ _ _ _ _ _ _ R2.out R3.out).mono ?_
  rw [eqL_self]
  rintro e w4 ⟨rfl, b4⟩
  have B4 := hide (B3.out.trans (b4.mono B3.out.size))
  have K4 := hide (K3.out.keep b4 K3.out.in_)
  replace R2 := hide (R2.out.below b4 (Nat.le_refl _))
  replace R3 := hide (R3.out.below b4 (Nat.le_refl _))
  clear b4
  clear k0 k1 k2 k3
  obtain ⟨k0, k1, k2, k3, _⟩ := K4.out.four
  go_wp2_with fail
  refine (CheckPlan_any K h _ n c cs _ n' c' ds _ n' c2 la _ (HT.out.below B4.out (Nat.le_refl _)) R2.out).mono ?_
  rw [SO.out.1]
  rw [okv_zero rfl]
  rintro e w5 ⟨rfl, b5⟩
  have B5 := hide (B4.out.trans (b5.mono B4.out.size))
  have K5 := hide (K4.out.keep b5 K4.out.in_)
  replace R2 := hide (R2.out.below b5 (Nat.le_refl _))
  replace R3 := hide (R3.out.below b5 (Nat.le_refl _))
  clear b5
  clear k0 k1 k2 k3
  obtain ⟨k0, k1, k2, k3, _⟩ := K5.out.four
  go_wp2_with fail
  refine (Least_any K h _ n c cs _ n' c' ds _ (HT.out.below B5.out (Nat.le_refl _))).mono ?_
  rw [HE0.out]
  rw [okv_zero rfl]
  rintro e w6 ⟨rfl, b6⟩
  have B6 := hide (B5.out.trans (b6.mono B5.out.size))
  have K6 := hide (K5.out.keep b6 K5.out.in_)
  replace R2 := hide (R2.out.below b6 (Nat.le_refl _))
  replace R3 := hide (R3.out.below b6 (Nat.le_refl _))
  clear b6
  clear k0 k1 k2 k3
  have LE := SO.out.2
  generalize (tk K h cs ds).cost (pl la) ds.length = c9 at *
  generalize (tk K h cs ds).f ds.length = f9 at *
  go_wp2_with fail
  refine (known_any _).mono ?_
  rintro e wz ⟨rfl, bz⟩
  go_wp2_with fail
  go_ret
  exact ⟨rfl, B6.out.trans (bz.mono B6.out.size)⟩

end Go.Proofs.Ytlndjjdggedljaa
