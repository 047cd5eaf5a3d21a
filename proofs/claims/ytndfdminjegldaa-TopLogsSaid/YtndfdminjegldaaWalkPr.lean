/- Walks: the first longest part, the document. -/
import Derived.Test.YtndfdminjegldaaWalkPb
import Derived.Deep.Cut
import Derived.Deep.CutRange
namespace Go.Proofs.Ytndfdminjegldaa
open Go.RowKit Go.Shelf
attribute [local go_sem] Oper.semAt_some

def pfo (f : Nat) (l m : List Int) (t : Nat) : List Int := (List.range t).foldl (fun (best : List Int) (s : Nat) => bet best (via (partF f) l m (s : Int))) []
theorem bet_some (b y : List Int) : bet b (some y) = if b.length < y.length then y else b := rfl
theorem pfo_zero (f : Nat) (l m : List Int) : pfo f l m 0 = [] := rfl
theorem pfo_succ (f : Nat) (l m : List Int) (t : Nat) : pfo f l m (t + 1) = bet (pfo f l m t) (via (partF f) l m (t : Int)) := by
  unfold pfo; rw [List.range_succ, List.foldl_append]; rfl
theorem pfo_six (f : Nat) (l m : List Int) : pfo f l m 6 = partF (f + 1) l m := rfl
theorem via_none1 {P : List Int → List Int → List Int} {l m : List Int} {s : Int} (h : aft s l = none) : via P l m s = none := by unfold via; rw [h]
theorem via_none2 {P : List Int → List Int → List Int} {l m : List Int} {s : Int} (h : aft s m = none) : via P l m s = none := by
  unfold via
  rw [h]
  cases aft s l <;> rfl
theorem via_some {P : List Int → List Int → List Int} {l m a b : List Int} {s : Int} (h : aft s l = some a) (h' : aft s m = some b) : via P l m s = some (s :: P a b) := by unfold via; rw [h, h']
theorem foldl_congr' {α : Type} {g h : α → Nat → α} : ∀ (ss : List Nat) (b : α), (∀ b s, g b s = h b s) → ss.foldl g b = ss.foldl h b
  | [], _, _ => rfl
  | s :: ss, b, e => by rw [List.foldl_cons, List.foldl_cons, e b s]; exact foldl_congr' ss _ e
theorem partF_more : ∀ (f : Nat) (l m : List Int), l.length ≤ f → partF (f + 1) l m = partF f l m
  | 0, l, m, h => by
    have e : l = [] := List.eq_nil_of_length_eq_zero (by omega)
    subst e
    have : ∀ s : Int, via (partF 0) [] m s = none := fun s => via_none1 rfl
    show (List.range 6).foldl (fun (best : List Int) (s : Nat) => bet best (via (partF 0) [] m (s : Int))) [] = []
    simp only [this]
    decide
  | f + 1, l, m, h => by
    show (List.range 6).foldl (fun (best : List Int) (s : Nat) => bet best (via (partF (f + 1)) l m (s : Int))) [] = (List.range 6).foldl (fun (best : List Int) (s : Nat) => bet best (via (partF f) l m (s : Int))) []
    refine foldl_congr' _ _ fun b s => ?_
    have e : via (partF (f + 1)) l m (s : Int) = via (partF f) l m (s : Int) := by
      cases ha : aft (s : Int) l with
      | none => rw [via_none1 ha, via_none1 ha]
      | some a =>
        cases hb : aft (s : Int) m with
        | none => rw [via_none2 hb, via_none2 hb]
        | some b' =>
          have := aft_len ha
          rw [via_some ha hb, via_some ha hb, partF_more f a b' (by omega)]
    rw [e]
/-- The first place of a sign from i on. -/
def FstTo (xs : List Int) (s : Int) (i : Nat) (a : Int) : Prop := (a = -1 ∧ ∀ j, i ≤ j → j < xs.length → xs.getD j 0 ≠ s) ∨ ∃ k : Nat, a = (k : Int) ∧ i ≤ k ∧ k < xs.length ∧ xs.getD k 0 = s ∧ ∀ j, i ≤ j → j < k → xs.getD j 0 ≠ s
theorem fst_start {xs : List Int} {s : Int} : FstTo xs s xs.length (-1) := .inl ⟨rfl, fun j h1 h2 => by omega⟩
theorem fst_hit {xs : List Int} {s : Int} {i : Nat} {a : Int} (h : FstTo xs s (i + 1) a) (hi : i < xs.length) (he : xs.getD i 0 = s) : FstTo xs s i (i : Int) := .inr ⟨i, rfl, Nat.le_refl _, hi, he, fun j h1 h2 => by omega⟩
theorem fst_miss {xs : List Int} {s : Int} {i : Nat} {a : Int} (h : FstTo xs s (i + 1) a) (he : xs.getD i 0 ≠ s) : FstTo xs s i a := by
  have key : ∀ j, (i + 1 ≤ j → xs.getD j 0 ≠ s) → i ≤ j → xs.getD j 0 ≠ s := fun j hj h1 => by
    by_cases e : j = i
    · rw [e]; exact he
    · exact hj (by omega)
  rcases h with ⟨h1, h2⟩ | ⟨k, h1, h2, h3, h4, h5⟩
  · exact .inl ⟨h1, fun j hj hj2 => key j (fun h => h2 j h hj2) hj⟩
  · exact .inr ⟨k, h1, by omega, h3, h4, fun j hj hj2 => key j (fun h => h5 j h hj2) hj⟩
theorem fst_aft {xs : List Int} {s a : Int} (h : FstTo xs s 0 a) : (a = -1 ∧ aft s xs = none) ∨ ∃ k : Nat, a = (k : Int) ∧ k < xs.length ∧ aft s xs = some (xs.drop (k + 1)) := by
  rcases h with ⟨h1, h2⟩ | ⟨k, h1, _, h3, h4, h5⟩
  · left
    refine ⟨h1, ?_⟩
    have hm := Lib.idxFrom_miss s xs 0 (fun j hj => h2 j (Nat.zero_le _) hj)
    rcases aft_idx s xs 0 with ⟨q, e1, _, _⟩ | ⟨_, e2⟩
    · rw [hm] at e1; omega
    · exact e2
  · right
    have hh := Lib.idxFrom_hit s xs k 0 h3 h4 (fun j hj => h5 j (Nat.zero_le _) hj)
    rcases aft_idx s xs 0 with ⟨q, e1, e2, e3⟩ | ⟨e1, _⟩
    · rw [hh] at e1
      obtain rfl : k = q := by omega
      exact ⟨k, h1, h3, e3⟩
    · rw [hh] at e1; omega
set_option maxRecDepth 100000 in
set_option maxHeartbeats 8000000 in
theorem rpart_step (f : Nat) (ih : ∀ f', f = f' + 1 → ∀ (A : Option Addr) (n c : Nat) (xs : List Int) (A' : Option Addr) (n' c' : Nat) (ys : List Int) (w : World), R E1 w A n c xs → R E1 w A' n' c' ys → n ≤ f' → n ≤ 10 → n' ≤ 10 → Sg xs →
    Calls Try.prog 75 #[.slice A n c, .slice A' n' c'] w (IntsPost (partF (f' + 1) xs ys) w))
    (A : Option Addr) (n c : Nat) (xs : List Int) (A' : Option Addr) (n' c' : Nat) (ys : List Int) (w : World) (hx : R E1 w A n c xs) (hy : R E1 w A' n' c' ys) (hnf : n ≤ f) (hn : n ≤ 10) (hn' : n' ≤ 10) (hsg : Sg xs) :
    Calls Try.prog 75 #[.slice A n c, .slice A' n' c'] w (IntsPost (partF (f + 1) xs ys) w) := by
  have HX := hide hx
  have HY := hide hy
  have HLX := hide hx.length
  have HLY := hide hy.length
  have HSG := hide hsg
  have HIH := hide ih
  have hpf : (partF (f + 1) xs ys).length ≤ 10 := by
    have := (part_spec (f + 1) xs ys (by rw [hx.length]; omega) hsg).1.length_le
    rw [hx.length] at this
    omega
  have HPFL := hide (fun (a b : List Int) (hab : a.length ≤ f) (h10 : a.length ≤ 10) (hs : Sg a) => show (partF f a b).length ≤ 10 from Nat.le_trans (part_spec f a b hab hs).1.length_le h10)
  have w1 : IntKind.i64.wrap ((n : Int) - 1) = (n : Int) - 1 := IntWalk.i64_in _ (by omega)
  have w2 : IntKind.i64.wrap ((n' : Int) - 1) = (n' : Int) - 1 := IntWalk.i64_in _ (by omega)
  clear hx hy ih hsg
  go_enter Try.func75, Try.ntmps75
  go_wp2_with fail
  go_loopg [5, 6] 6 (fun gg a5 a6 wr => ∃ (t : Nat) (Ao : Option Addr) (no co : Nat), t ≤ 6 ∧ 6 - t ≤ gg ∧ a5 = .slice Ao no co ∧ a6 = .int .i64 t ∧ no ≤ 11 ∧ Hid (Own E1 wr w.heap.size 3 Ao no co (pfo f xs ys t)) ∧ Hid (Below w.heap.size w wr))
  case atStart => exact ⟨0, none, 0, 0, Nat.zero_le _, Nat.le_refl _, rfl, rfl, by omega, hide (Own.nil _ _ _ _), hide (Below.refl _ _)⟩
  case round =>
    obtain ⟨t, Ao, no, co, ht, hgg, rfl, rfl, hno, HO, HB⟩ := hrel
    by_cases hlt : t < 6
    · have htn : (t : Int) ≤ 5 := by omega
      have RX := hide (HX.out.below HB.out (Nat.le_refl _))
      have RY := hide (HY.out.below HB.out (Nat.le_refl _))
      have HPS := hide (pfo_succ f xs ys t)
      rename World => wm
      go_wp2_with fail
      go_loopw [7, 9] (fun a7 a9 wr => ∃ (q : Nat) (v a : Int), q ≤ n ∧ v + 1 = (q : Int) ∧ a7 = .int .i64 a ∧ a9 = .int .i64 v ∧ Hid (FstTo xs t q a) ∧ wm = wr) (fun _ a9 _ => (intOf a9 + 1).toNat)
      case atStart => exact ⟨n, (n : Int) - 1, -1, Nat.le_refl _, by omega, rfl, rfl, hide (by rw [← HLX.out]; exact fst_start), rfl⟩
      case round =>
        obtain ⟨q, v, a, hq, hv, rfl, rfl, HF1, rfl⟩ := hrel
        rcases Nat.eq_zero_or_pos q with h0 | h0
        · subst h0
          have hv0 : v < 0 := by omega
          go_wp2_with fail
          go_loopw [8, 10] (fun a8 a10 wr => ∃ (q : Nat) (v b : Int), q ≤ n' ∧ v + 1 = (q : Int) ∧ a8 = .int .i64 b ∧ a10 = .int .i64 v ∧ Hid (FstTo ys t q b) ∧ wm = wr) (fun _ a10 _ => (intOf a10 + 1).toNat)
          case atStart => exact ⟨n', (n' : Int) - 1, -1, Nat.le_refl _, by omega, rfl, rfl, hide (by rw [← HLY.out]; exact fst_start), rfl⟩
          case round =>
            obtain ⟨q, v2, b, hq2, hv2, rfl, rfl, HF2, rfl⟩ := hrel
            rcases Nat.eq_zero_or_pos q with h0 | h0
            · subst h0
              have hv20 : v2 < 0 := by omega
              rcases fst_aft HF1.out with ⟨rfl, ha⟩ | ⟨k1, rfl, hk1, ha⟩
              · have HB1 := hide (show pfo f xs ys (t + 1) = pfo f xs ys t from by rw [HPS.out, via_none1 ha]; rfl)
                clear ha
                go_wp2_with fail
                go_roundg (6 - (t + 1))
                case measure => omega
                case rel => exact ⟨t + 1, Ao, no, co, by omega, by omega, rfl, by go_num, hno, hide (by rw [HB1.out]; exact HO.out), HB⟩
              · have ka1 : (0 : Int) ≤ (k1 : Int) := by omega
                rcases fst_aft HF2.out with ⟨rfl, hb⟩ | ⟨k2, rfl, hk2, hb⟩
                · have HB1 := hide (show pfo f xs ys (t + 1) = pfo f xs ys t from by rw [HPS.out, via_none2 hb]; rfl)
                  clear ha hb
                  go_wp2_with fail
                  go_roundg (6 - (t + 1))
                  case measure => omega
                  case rel => exact ⟨t + 1, Ao, no, co, by omega, by omega, rfl, by go_num, hno, hide (by rw [HB1.out]; exact HO.out), HB⟩
                · have ka2 : (0 : Int) ≤ (k2 : Int) := by omega
                  have HVI := hide (show pfo f xs ys (t + 1) = bet (pfo f xs ys t) (some ((t : Int) :: partF f (xs.drop (k1 + 1)) (ys.drop (k2 + 1)))) from by rw [HPS.out, via_some ha hb])
                  have HSA := hide (HSG.out.aft ha)
                  rw [HLX.out] at hk1
                  rw [HLY.out] at hk2
                  have HLA := hide (show (xs.drop (k1 + 1)).length ≤ f from by rw [List.length_drop, HLX.out]; omega)
                  have HPR := hide (HPFL.out (xs.drop (k1 + 1)) (ys.drop (k2 + 1)) HLA.out (by rw [List.length_drop, HLX.out]; omega) HSA.out)
                  clear ha hb
                  obtain ⟨f', hf'⟩ : ∃ q, f = q + 1 := ⟨f - 1, by omega⟩
                  have HIA := hide (HIH.out f' hf')
                  have HFF := hide hf'
                  have hn1f : n - (k1 + 1) ≤ f' := by omega
                  clear hf'
                  obtain ⟨bx, ox, hrx⟩ := RX.out
                  obtain rfl := hrx.at_ (by omega)
                  have hcx := hrx.cap
                  have hmx := hrx.max
                  obtain ⟨by', oy, hry⟩ := RY.out
                  obtain rfl := hry.at_ (by omega)
                  have hcy := hry.cap
                  have hmy := hry.max
                  clear hrx hry
                  have k1a : IntKind.i64.wrap ((k1 : Int) + 1) = (k1 : Int) + 1 := IntWalk.i64_in _ (by omega)
                  have k1b : ((k1 : Int) + 1).toNat = k1 + 1 := by omega
                  have k1c : (0 : Int) ≤ (k1 : Int) + 1 := by omega
                  have k1d : (k1 : Int) + 1 ≤ (n : Int) := by omega
                  have k1e : k1 + 1 ≤ n := by omega
                  have k1f : (k1 : Int) < (n : Int) := by omega
                  have k2a : IntKind.i64.wrap ((k2 : Int) + 1) = (k2 : Int) + 1 := IntWalk.i64_in _ (by omega)
                  have k2b : ((k2 : Int) + 1).toNat = k2 + 1 := by omega
                  have k2c : (0 : Int) ≤ (k2 : Int) + 1 := by omega
                  have k2d : (k2 : Int) + 1 ≤ (n' : Int) := by omega
                  have k2e : k2 + 1 ≤ n' := by omega
                  have k2f : (k2 : Int) < (n' : Int) := by omega
                  go_upto_region 17 with fail
                  go_cut [11] from 12 to 68 (fun a11 wx => ∃ (Ar : Option Addr) (nr cr : Nat), a11 = .slice Ar nr cr ∧ Hid (Own E1 wx wm.heap.size 3 Ar nr cr (partF f (xs.drop (k1 + 1)) (ys.drop (k2 + 1)))) ∧ Hid (Below wm.heap.size wm wx))
                  case first =>
                    by_cases hx1 : c = k1 + 1
                    · have hx2 : n = k1 + 1 := by omega
                      subst hx1
                      subst hx2
                      have HNA := hide (show xs.drop (k1 + 1) = [] from List.drop_eq_nil_of_le (by rw [HLX.out]; exact Nat.le_refl _))
                      have hxz : k1 + 1 - (k1 + 1) = 0 := by omega
                      by_cases hy1 : c' = k2 + 1
                      · have hy2 : n' = k2 + 1 := by omega
                        subst hy1
                        subst hy2
                        have HNB := hide (show ys.drop (k2 + 1) = [] from List.drop_eq_nil_of_le (by rw [HLY.out]; exact Nat.le_refl _))
                        have hyz : k2 + 1 - (k2 + 1) = 0 := by omega
                        go_region_with (go_at_call 75; refine (HIA.out _ 0 _ [] _ 0 _ [] _ (R.none _ _ (by omega)) (R.none _ _ (by omega)) (by omega) (by omega) (by omega) (by intro x hx; cases hx)).mono ?_; rintro e5 w5 ⟨Ar, nr, cr, rfl, o5, b5⟩; have O5 := hide (show Own E1 w5 wm.heap.size 3 Ar nr cr (partF f (xs.drop (k1 + 1)) (ys.drop (k2 + 1))) from (by rw [HNA.out, HNB.out, HFF.out]; exact o5)); have B5 := hide (show Below wm.heap.size wm w5 from below_undrew b5); clear o5 b5)
                        all_goals
                          go_wp2_with fail
                          go_meet
                          exact ⟨Ar, nr, cr, rfl, O5, B5⟩
                      · have hy3 : ¬ c' - (k2 + 1) = 0 := by omega
                        have hy4 : ¬ c' ≤ k2 + 1 := by omega
                        go_region_with (go_at_call 75; refine (HIA.out _ 0 _ [] _ (n' - (k2 + 1)) _ (ys.drop (k2 + 1)) _ (R.none _ _ (by omega)) (r_suffix (RY.out.drewN 1) (by omega)) (by omega) (by omega) (by omega) (by intro x hx; cases hx)).mono ?_; rintro e5 w5 ⟨Ar, nr, cr, rfl, o5, b5⟩; have O5 := hide (show Own E1 w5 wm.heap.size 3 Ar nr cr (partF f (xs.drop (k1 + 1)) (ys.drop (k2 + 1))) from (by rw [HNA.out, HFF.out]; exact o5)); have B5 := hide (show Below wm.heap.size wm w5 from below_undrew b5); clear o5 b5)
                        all_goals
                          go_wp2_with fail
                          go_meet
                          exact ⟨Ar, nr, cr, rfl, O5, B5⟩
                    · have hx3 : ¬ c - (k1 + 1) = 0 := by omega
                      have hx4 : ¬ c ≤ k1 + 1 := by omega
                      by_cases hy1 : c' = k2 + 1
                      · have hy2 : n' = k2 + 1 := by omega
                        subst hy1
                        subst hy2
                        have HNB := hide (show ys.drop (k2 + 1) = [] from List.drop_eq_nil_of_le (by rw [HLY.out]; exact Nat.le_refl _))
                        have hyz : k2 + 1 - (k2 + 1) = 0 := by omega
                        go_region_with (go_at_call 75; refine (HIA.out _ (n - (k1 + 1)) _ (xs.drop (k1 + 1)) _ 0 _ [] _ (r_suffix (RX.out.drewN 1) (by omega)) (R.none _ _ (by omega)) (by omega) (by omega) (by omega) (by exact HSA.out)).mono ?_; rintro e5 w5 ⟨Ar, nr, cr, rfl, o5, b5⟩; have O5 := hide (show Own E1 w5 wm.heap.size 3 Ar nr cr (partF f (xs.drop (k1 + 1)) (ys.drop (k2 + 1))) from (by rw [HNB.out, HFF.out]; exact o5)); have B5 := hide (show Below wm.heap.size wm w5 from below_undrew b5); clear o5 b5)
                        all_goals
                          go_wp2_with fail
                          go_meet
                          exact ⟨Ar, nr, cr, rfl, O5, B5⟩
                      · have hy3 : ¬ c' - (k2 + 1) = 0 := by omega
                        have hy4 : ¬ c' ≤ k2 + 1 := by omega
                        go_region_with (go_at_call 75; refine (HIA.out _ (n - (k1 + 1)) _ (xs.drop (k1 + 1)) _ (n' - (k2 + 1)) _ (ys.drop (k2 + 1)) _ (r_suffix (RX.out.drewN 1) (by omega)) (r_suffix (RY.out.drewN 1) (by omega)) (by omega) (by omega) (by omega) (by exact HSA.out)).mono ?_; rintro e5 w5 ⟨Ar, nr, cr, rfl, o5, b5⟩; have O5 := hide (show Own E1 w5 wm.heap.size 3 Ar nr cr (partF f (xs.drop (k1 + 1)) (ys.drop (k2 + 1))) from (by rw [HFF.out]; exact o5)); have B5 := hide (show Below wm.heap.size wm w5 from below_undrew b5); clear o5 b5)
                        all_goals
                          go_wp2_with fail
                          go_meet
                          exact ⟨Ar, nr, cr, rfl, O5, B5⟩
                  case rest =>
                  obtain ⟨Ar, nr, cr, rfl, OR, BR⟩ := hcut
                  have hnr := OR.out.len
                  have hnr10 := HPR.out
                  rw [hnr] at hnr10
                  have hbl := HO.out.len
                  by_cases hgt : no < nr + 1
                  · have hgt' : (no : Int) < (nr : Int) + 1 := by omega
                    have HB1 := hide (show pfo f xs ys (t + 1) = (t : Int) :: partF f (xs.drop (k1 + 1)) (ys.drop (k2 + 1)) from by rw [HVI.out, bet_some, if_pos (by rw [List.length_cons, hnr, hbl]; exact hgt)])
                    clear hgt
                    have hszx := BR.out.size
                    have hszw := HB.out.size
                    go_wp2_with (at_builtin; refine wpList_appR (E := E1) _ (.int .i64 0) 8 rfl (.tmp 66) (.tmp 67) 22 3 rfl Try.underlying22 info_int rfl (by decide) (by omega) w.heap.size 1 1 (some ⟨wc.heap.size, 0, none⟩) [(t : Int)] Ar nr cr _ rfl rfl (Own.lit wc [(t : Int)] (by omega) (by unfold maxLen; simp)) wm.heap.size (OR.out.alloc _) (by omega) (by omega) (by simp; omega) ?_; intro A7 c7 w7 o7 b7 _; have O7 := hide o7; have B7 := hide (((HB.out.trans (BR.out.mono hszw)).alloc (by omega) (.cells #[.int .i64 t] 3)).trans b7); clear o7 b7)
                    go_roundg (6 - (t + 1))
                    case measure => omega
                    case rel => exact ⟨t + 1, A7, _, c7, by omega, by omega, rfl, by go_num, by omega, hide (by rw [HB1.out]; exact O7.out), B7⟩
                  · have hgt' : (nr : Int) + 1 ≤ (no : Int) := by omega
                    have HB1 := hide (show pfo f xs ys (t + 1) = pfo f xs ys t from by rw [HVI.out, bet_some, if_neg (by rw [List.length_cons, hnr, hbl]; exact hgt)])
                    clear hgt
                    go_wp2_with fail
                    go_roundg (6 - (t + 1))
                    case measure => omega
                    case rel => exact ⟨t + 1, Ao, no, co, by omega, by omega, rfl, by go_num, hno, hide (by rw [HB1.out]; exact HO.out.below BR.out (Nat.le_refl _)), hide (HB.out.trans (BR.out.mono HB.out.size))⟩
            · obtain ⟨q, rfl⟩ : ∃ r, q = r + 1 := ⟨q - 1, by omega⟩
              obtain rfl : v2 = (q : Int) := by omega
              have q0 : (0 : Int) ≤ (q : Int) := by omega
              obtain ⟨by', oy, hry⟩ := RY.out
              obtain rfl := hry.at_ (by omega)
              have cy := c1 hry (k := q) (by omega)
              have hby := hry.lt (by omega)
              have hcy := hry.cap
              have hmy := hry.max
              have qn : (q : Int) < (n' : Int) := by omega
              have HHI := hide (fun (he : ys.getD q 0 = t) => fst_hit HF2.out (by rw [HLY.out]; omega) he)
              have HMI := hide (fun (he : ys.getD q 0 ≠ t) => fst_miss HF2.out he)
              clear hry h0
              generalize ys.getD q 0 = y at *
              by_cases he : y = (t : Int)
              · have HF := hide (HHI.out he)
                have heb : (y == (t : Int)) = true := by simpa using he
                clear he
                go_wp2_with fail
                go_roundw
                case rel => exact ⟨q, (q : Int) - 1, (q : Int), by omega, by omega, rfl, by go_num, HF, by trivial⟩
                case measure => simp [intOf]
              · have HF := hide (HMI.out he)
                have heb : (y == (t : Int)) = false := by simpa using he
                clear he
                go_wp2_with fail
                go_roundw
                case rel => exact ⟨q, (q : Int) - 1, b, by omega, by omega, rfl, by go_num, HF, by trivial⟩
                case measure => simp [intOf]
        · obtain ⟨q, rfl⟩ : ∃ r, q = r + 1 := ⟨q - 1, by omega⟩
          obtain rfl : v = (q : Int) := by omega
          have q0 : (0 : Int) ≤ (q : Int) := by omega
          obtain ⟨bx, ox, hrx⟩ := RX.out
          obtain rfl := hrx.at_ (by omega)
          have cx := c1 hrx (k := q) (by omega)
          have hbx := hrx.lt (by omega)
          have hcx := hrx.cap
          have hmx := hrx.max
          have qn : (q : Int) < (n : Int) := by omega
          have HHI := hide (fun (he : xs.getD q 0 = t) => fst_hit HF1.out (by rw [HLX.out]; omega) he)
          have HMI := hide (fun (he : xs.getD q 0 ≠ t) => fst_miss HF1.out he)
          clear hrx h0
          generalize xs.getD q 0 = y at *
          by_cases he : y = (t : Int)
          · have HF := hide (HHI.out he)
            have heb : (y == (t : Int)) = true := by simpa using he
            clear he
            go_wp2_with fail
            go_roundw
            case rel => exact ⟨q, (q : Int) - 1, (q : Int), by omega, by omega, rfl, by go_num, HF, by trivial⟩
            case measure => simp [intOf]
          · have HF := hide (HMI.out he)
            have heb : (y == (t : Int)) = false := by simpa using he
            clear he
            go_wp2_with fail
            go_roundw
            case rel => exact ⟨q, (q : Int) - 1, a, by omega, by omega, rfl, by go_num, HF, by trivial⟩
            case measure => simp [intOf]
    · obtain rfl : t = 6 := by omega
      go_wp2_with fail
      go_ret
      exact ⟨Ao, no, co, rfl, by rw [← pfo_six]; exact HO.out, HB.out⟩
set_option maxRecDepth 100000 in
set_option maxHeartbeats 8000000 in
theorem rpart_any : ∀ (f : Nat) (A : Option Addr) (n c : Nat) (xs : List Int) (A' : Option Addr) (n' c' : Nat) (ys : List Int) (w : World), R E1 w A n c xs → R E1 w A' n' c' ys → n ≤ f → n ≤ 10 → n' ≤ 10 → Sg xs →
    Calls Try.prog 75 #[.slice A n c, .slice A' n' c'] w (IntsPost (partF (f + 1) xs ys) w) := by
  intro f
  induction f with
  | zero => exact rpart_step 0 (fun _ h => by omega)
  | succ f ih => exact rpart_step (f + 1) (fun f' h => by
      obtain rfl : f' = f := by omega
      exact ih)
set_option maxRecDepth 100000 in
set_option maxHeartbeats 4000000 in
theorem rPart_any (A : Option Addr) (n c : Nat) (xs : List Int) (A' : Option Addr) (n' c' : Nat) (ys : List Int) (w : World) (hx : R E1 w A n c xs) (hy : R E1 w A' n' c' ys) :
    Calls Try.prog 40 #[.slice A n c, .slice A' n' c'] w (RowPost (errB xs ys) (parV xs ys) w) := by
  have HX := hide hx
  have HY := hide hy
  by_cases he : errB xs ys = 0
  · have HE := hide he
    obtain ⟨h1, h2⟩ := errB_ok.1 he
    have HV := hide (show parV xs ys = partF (n + 1) xs ys from by rw [parV_ok he, ← hx.length, partF_more _ _ _ (Nat.le_refl _)])
    have hn : n ≤ 10 := by rw [← hx.length]; exact (errL_ok.1 h1).1
    have hn' : n' ≤ 10 := by rw [← hy.length]; exact (errL_ok.1 h2).1
    have HSG := hide (sg_errL h1)
    clear hx hy he h1 h2
    go_enter Try.func40, Try.ntmps40
    go_wp2_with (first
      | (go_at_call 74; refine (rtwo_any A n c xs A' n' c' ys _ HX.out HY.out).mono ?_; rintro e1 w1 ⟨rfl, rfl⟩; rw [HE.out])
      | (go_at_call 75; refine (rpart_any n A n c xs A' n' c' ys _ HX.out HY.out (Nat.le_refl _) hn hn' HSG.out).mono ?_; rintro e2 w2 ⟨A2, n2, c2, rfl, o2, b2⟩; have O2 := hide o2; have B2 := hide b2; clear o2 b2))
    go_ret2
    exact ⟨A2, n2, c2, by rw [HE.out]; rfl, by rw [HV.out]; exact O2.out, B2.out⟩
  · have HV := hide (parV_no he)
    have hne : (errB xs ys != 0) = true := by simpa using he
    clear hx hy he
    go_enter Try.func40, Try.ntmps40
    go_wp2_with (go_at_call 74; refine (rtwo_any A n c xs A' n' c' ys _ HX.out HY.out).mono ?_; rintro e1 w1 ⟨rfl, rfl⟩)
    go_ret2
    exact ⟨none, 0, 0, rfl, by rw [HV.out]; exact Own.nil _ _ _ _, Below.refl _ _⟩
end Go.Proofs.Ytndfdminjegldaa
