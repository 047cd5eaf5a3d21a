/- The walk of ToneAparts. -/
import Derived.Test.YtbadihbcjdibeaaWalkAa
import Derived.Test.YtbadihbcjdibeaaLiftG
namespace Go.Proofs.Ytbadihbcjdibeaa
open Go.RowKit

theorem shr_symm {xs ys : List Int} {n : Nat} (h : Shr xs ys n) : Shr ys xs n := by
  obtain ⟨i, j, e⟩ := h
  exact ⟨j, i, fun k hk => (e k hk).symm⟩
theorem has_self {t : List Int} (h : 1 ≤ t.length) (i : Int) (m : Nat) : hasB t (pieceL t i m) = true := by
  obtain ⟨_, s2, s3, _⟩ := per_spec h
  have e1 := Int.emod_lt_of_pos i (show (0 : Int) < (per t : Int) by omega)
  have e2 := Int.emod_nonneg i (show (per t : Int) ≠ 0 by omega)
  rw [← has_mem h, pieceL_length]
  unfold memB
  refine decide_eq_true (pcs_mem.2 ⟨(i % (per t : Int)).toNat, by omega, ?_⟩)
  unfold keyOf fillTo
  rw [pieceL_length, Int.toNat_of_nonneg e2, piece_emod h]
theorem has_shr {s t : List Int} {i : Int} {m : Nat} (h : hasB t (pieceL s i m) = true) : Shr s t m := by
  unfold hasB at h
  rw [List.any_eq_true] at h
  obtain ⟨j, _, e⟩ := h
  have e := eqL_iff.1 e
  rw [pieceL_length] at e
  refine ⟨i, j, fun k hk => ?_⟩
  have e3 : (pieceL t (j : Int) m).getD k 0 = (pieceL s i m).getD k 0 := by rw [e]
  rw [pieceL_getD hk, pieceL_getD hk] at e3
  exact e3.symm
theorem lis_no {xs ys : List Int} {d a : Nat} (h : errOf xs = 0) (h' : errOf ys = 0) (e : lisO xs ys = some d) (ha : d ≤ a) : ¬ Shr xs ys a := by
  obtain ⟨a1, a2, _⟩ := errOf_zero h
  obtain ⟨b1, b2, _⟩ := errOf_zero h'
  intro hs
  cases hne : eqL (nameL xs) (nameL ys) with
  | true => rw [lis_none hne] at e; cases e
  | false =>
    obtain ⟨d', q1, _, _, _, q5, _⟩ := lis_spec a1 b1 a2 b2 hne
    rw [q1] at e; injection e with e; subst e
    rw [(shareP_iff a1 b1).2 (shr_mono ha hs)] at q5; cases q5
theorem apK_some {ls : List (List Int)} {i : Nat} {s : Option Nat} : ∀ {k g : Nat}, apK ls i k s = some g → (∃ g0, s = some g0 ∧ g0 ≤ g) ∧ ∀ j, j < k → ∃ d, lisO (ls.getD i []) (ls.getD j []) = some d ∧ d ≤ g := by
  intro k
  induction k with
  | zero => intro g h; exact ⟨⟨g, h, Nat.le_refl _⟩, fun j hj => by omega⟩
  | succ k ih =>
    intro g h
    change (apK ls i k s).bind _ = some g at h
    cases h1 : apK ls i k s with
    | none => rw [h1] at h; cases h
    | some g1 =>
      rw [h1] at h
      change (lisO (ls.getD i []) (ls.getD k [])).map _ = some g at h
      cases h2 : lisO (ls.getD i []) (ls.getD k []) with
      | none => rw [h2] at h; cases h
      | some d =>
        rw [h2] at h
        change some (max g1 d) = some g at h
        injection h with h
        obtain ⟨⟨g0, e0, l0⟩, hall⟩ := ih h1
        refine ⟨⟨g0, e0, by omega⟩, fun j hj => ?_⟩
        by_cases e : j = k
        · subst e; exact ⟨d, h2, by omega⟩
        · obtain ⟨d', p1, p2⟩ := hall j (by omega)
          exact ⟨d', p1, by omega⟩
theorem apI_some {ls : List (List Int)} : ∀ {n a : Nat}, apI ls n = some a → ∀ i, i < n → ∀ j, j < i → ∃ d, lisO (ls.getD i []) (ls.getD j []) = some d ∧ d ≤ a := by
  intro n
  induction n with
  | zero => intro a _ i hi; omega
  | succ n ih =>
    intro a h i hi j hj
    change apK ls n n (apI ls n) = some a at h
    obtain ⟨⟨g0, e0, l0⟩, hall⟩ := apK_some h
    by_cases e : i = n
    · subst e; exact hall j hj
    · obtain ⟨d, p1, p2⟩ := ih e0 i (by omega) j hj
      exact ⟨d, p1, by omega⟩
theorem apK_le {ls : List (List Int)} {n i : Nat} {s : Option Nat} (ho : OkTo ls n) (hi : i < n) (hs : ∀ g, s = some g → g ≤ 47) : ∀ {k g : Nat}, k ≤ i → apK ls i k s = some g → g ≤ 47 := by
  intro k
  induction k with
  | zero => intro g _ h; exact hs g h
  | succ k ih =>
    intro g hk h
    change (apK ls i k s).bind _ = some g at h
    cases h1 : apK ls i k s with
    | none => rw [h1] at h; cases h
    | some g1 =>
      rw [h1] at h
      change (lisO (ls.getD i []) (ls.getD k [])).map _ = some g at h
      cases h2 : lisO (ls.getD i []) (ls.getD k []) with
      | none => rw [h2] at h; cases h
      | some d =>
        rw [h2] at h
        change some (max g1 d) = some g at h
        injection h with h
        have := ih (by omega) h1
        have := lis_le (ho i hi) (ho k (by omega)) h2
        omega
theorem apI_le {ls : List (List Int)} {n : Nat} (ho : OkTo ls n) : ∀ {m a : Nat}, m ≤ n → apI ls m = some a → a ≤ 47 := by
  intro m
  induction m with
  | zero => intro a _ h; change some 0 = some a at h; injection h with h; omega
  | succ m ih =>
    intro a hm h
    change apK ls m m (apI ls m) = some a at h
    exact apK_le ho (by omega) (fun g hg => ih (by omega) hg) (Nat.le_refl _) h
theorem tellTo_only {ls : List (List Int)} {x : List Int} {q : Nat} : ∀ {k : Nat}, (∀ j, j < k → hasB (ls.getD j []) x = decide (j = q)) → tellTo ls x k = if q < k then [(q : Int)] else [] := by
  intro k
  induction k with
  | zero => intro _; rfl
  | succ k ih =>
    intro h
    have hk := h k (by omega)
    have := ih fun j hj => h j (by omega)
    by_cases e : k = q
    · subst e
      rw [tellTo_yes (by rw [hk]; simp), this, if_neg (by omega), if_pos (by omega)]; rfl
    · rw [tellTo_no (by rw [hk]; simp [e]), this]
      by_cases e2 : q < k
      · rw [if_pos e2, if_pos (by omega)]
      · rw [if_neg e2, if_neg (by omega)]
theorem apart_tell {ls : List (List Int)} {a q : Nat} {i : Int} (he : errLs ls = 0) (ha : apI ls ls.length = some a) (hq : q < ls.length) :
    tellE ls (pieceL (ls.getD q []) i a) = 0 ∧ tellL ls (pieceL (ls.getD q []) i a) = [(q : Int)] := by
  obtain ⟨e1, e2⟩ := errLs_zero he
  have hle := apI_le e2 (Nat.le_refl _) ha
  have hq0 := errOf_zero (e2 q hq)
  have hE : tellE ls (pieceL (ls.getD q []) i a) = 0 := by
    rw [tellE_fit he (by rw [pieceL_length]; omega)]
    exact bitErr_true (bits_piece hq0.2.2 i a)
  refine ⟨hE, ?_⟩
  rw [tellL_ok hE, tellTo_only (q := q), if_pos hq]
  intro j hj
  by_cases e : j = q
  · subst e
    rw [has_self hq0.1]; simp
  · cases hh : hasB (ls.getD j []) (pieceL (ls.getD q []) i a) with
    | false => simp [e]
    | true =>
      exfalso
      have hs := has_shr hh
      rcases Nat.lt_or_ge j q with g | g
      · obtain ⟨d, p1, p2⟩ := apI_some ha q hq j g
        exact lis_no (e2 q hq) (e2 j hj) p1 p2 hs
      · obtain ⟨d, p1, p2⟩ := apI_some ha j hj q (by omega)
        exact lis_no (e2 j hj) (e2 q hq) p1 p2 (shr_symm hs)

set_option maxRecDepth 100000 in
set_option maxHeartbeats 4000000 in
theorem ToneAparts_walk (A : Option Addr) (n c : Nat) (ls : List (List Int)) (q f : Int) (w : World) (h : Grid w A n c ls) (_ : (Lit.int .i64 q).wf = true) (_ : (Lit.int .i64 f).wf = true) :
    Calls Try.prog 4 #[.slice A n c, .int .i64 q, .int .i64 f] w fun e w' => e = .returned (.bool true) ∧ Below w.heap.size w w' := by
  have HG := hide h
  have HL := hide h.length
  clear h
  go_enter Try.func4, Try.ntmps4
  go_wp2_with fail
  refine (Many_any _ _ _ ls _ HG.out).mono ?_
  rintro e w' ⟨rfl, ⟨rfl, s1, s2⟩ | rfl⟩
  · have HS := hide s2
    clear s1 s2
    go_wp2_with fail
    refine (Apart_any _ _ _ ls _ HG.out HS.out).mono ?_
    rintro e w1 ⟨rfl, b1⟩
    have B1 := hide b1
    have z1 := b1.size
    clear b1
    go_wp2_with fail
    refine (rApart_any _ _ _ ls _ (HG.out.below B1.out (Nat.le_refl _)) HS.out).mono ?_
    rintro e w2 ⟨rfl, b2⟩
    have B2 := hide (B1.out.trans (b2.mono z1))
    have z2 := B2.out.size
    clear b2
    by_cases he : errLs ls = 0
    · have HE := hide he
      have q1 : ∀ y, okv 0 y = y := fun y => okv_zero rfl _
      have q2 : ∀ y, okb 0 y = y := fun y => okb_zero rfl _
      rw [he, q1, q2]
      clear q1 q2
      cases ha : apI ls n with
      | none =>
        go_wp2_with (first | (go_at_call 9; refine (known_any _).mono ?_; rintro e w9 ⟨rfl, hb9⟩))
        go_ret
        exact ⟨rfl, B2.out.trans (hb9.mono z2)⟩
      | some a =>
        by_cases c1 : q < 0
        · go_wp2_with (first | (go_at_call 9; refine (known_any _).mono ?_; rintro e w9 ⟨rfl, hb9⟩))
          go_ret
          exact ⟨rfl, B2.out.trans (hb9.mono z2)⟩
        by_cases c2 : (n : Int) ≤ q
        · go_wp2_with (first | (go_at_call 9; refine (known_any _).mono ?_; rintro e w9 ⟨rfl, hb9⟩))
          go_ret
          exact ⟨rfl, B2.out.trans (hb9.mono z2)⟩
        by_cases c3 : f < 0
        · go_wp2_with (first | (go_at_call 9; refine (known_any _).mono ?_; rintro e w9 ⟨rfl, hb9⟩))
          go_ret
          exact ⟨rfl, B2.out.trans (hb9.mono z2)⟩
        by_cases c4 : 1000 < f
        · go_wp2_with (first | (go_at_call 9; refine (known_any _).mono ?_; rintro e w9 ⟨rfl, hb9⟩))
          go_ret
          exact ⟨rfl, B2.out.trans (hb9.mono z2)⟩
        obtain ⟨q, rfl⟩ : ∃ k : Nat, q = (k : Int) := ⟨q.toNat, by omega⟩
        have c2' : q < n := by omega
        have e2 := (errLs_zero he).2
        rw [HL.out] at e2
        have ha47 := apI_le e2 (Nat.le_refl _) ha
        have HT := hide (apart_tell (i := f) he (by rw [HL.out]; exact ha) (by rw [HL.out]; exact c2'))
        have HOK := hide (e2 q c2')
        have G2 := hide (HG.out.below B2.out (Nat.le_refl _))
        obtain ⟨b, off, gr⟩ := G2.out
        obtain rfl := gr.at_ (by omega)
        have g1 := gr.cap
        have g2 := gr.max
        have glt := gr.lt (by omega)
        obtain ⟨A2, m2, k2, hc, hrow⟩ := gr.cell q c2'
        have HC := hide hc
        have HRow := hide hrow
        have hm2 : m2 ≤ 1000 := by have := HS.out q (by rw [HL.out]; exact c2'); rw [hrow.length] at this; omega
        clear he ha e2 gr hc hrow
        generalize ls.getD q [] = row at HRow HOK HT
        have d1 : decide ((q : Int) < 0) = false := decide_eq_false (by omega)
        have d2 : decide ((n : Int) ≤ (q : Int)) = false := decide_eq_false (by omega)
        have d5 : decide (n ≤ q) = false := decide_eq_false (by omega)
        have d3 : decide (f < 0) = false := decide_eq_false c3
        have d4 : decide (1000 < f) = false := decide_eq_false c4
        go_wp2_with fail
        clear d1 d2 d3 d4 d5
        go_loopw [13, 14] (fun s i wr => ∃ (k : Nat) (A1 : Option Addr) (k1 : Nat), k ≤ a ∧ i = .int .i64 k ∧ s = .slice A1 k k1 ∧ Hid (Own wr w2.heap.size A1 k k1 (pieceL row f k)) ∧ Hid (Below w2.heap.size w2 wr)) (fun _ i _ => a - (intOf i).toNat)
        case atStart => exact ⟨0, none, 0, Nat.zero_le _, rfl, rfl, hide (Own.nil _ _), hide (Below.refl _ _)⟩
        case round =>
          obtain ⟨k, A1, k1, hk, rfl, rfl, HO, HB⟩ := hrel
          have hz := HB.out.size
          by_cases hlt : k < a
          · have hc : wr.cell? ⟨b, off + q, none⟩ = some (.slice A2 m2 k2) := by rw [HB.out.cell (p := ⟨b, off + q, none⟩) glt]; exact HC.out
            have w1 : IntKind.i64.wrap (f + (k : Int)) = f + (k : Int) := IntWalk.i64_in _ (by omega)
            have HP := hide (pieceL_succ row f k)
            go_wp2_with (first | (go_at_call 15; refine (At_any _ _ _ row _ _ (HRow.out.below HB.out (Nat.le_refl _)) hm2).mono ?_; rintro e w4 ⟨rfl, rfl⟩; rw [HOK.out, okv_zero rfl]) | (at_builtin; refine wpList_app1 _ rfl (.tmp 86) (.tmp 88) rfl w2.heap.size k k1 A1 _ _ rfl rfl HO.out (by omega) hz ?_; intro A3 c3 w3 hown3 hb3 hg3))
            go_roundw
            case rel => exact ⟨k + 1, A3, c3, by omega, by go_num, by go_num, hide (by rw [HP.out]; exact hown3), hide (HB.out.trans hb3)⟩
            case measure => simp [intOf]; omega
          · obtain rfl : k = a := by omega
            have HR3 := hide HO.out.row
            have HG3 := hide (G2.out.below HB.out (Nat.le_refl _))
            have B3 := hide (B2.out.trans (HB.out.mono z2))
            have z3 := B3.out.size
            go_wp2_with fail
            refine (Tell_any _ _ _ ls _ _ _ (pieceL row f k) _ HG3.out HR3.out HS.out (by omega)).mono ?_
            rintro e w5 ⟨A5, n5, k5, rfl, o5, b5⟩
            rw [HT.out.2] at o5
            rw [HT.out.1]
            have B5 := hide (B3.out.trans (b5.mono z3))
            have z5 := B5.out.size
            have O5 := hide o5
            clear o5 b5
            go_wp2_with (first | (go_at_call 12; refine (SameInts_any _ _ _ [(q : Int)] _ _ _ [(q : Int)] _ (O5.out.alloc _).row (Own.lit w5 [(q : Int)] (Nat.le_refl _) (by simp [maxLen])).row).mono ?_; rintro e w6 ⟨rfl, d6⟩; rw [eqL_self]) | (go_at_call 9; refine (known_any _).mono ?_; rintro e w9 ⟨rfl, hb9⟩))
            go_ret
            exact ⟨rfl, (B5.out.trans ((((Below.refl w5.heap.size w5).alloc (Nat.le_refl _) _).trans (d6.below _)).mono z5)).trans (hb9.mono (by have h6 := (d6.below 0).size; rw [World.size_alloc] at h6; omega))⟩
    · have HE := hide he
      have q1 : ∀ y, okb (errLs ls) y = false := fun y => okb_ne he _
      rw [q1]
      clear q1 he
      generalize errLs ls = er at *
      generalize okv er _ = va at *
      go_wp2_with (first | (go_at_call 9; refine (known_any _).mono ?_; rintro e w9 ⟨rfl, hb9⟩))
      go_ret
      exact ⟨rfl, B2.out.trans (hb9.mono z2)⟩
  · go_wp2_with (first | (go_at_call 9; refine (known_any _).mono ?_; rintro e w9 ⟨rfl, hb9⟩))
    go_ret
    exact ⟨rfl, hb9⟩

end Go.Proofs.Ytbadihbcjdibeaa
