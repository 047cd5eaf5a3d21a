/- The document's Most: all sets that are alone, one after another. -/
import Derived.Test.YtpkjgnllkaafkaaWalkSe
import Derived.Test.YtpkjgnllkaafkaaMA
import Derived.Laws.AppendOwnNone
namespace Go.Proofs.Ytpkjgnllkaafkaa
open Go.RowKit

abbrev Sv := Option Addr × Nat × Nat
abbrev sv0 : Sv := (none, 0, 0)
def Es : Enc Sv := { size := 1, enc := fun x => [.slice x.1 x.2.1 x.2.2], len := fun _ => rfl, one := fun x u h => by simp at h; subst h; rfl, d := sv0 }
theorem info_ints : (Try.prog.info? 30).map (fun i => (i.zero, i.size, i.bytes)) = some (some (.slice none 0 0), 1, 24) := by kernel_rfl

/-- Rows of elements of two types lie in different blocks. -/
theorem own_apart {α β : Type} {E : Enc α} {E' : Enc β} {w : World} {B B' n c n' c' : Nat} {e e' : TypeId} {A A' : Option Addr} {l : List α} {l' : List β}
    (h : Own E w B e A n c l) (h' : Own E' w B' e' A' n' c' l') (hne : e ≠ e') : (Value.slice A n c).ownBlock = none ∨ (Value.slice A n c).ownBlock ≠ (Value.slice A' n' c').ownBlock := by
  rcases h.2.2 with ⟨hv, _⟩ | ⟨g, cap, cur, hv, _, hg, _⟩
  · left; rw [hv]; rfl
  · right
    rcases h'.2.2 with ⟨hv', _⟩ | ⟨g', cap', cur', hv', _, hg', _⟩
    · rw [hv, hv']; simp [Value.ownBlock]
    · rw [hv, hv']
      intro he
      have e1 : g = g' := by simpa [Value.ownBlock] using he
      subst e1
      rw [hg] at hg'
      injection hg' with hg'
      injection hg' with _ ht
      exact hne ht
/-- The sets found so far: a row of slices of our own, each a row of integers of our own. -/
structure SetsAt (w : World) (B : Nat) (A : Option Addr) (n c : Nat) (ss : List (List Int)) (vs : List Sv) : Prop where
  own : Own Es w B 30 A n c vs
  len : ss.length = n
  each : ∀ k, k < n → Own E1 w B 3 (vs.getD k sv0).1 (vs.getD k sv0).2.1 (vs.getD k sv0).2.2 (ss.getD k [])
section
variable {w w' : World} {B n c : Nat} {A : Option Addr} {ss : List (List Int)} {vs : List Sv}
theorem SetsAt.below (h : SetsAt w B A n c ss vs) {B' : Nat} (hb : Below B' w w') (hB : w.heap.size ≤ B') : SetsAt w' B A n c ss vs := ⟨h.own.below hb hB, h.len, fun k hk => (h.each k hk).below hb hB⟩
theorem SetsAt.push (h : SetsAt w B A n c ss vs) {v : Sv} {s : List Int} (hv : Own E1 w B 3 v.1 v.2.1 v.2.2 s) {A' : Option Addr} {c' : Nat} (ho : Own Es w' B 30 A' (n + 1) c' (vs ++ [v])) (hg : w.grownBy w' (Value.slice A n c).ownBlock) :
    SetsAt w' B A' (n + 1) c' (ss ++ [s]) (vs ++ [v]) := by
  have hl := h.own.len
  have hl2 := h.len
  refine ⟨ho, by simp [hl2], fun k hk => ?_⟩
  by_cases hkn : k < n
  · have e1 : (vs ++ [v]).getD k sv0 = vs.getD k sv0 := by rw [List.getD_eq_getElem?_getD, List.getElem?_append_left (by omega), List.getD_eq_getElem?_getD]
    have e2 : (ss ++ [s]).getD k [] = ss.getD k [] := by rw [List.getD_eq_getElem?_getD, List.getElem?_append_left (by omega), List.getD_eq_getElem?_getD]
    rw [e1, e2]
    exact (h.each k hkn).kept hg (own_apart (h.each k hkn) h.own (by decide))
  · obtain rfl : k = n := by omega
    have e1 : (vs ++ [v]).getD k sv0 = v := by rw [List.getD_eq_getElem?_getD, List.getElem?_append_right (by omega), hl, Nat.sub_self]; rfl
    have e2 : (ss ++ [s]).getD k [] = s := by rw [List.getD_eq_getElem?_getD, List.getElem?_append_right (by omega), hl2, Nat.sub_self]; rfl
    rw [e1, e2]
    exact hv.kept hg (own_apart hv h.own (by decide))
theorem SetsAt.more (h : SetsAt w B A n c ss vs) (o : Obj) : SetsAt (w.alloc o) B A n c ss vs := ⟨h.own.alloc o, h.len, fun k hk => (h.each k hk).alloc o⟩
theorem SetsAt.first (w : World) (hB : B ≤ w.heap.size) : SetsAt (w.alloc (.cells #[.slice none 0 0] 30)) B (some ⟨w.heap.size, 0, none⟩) 1 1 [[]] [sv0] := by
  refine ⟨?_, rfl, fun k hk => ?_⟩
  · exact Own.lit (E := Es) w [sv0] hB (by unfold maxLen; simp)
  · obtain rfl : k = 0 := by omega
    exact Own.nil _ _ _ _
end
theorem owns_cell {w : World} {B n c g : Nat} {e : TypeId} {vs : List Sv} (h : Own Es w B e (some ⟨g, 0, none⟩) n c vs) {k : Nat} (hk : k < n) : w.cell? ⟨g, k, none⟩ = some (.slice (vs.getD k sv0).1 (vs.getD k sv0).2.1 (vs.getD k sv0).2.2) := by
  have h1 := h.cell (j := 0) hk (by decide)
  rw [show k * Es.size + 0 = k from Nat.mul_one k] at h1
  exact h1
section
variable {α : Type} {E : Enc α} {P : Program} (w : World) {ops : Array Oper} {rest : List Oper} {o : Oper} {a : Act} {Q : Exit → Act → World → Prop}
/-- out = append(out, xs...), xs a row of our own, nil or not. -/
theorem wpList_appR (z : Value) (bytes : Nat) (hgd : o.guard = none) (s x : Operand) (t e : TypeId) (ho : o.op = .call { callee := .builtin .append, args := #[s, x], argTypes := #[t, t] })
    (hu : P.underlying t = some (.slice e)) (hinfo : (P.info? e).map (fun i => (i.zero, i.size, i.bytes)) = some (some z, E.size, bytes)) (hz : z.cells.size = E.size) (hE : 0 < E.size) (hby : bytes ≤ 64)
    (B n c : Nat) (A : Option Addr) (l : List α) (A2 : Option Addr) (m c2 : Nat) (ys : List α) (hs : a.eval s = .slice A n c) (hx : a.eval x = .slice A2 m c2)
    (hown : Own E w B e A n c l) (B2 : Nat) (hrow : Own E w B2 e A2 m c2 ys) (hm2 : m ≤ 1000000) (hn : n ≤ 1000000) (hB : B ≤ w.heap.size)
    (h : ∀ A' c' w', Own E w' B e A' (n + m) c' (l ++ ys) → Below B w w' → w.grownBy w' (Value.slice A n c).ownBlock → wpList P ops Q rest (a.put o.dst (.slice A' (n + m) c')) w') :
    wpList P ops Q (o :: rest) a w := by
  cases A2 with
  | some ad => exact wpList_appN w z bytes hgd s x t e ho hu hinfo hz hE hby B n c A l ad m c2 ys hs hx hown hrow.row hm2 hn hB h
  | none =>
    rcases hrow.form with ⟨_, rfl, rfl, rfl⟩ | ⟨g, hh, _⟩
    · obtain ⟨i0, hi, hz0, hz1, hz2⟩ := info_parts hinfo
      refine wpList_append_own_none hgd s x t ho B e i0 E.size hu hi _ n (E.cells l) hs hown.2 hx ?_
      exact h A c w (by rw [List.append_nil]; exact hown) (Below.refl _ _) (gb_refl _ _)
    · cases hh
end

set_option maxHeartbeats 4000000 in
theorem rMost_any (A : Option Addr) (n c : Nat) (xs : Ls) (w : World) (h : R E3 w A n c xs) (he : errV xs = 0) :
    Calls Try.prog 38 #[.slice A n c] w fun e w' => e = .returned (.tuple #[.int .i64 (best lenI (setsTo xs xs.length)), .int .i64 (best (payI xs) (setsTo xs xs.length))]) ∧ Below w.heap.size w w' := by
  have HLX := hide h.length
  have HX := hide h
  have HOK := hide (errV_ok.1 he).2
  have hn12 : n ≤ 12 := by have := errV_le he; have := h.length; omega
  clear h he
  go_enter Try.func38, Try.ntmps38
  go_wp2_with fail
  have B0 := hide ((Below.refl w.heap.size w).alloc (Nat.le_refl _) (.cells #[.slice none 0 0] 30))
  have S0 := hide (SetsAt.first w (Nat.le_refl w.heap.size))
  go_loopw [4, 5, 6, 7] (fun s a b i wr => ∃ (k m q : Nat) (As : Option Addr) (vs : List Sv), k ≤ n ∧ i = .int .i64 k ∧ s = .slice As m q ∧ a = .int .i64 (best lenI (setsTo xs k)) ∧ b = .int .i64 (best (payI xs) (setsTo xs k)) ∧ Hid (SetsAt wr w.heap.size As m q (setsTo xs k) vs) ∧ Hid (Below w.heap.size w wr)) (fun _ _ _ i _ => n - (intOf i).toNat)
  case atStart => exact ⟨0, 1, 1, _, [sv0], Nat.zero_le _, rfl, rfl, rfl, rfl, S0, B0⟩
  case round =>
    clear S0 B0
    obtain ⟨k, m, q, As, vs, hk, rfl, rfl, rfl, rfl, HS, HB⟩ := hrel
    by_cases hlt : k < n
    · have HM := hide HS.out.len
      have hm2 := setsQ_len xs 0 (i := k) (by omega)
      rw [setsQ_zero, HM.out] at hm2
      have hm1 : 1 ≤ m := by
        have : [] ∈ setsTo xs k := mem_setsTo.2 ⟨⟨List.Pairwise.nil, by simp⟩, List.Pairwise.nil⟩
        have := List.length_pos_of_mem this
        have := HM.out
        omega
      go_wp2_with fail
      go_loopw [4, 5, 6, 8] (fun s a b j wr => ∃ (u p d : Nat) (Ap : Option Addr) (us : List Sv), u ≤ m ∧ j = .int .i64 ((m : Int) - 1 - u) ∧ s = .slice Ap p d ∧ a = .int .i64 (best lenI (setsQ xs k u)) ∧ b = .int .i64 (best (payI xs) (setsQ xs k u)) ∧ Hid (SetsAt wr w.heap.size Ap p d (setsQ xs k u) us) ∧ Hid (Below w.heap.size w wr)) (fun _ _ _ j _ => (intOf j + 1).toNat)
      case atStart => exact ⟨0, m, q, As, vs, Nat.zero_le _, by go_num, rfl, by rw [setsQ_zero], by rw [setsQ_zero], by rw [setsQ_zero]; exact HS, HB⟩
      case round =>
        clear HS HB
        obtain ⟨u, p, d, Ap, us, hu, rfl, rfl, rfl, rfl, HS, HB⟩ := hrel
        by_cases hlu : u < m
        · obtain ⟨kk, hkk⟩ : ∃ kk : Nat, u + kk + 1 = m := ⟨m - 1 - u, by omega⟩
          have ej : (m : Int) - 1 - u = (kk : Int) := by omega
          rw [ej]
          clear ej
          have hpl := setsQ_len_le xs k u
          rw [HM.out, HS.out.len] at hpl
          have hpm := setsQ_len xs u (i := k) (by omega)
          rw [HS.out.len] at hpm
          have hkp : kk < p := by omega
          have hrow := HS.out.each kk hkp
          have hkT : kk < (setsTo xs k).length := by rw [HM.out]; omega
          rw [setsQ_get hkT] at hrow
          have HSM := hide (@setsTo_mem xs k kk _ hkT rfl)
          have HYE := hide (fun hh => @setsQ_yes xs k u kk _ (by rw [HM.out]; omega) rfl hh)
          have HNO := hide (fun hh => @setsQ_no xs k u kk _ (by rw [HM.out]; omega) rfl hh)
          clear hkT hpl
          generalize (setsTo xs k).getD kk [] = s at *
          obtain ⟨g, rfl, hg1, hg2, hg3, hg4⟩ := HS.out.own.addr (by omega)
          have hg4' : d ≤ 9223372036854775807 := hg4
          have a1 := owns_cell HS.out.own hkp
          generalize us.getD kk sv0 = v at *
          obtain ⟨A1, n1, c1⟩ := v
          dsimp only at a1 hrow
          have hn1 : n1 ≤ k := by have h1 := hrow.len; have h2 := HSM.out.2; omega
          have HO1 := hide hrow
          have HIN := hide (show ∀ x ∈ s ++ [(k : Int)], 0 ≤ x ∧ x < n by
            intro x hx
            rcases List.mem_append.1 hx with hx | hx
            · have := HSM.out.1 x hx; omega
            · simp at hx; omega)
          have HLS := hide (show lenI (s ++ [(k : Int)]) = ((n1 + 1 : Nat) : Int) by unfold lenI; rw [List.length_append, hrow.len]; rfl)
          have hszr := HB.out.size
          clear hrow hg4
          cases hal : aloneB xs (s ++ [(k : Int)]) with
          | true =>
            have HQ := hide (HYE.out hal)
            have HAL : Hid (alB xs (s ++ [(k : Int)]) = true) := hide hal
            have HBL := hide (show best lenI (setsQ xs k (u + 1)) = max (best lenI (setsQ xs k u)) ((n1 + 1 : Nat) : Int) by rw [HQ.out, best_snoc, HLS.out])
            have HBP := hide (show best (payI xs) (setsQ xs k (u + 1)) = max (best (payI xs) (setsQ xs k u)) (payI xs (s ++ [(k : Int)])) by rw [HQ.out, best_snoc])
            clear hal HYE HNO
            generalize best lenI (setsQ xs k u) = bl at *
            generalize best (payI xs) (setsQ xs k u) = bp at *
            go_wp2_with (first
              | (at_builtin; refine wpList_appR (E := E1) _ (.int .i64 0) 8 rfl (.tmp 24) (.tmp 28) 30 3 rfl Try.underlying30 info_int rfl (by decide) (by omega) wr.heap.size 0 0 (some ⟨wr.heap.size, 0, none⟩) [] A1 n1 c1 s rfl rfl (Own.lit wr [] (Nat.le_refl _) (by simp)) w.heap.size (HO1.out.alloc _) (by omega) (by omega) (by simp) ?_; intro A5 c5 w5 o5 b5 g5; rw [Nat.zero_add, List.nil_append] at o5; rw [Nat.zero_add]; have HO5 := hide o5; have HB5 := hide (((Below.refl wr.heap.size wr).alloc (Nat.le_refl _) (.cells #[] 3)).trans b5); have hs5 := HB5.out.size; clear o5 b5 g5)
              | ((at_builtin; refine wpList_app1 (E := E1) _ (.int .i64 0) 8 rfl (.tmp 29) (.tmp 31) 30 3 rfl Try.underlying30 info_int rfl (by decide) (by omega) _ _ _ _ _ ((k : Int)) _ rfl rfl rfl HO5.out (by omega) hs5 ?_; intro A6 c6 w6 o6 b6 g6); have HO6 := hide o6; have HB6 := hide (HB5.out.trans b6); have hs6 := HB6.out.size; clear o6 b6 g6)
              | (go_at_call 75; refine (ralone_any _ _ _ xs _ _ _ _ _ (HX.out.below (HB.out.trans (HB6.out.mono hszr)) (Nat.le_refl _)) HOK.out HO6.out.row (by omega) HIN.out).mono ?_; rintro e w7 ⟨rfl, b7⟩; rw [HAL.out]; have HO7 := hide ((HO6.out.below b7 (Nat.le_refl _)).more hszr); have HB7 := hide (HB6.out.trans (b7.mono hs6)); have HS7 := hide (HS.out.below HB7.out (Nat.le_refl _)); have hs7 : w.heap.size ≤ w7.heap.size := Nat.le_trans hszr HB7.out.size; clear b7)
              | (at_builtin; refine wpList_app1 (E := Es) _ (.slice none 0 0) 24 rfl (.tmp 36) (.tmp 38) 61 30 rfl Try.underlying61 info_ints rfl (by decide) (by omega) _ _ _ _ _ ((A6, n1 + 1, c6) : Sv) _ rfl rfl rfl HS7.out.own (by omega) hs7 ?_; intro A8 c8 w8 o8 b8 g8; have HS8 := hide (HS7.out.push (v := (A6, n1 + 1, c6)) HO7.out o8 g8); have HO8 := hide (HO7.out.kept g8 (own_apart HO7.out HS7.out.own (by decide))); have HB8 := hide ((HB.out.trans (HB7.out.mono hszr)).trans b8); clear o8 b8 g8)
              | (go_at_call 37; refine (rPay_any _ _ _ xs _ _ _ _ _ (HX.out.below HB8.out (Nat.le_refl _)) HOK.out HO8.out.row (by omega) HIN.out).mono ?_; rintro e w9 ⟨rfl, rfl⟩))
            go_roundw
            case rel => exact ⟨u + 1, p + 1, c8, A8, us ++ [(A6, n1 + 1, c6)], by omega, by go_num, rfl, by rw [HBL.out]; congr 1; (split <;> omega), by rw [HBP.out]; congr 1; (split <;> omega), by rw [HQ.out]; exact HS8, HB8⟩
            case measure => (simp [intOf] <;> omega)
          | false =>
            have HQ := hide (HNO.out hal)
            have HAL : Hid (alB xs (s ++ [(k : Int)]) = false) := hide hal
            clear hal HYE HNO
            go_wp2_with (first
              | (at_builtin; refine wpList_appR (E := E1) _ (.int .i64 0) 8 rfl (.tmp 24) (.tmp 28) 30 3 rfl Try.underlying30 info_int rfl (by decide) (by omega) wr.heap.size 0 0 (some ⟨wr.heap.size, 0, none⟩) [] A1 n1 c1 s rfl rfl (Own.lit wr [] (Nat.le_refl _) (by simp)) w.heap.size (HO1.out.alloc _) (by omega) (by omega) (by simp) ?_; intro A5 c5 w5 o5 b5 g5; rw [Nat.zero_add, List.nil_append] at o5; rw [Nat.zero_add]; have HO5 := hide o5; have HB5 := hide (((Below.refl wr.heap.size wr).alloc (Nat.le_refl _) (.cells #[] 3)).trans b5); have hs5 := HB5.out.size; clear o5 b5 g5)
              | ((at_builtin; refine wpList_app1 (E := E1) _ (.int .i64 0) 8 rfl (.tmp 29) (.tmp 31) 30 3 rfl Try.underlying30 info_int rfl (by decide) (by omega) _ _ _ _ _ ((k : Int)) _ rfl rfl rfl HO5.out (by omega) hs5 ?_; intro A6 c6 w6 o6 b6 g6); have HO6 := hide o6; have HB6 := hide (HB5.out.trans b6); have hs6 := HB6.out.size; clear o6 b6 g6)
              | (go_at_call 75; refine (ralone_any _ _ _ xs _ _ _ _ _ (HX.out.below (HB.out.trans (HB6.out.mono hszr)) (Nat.le_refl _)) HOK.out HO6.out.row (by omega) HIN.out).mono ?_; rintro e w7 ⟨rfl, b7⟩; rw [HAL.out]; have HB7 := hide (HB6.out.trans (b7.mono hs6)); clear b7))
            go_roundw
            case rel => exact ⟨u + 1, p, d, _, us, by omega, by go_num, rfl, by rw [HQ.out], by rw [HQ.out], by rw [HQ.out]; exact hide (HS.out.below HB7.out (Nat.le_refl _)), hide (HB.out.trans (HB7.out.mono hszr))⟩
            case measure => (simp [intOf] <;> omega)
        · obtain rfl : u = m := by omega
          have HA := hide (setsQ_all (l := xs) (i := k) (q := u) (by rw [HM.out]; exact Nat.le_refl _))
          go_wp2_with fail
          go_roundw
          case rel => exact ⟨k + 1, p, d, Ap, us, by omega, by go_num, rfl, by rw [HA.out], by rw [HA.out], by rw [← HA.out]; exact HS, HB⟩
          case measure => (simp [intOf] <;> omega)
    · obtain rfl : k = n := by omega
      go_wp2_with fail
      go_ret2
      exact ⟨by rw [HLX.out]; rfl, HB.out⟩
end Go.Proofs.Ytpkjgnllkaafkaa
