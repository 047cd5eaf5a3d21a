/- Walks: the first longest part, the program. -/
import Derived.Test.YtndfdminjegldaaWalkPa
import Derived.Deep.LoopGhost
namespace Go.Proofs.Ytndfdminjegldaa
open Go.RowKit Go.Shelf
attribute [local go_sem] Oper.semAt_some

def parV (l m : List Int) : List Int := if errB l m = 0 then partF l.length l m else []
theorem parV_ok {l m : List Int} (h : errB l m = 0) : parV l m = partF l.length l m := if_pos h
theorem parV_no {l m : List Int} (h : errB l m ≠ 0) : parV l m = [] := if_neg h
theorem nxt_none1 {l m : List Int} {k t : Nat} (h : aft (t : Int) l = none) : nxtS l m k t = false := by unfold nxtS; rw [h]
theorem nxt_none2 {l m : List Int} {k t : Nat} (h : aft (t : Int) m = none) : nxtS l m k t = false := by
  unfold nxtS
  rw [h]
  cases aft (t : Int) l <;> rfl
theorem nxt_some {l m a b : List Int} {k t : Nat} (h : aft (t : Int) l = some a) (h' : aft (t : Int) m = some b) : nxtS l m k t = (cmn a b == k) := by unfold nxtS; rw [h, h']
/-- The sign that is found is the document's. -/
theorem part_here {f k t : Nat} {l m a b : List Int} (hl : l.length ≤ f + 1) (hs : Sg l) (hk : cmn l m = k + 1) (hlt : ∀ s, s < t → nxtS l m k s = false) (ha : aft (t : Int) l = some a) (hb : aft (t : Int) m = some b) (hc : cmn a b = k) : partF (f + 1) l m = (t : Int) :: partF f a b := by
  obtain ⟨s, a', b', h6, h1, h2, h3, h4, h5, h7⟩ := part_next hl hs hk
  have ht : nxtS l m k t = true := by rw [nxt_some ha hb, hc]; exact beq_self_eq_true _
  have e : s = t := by
    rcases Nat.lt_trichotomy s t with e | e | e
    · rw [hlt s e] at h2; cases h2
    · exact e
    · rw [h1 t e] at ht; cases ht
  subst e
  rw [ha] at h3
  rw [hb] at h4
  cases h3
  cases h4
  exact h7
theorem part_six {f k : Nat} {l m : List Int} (hl : l.length ≤ f + 1) (hs : Sg l) (hk : cmn l m = k + 1) (hlt : ∀ s, s < 6 → nxtS l m k s = false) : False := by
  obtain ⟨s, a', b', h6, h1, h2, _⟩ := part_next hl hs hk
  rw [hlt s h6] at h2
  cases h2
theorem cmn_nil {m : List Int} : cmn [] m = 0 := by
  obtain ⟨⟨p, h1, _, h2⟩, _⟩ := cmn_spec [] m
  have := h1.length_le
  simp at this
  rw [← h2, this]
  rfl
theorem part_nil {f : Nat} {l m : List Int} (hl : l.length ≤ f) (hs : Sg l) (h : cmn l m = 0) : partF f l m = [] := List.eq_nil_of_length_eq_zero (by rw [(part_spec f l m hl hs).2.2]; exact h)
theorem sg_errL {l : List Int} (h : errL l = 0) : Sg l := (errL_ok.1 h).2
set_option maxRecDepth 100000 in
set_option maxHeartbeats 8000000 in
theorem Part_any (A : Option Addr) (n c : Nat) (xs : List Int) (A' : Option Addr) (n' c' : Nat) (ys : List Int) (w : World) (hx : R E1 w A n c xs) (hy : R E1 w A' n' c' ys) :
    Calls Try.prog 39 #[.slice A n c, .slice A' n' c'] w (RowPost (errB xs ys) (parV xs ys) w) := by
  have HX := hide hx
  have HY := hide hy
  by_cases he : errB xs ys = 0
  · have HE := hide he
    have HV := hide (parV_ok he)
    obtain ⟨h1, h2⟩ := errB_ok.1 he
    have hn : n ≤ 10 := by rw [← hx.length]; exact (errL_ok.1 h1).1
    have hn' : n' ≤ 10 := by rw [← hy.length]; exact (errL_ok.1 h2).1
    have HSG := hide (sg_errL h1)
    have HPL := hide (show (partF xs.length xs ys).length ≤ 10 from by
      have := (part_spec xs.length xs ys (Nat.le_refl _) (sg_errL h1)).1.length_le
      have := (errL_ok.1 h1).1
      omega)
    have HLX := hide hx.length
    clear hx hy he h1 h2
    go_enter Try.func39, Try.ntmps39
    go_wp2_with (first
      | (go_at_call 72; refine (validateBoth_any A n c xs A' n' c' ys _ HX.out HY.out).mono ?_; rintro e1 w1 ⟨rfl, rfl⟩; rw [HE.out])
      | (go_at_call 73; refine (common_any A n c xs A' n' c' ys _ HX.out HY.out hn hn').mono ?_; rintro e2 w2 ⟨rfl, b2⟩; have B2 := hide b2; clear b2))
    go_loopw [0, 1, 7, 8] (fun a0 a1 a7 a8 wr => ∃ (A1 : Option Addr) (n1 d1 : Nat) (l1 : List Int) (A2 : Option Addr) (n2 d2 : Nat) (l2 : List Int) (Ao : Option Addr) (no co : Nat) (P : List Int) (k f : Nat), a0 = .slice A1 n1 d1 ∧ a1 = .slice A2 n2 d2 ∧ a7 = .slice Ao no co ∧ a8 = .int .i64 k ∧ n1 ≤ 10 ∧ n2 ≤ 10 ∧ k ≤ 10 ∧ Hid (R E1 w A1 n1 d1 l1) ∧ Hid (R E1 w A2 n2 d2 l2) ∧ Hid (l1.length ≤ f) ∧ Hid (Sg l1) ∧ Hid (cmn l1 l2 = k) ∧ Hid (partF xs.length xs ys = P ++ partF f l1 l2) ∧ Hid (Own E1 wr w.heap.size 3 Ao no co P) ∧ Hid (Below w.heap.size w wr)) (fun _ _ _ a8 _ => (intOf a8).toNat)
    case atStart => exact ⟨A, n, c, xs, A', n', c', ys, none, 0, 0, [], cmn xs ys, xs.length, rfl, rfl, rfl, rfl, hn, hn', by
      have := (part_spec xs.length xs ys (Nat.le_refl _) HSG.out).2.2
      have := HPL.out
      omega, HX, HY, hide (Nat.le_refl _), HSG, hide rfl, hide rfl, hide (Own.nil _ _ _ _), B2⟩
    case round =>
      clear B2
      obtain ⟨A1, n1, d1, l1, A2, n2, d2, l2, Ao, no, co, P, k, f, rfl, rfl, rfl, rfl, hn1, hn2, hk10, R1, R2, HF, HS, HC, HPV, HO, HB⟩ := hrel
      rcases Nat.eq_zero_or_pos k with h0 | h0
      · subst h0
        have HP := hide (show parV xs ys = P from by rw [HV.out, HPV.out, part_nil HF.out HS.out HC.out, List.append_nil])
        go_wp2_with fail
        go_ret2
        exact ⟨Ao, no, co, by rw [HE.out]; rfl, by rw [HP.out]; exact HO.out, HB.out⟩
      · obtain ⟨k, rfl⟩ : ∃ q, k = q + 1 := ⟨k - 1, by omega⟩
        have hf0 : 0 < f := by
          rcases Nat.eq_zero_or_pos f with e | e
          · have h1 := HF.out
            rw [e] at h1
            have h2 := HC.out
            rw [List.eq_nil_of_length_eq_zero (by omega : l1.length = 0), cmn_nil] at h2
            omega
          · exact e
        obtain ⟨f, rfl⟩ : ∃ q, f = q + 1 := ⟨f - 1, by omega⟩
        have hkp : (0 : Int) < (k : Int) + 1 := by omega
        have hno : no ≤ 10 := by
          have h1 := HPL.out
          rw [HPV.out, List.length_append, HO.out.len] at h1
          omega
        clear h0 hf0
        go_wp2_with fail
        go_loopg [0, 1, 7, 27] 6 (fun gg a0 a1 a7 a27 wr => ∃ t : Nat, t ≤ 6 ∧ 6 - t ≤ gg ∧ a0 = .slice A1 n1 d1 ∧ a1 = .slice A2 n2 d2 ∧ a7 = .slice Ao no co ∧ a27 = .int .i64 t ∧ Hid (∀ s, s < t → nxtS l1 l2 k s = false) ∧ Hid (Own E1 wr w.heap.size 3 Ao no co P) ∧ Hid (Below w.heap.size w wr))
        case atStart => exact ⟨0, Nat.zero_le _, Nat.le_refl _, rfl, rfl, rfl, rfl, hide (fun s hs => by omega), HO, HB⟩
        case round =>
          clear HO HB
          obtain ⟨t, ht, hgg, rfl, rfl, rfl, rfl, HN, HO, HB⟩ := hrel
          by_cases hlt : t < 6
          · have htn : (t : Int) < 6 := by omega
            have HNS := hide (fun (hb : nxtS l1 l2 k t = false) => show ∀ s, s < t + 1 → nxtS l1 l2 k s = false from fun s hs => by
              by_cases e : s = t
              · rw [e]; exact hb
              · exact HN.out s (by omega))
            have RW1 := hide (R1.out.below HB.out (Nat.le_refl _))
            have RW2 := hide (R2.out.below HB.out (Nat.le_refl _))
            cases ha : aft (t : Int) l1 with
            | none =>
              have HA := hide ha
              have HN2 := hide (HNS.out (nxt_none1 ha))
              clear ha
              cases hb : aft (t : Int) l2 with
              | none =>
                have HB' := hide hb
                clear hb
                go_wp2_with (first
                  | (have hgd := G1; clear hgd; go_at_call 76; refine (after_none A2 n2 d2 l2 t _ RW2.out HB'.out).mono ?_; rintro e4 w4 ⟨rfl, rfl⟩)
                  | (go_at_call 76; refine (after_none A1 n1 d1 l1 t _ RW1.out HA.out).mono ?_; rintro e3 w3 ⟨rfl, rfl⟩; have G1 := hide True.intro))
                go_roundg (6 - (t + 1))
                case measure => omega
                case rel => exact ⟨t + 1, by omega, by omega, rfl, rfl, rfl, by go_num, HN2, HO, HB⟩
              | some b =>
                have HB' := hide hb
                clear hb
                go_wp2_with (first
                  | (have hgd := G1; clear hgd; go_at_call 76; refine (after_some A2 n2 d2 l2 t b _ RW2.out (by omega) HB'.out).mono ?_; rintro e4 w4 ⟨⟨A4, n4, c4, rfl, r4⟩, rfl⟩; clear r4)
                  | (go_at_call 76; refine (after_none A1 n1 d1 l1 t _ RW1.out HA.out).mono ?_; rintro e3 w3 ⟨rfl, rfl⟩; have G1 := hide True.intro))
                go_roundg (6 - (t + 1))
                case measure => omega
                case rel => exact ⟨t + 1, by omega, by omega, rfl, rfl, rfl, by go_num, HN2, HO, HB⟩
            | some a =>
              have HA := hide ha
              have hal := aft_len ha
              rw [R1.out.length] at hal
              clear ha
              cases hb : aft (t : Int) l2 with
              | none =>
                have HB' := hide hb
                have HN2 := hide (HNS.out (nxt_none2 hb))
                clear hb
                go_wp2_with (first
                  | (have hgd := G1; clear hgd; go_at_call 76; refine (after_none A2 n2 d2 l2 t _ RW2.out HB'.out).mono ?_; rintro e4 w4 ⟨rfl, rfl⟩)
                  | (go_at_call 76; refine (after_some A1 n1 d1 l1 t a _ RW1.out (by omega) HA.out).mono ?_; rintro e3 w3 ⟨⟨A3, n3, c3, rfl, r3⟩, rfl⟩; have G1 := hide True.intro; clear r3))
                go_roundg (6 - (t + 1))
                case measure => omega
                case rel => exact ⟨t + 1, by omega, by omega, rfl, rfl, rfl, by go_num, HN2, HO, HB⟩
              | some b =>
                have HB' := hide hb
                have hbl := aft_len hb
                rw [R2.out.length] at hbl
                have HNX := hide (nxt_some (k := k) HA.out hb)
                clear hb
                by_cases hc : cmn a b = k
                · have HCK := hide hc
                  have HPH := hide (part_here HF.out HS.out HC.out HN.out HA.out HB'.out hc)
                  have HAF := hide (show a.length ≤ f from by have h1 := HF.out; rw [R1.out.length] at h1; omega)
                  have HAS := hide (HS.out.aft HA.out)
                  have HPV2 := hide (show partF xs.length xs ys = (P ++ [(t : Int)]) ++ partF f a b from by rw [HPV.out, HPH.out]; simp)
                  have HRA := hide (fun (A3 : Option Addr) (n3 c3 : Nat) (h : R E1 wr A3 n3 c3 a) => h)
                  clear hc
                  go_wp2_with (first
                    | (have hgd := G2; clear hgd; go_at_call 73; refine HCM.out.mono ?_; rw [HCK.out]; rintro e5 w5 ⟨rfl, b5⟩; have B5 := hide (le_call HB.out b5); have O5 := hide (HO.out.below b5 (Nat.le_refl _)); clear b5)
                    | (have hgd := G1; clear hgd; go_at_call 76; refine (after_some A2 n2 d2 l2 t b _ RW2.out (by omega) HB'.out).mono ?_; rintro e4 w4 ⟨⟨A4, n4, c4, rfl, r4⟩, rfl⟩; have R4 := hide (r4 wr RW2.out); have R4W := hide (r4 w R2.out); have hl4 := R4.out.length; have HCM := hide (common_any A3 n3 c3 a A4 n4 c4 b wr R3.out R4.out (by omega) (by omega)); have G2 := hide True.intro; clear r4)
                    | (go_at_call 76; refine (after_some A1 n1 d1 l1 t a _ RW1.out (by omega) HA.out).mono ?_; rintro e3 w3 ⟨⟨A3, n3, c3, rfl, r3⟩, rfl⟩; have R3 := hide (r3 wr RW1.out); have R3W := hide (r3 w R1.out); have hl3 := R3.out.length; have G1 := hide True.intro; clear r3)
                    | (at_builtin; refine wpList_app1 (E := E1) w5 (.int .i64 0) 8 rfl (.tmp 54) (.tmp 56) 22 3 rfl Try.underlying22 info_int rfl (by decide) (by omega) w.heap.size no co Ao P (t : Int) _ rfl rfl rfl O5.out (by omega) B5.out.size ?_; intro A7 c7 w7 o7 b7 _; have O7 := hide o7; have B7 := hide (B5.out.trans b7); clear o7 b7))
                  go_roundw
                  case rel => exact ⟨A3, n3, c3, a, A4, n4, c4, b, A7, no + 1, _, P ++ [(t : Int)], k, f, rfl, rfl, rfl, by go_num, by omega, by omega, by omega, R3W, R4W, HAF, HAS, HCK, HPV2, O7, B7⟩
                  case measure => simp [intOf]
                · obtain ⟨q, hq⟩ : ∃ q, cmn a b = q := ⟨_, rfl⟩
                  have HQ := hide hq
                  have hcb : ((q : Int) == (k : Int)) = false := by simp; omega
                  have HN2 := hide (HNS.out (by rw [HNX.out]; simpa using hc))
                  clear hc hq
                  go_wp2_with (first
                    | (have hgd := G2; clear hgd; go_at_call 73; refine HCM.out.mono ?_; rw [HQ.out]; rintro e5 w5 ⟨rfl, b5⟩; have B5 := hide (le_call HB.out b5); have O5 := hide (HO.out.below b5 (Nat.le_refl _)); clear b5)
                    | (have hgd := G1; clear hgd; go_at_call 76; refine (after_some A2 n2 d2 l2 t b _ RW2.out (by omega) HB'.out).mono ?_; rintro e4 w4 ⟨⟨A4, n4, c4, rfl, r4⟩, rfl⟩; have R4 := hide (r4 wr RW2.out); have R4W := hide (r4 w R2.out); have hl4 := R4.out.length; have HCM := hide (common_any A3 n3 c3 a A4 n4 c4 b wr R3.out R4.out (by omega) (by omega)); have G2 := hide True.intro; clear r4)
                    | (go_at_call 76; refine (after_some A1 n1 d1 l1 t a _ RW1.out (by omega) HA.out).mono ?_; rintro e3 w3 ⟨⟨A3, n3, c3, rfl, r3⟩, rfl⟩; have R3 := hide (r3 wr RW1.out); have R3W := hide (r3 w R1.out); have hl3 := R3.out.length; have G1 := hide True.intro; clear r3))
                  go_roundg (6 - (t + 1))
                  case measure => omega
                  case rel => exact ⟨t + 1, by omega, by omega, rfl, rfl, rfl, by go_num, HN2, O5, B5⟩
          · obtain rfl : t = 6 := by omega
            exact (part_six HF.out HS.out HC.out HN.out).elim
  · have HV := hide (parV_no he)
    have hne : (errB xs ys != 0) = true := by simpa using he
    clear hx hy he
    go_enter Try.func39, Try.ntmps39
    go_wp2_with (go_at_call 72; refine (validateBoth_any A n c xs A' n' c' ys _ HX.out HY.out).mono ?_; rintro e1 w1 ⟨rfl, rfl⟩)
    go_ret2
    exact ⟨none, 0, 0, rfl, by rw [HV.out]; exact Own.nil _ _ _ _, Below.refl _ _⟩
end Go.Proofs.Ytndfdminjegldaa
