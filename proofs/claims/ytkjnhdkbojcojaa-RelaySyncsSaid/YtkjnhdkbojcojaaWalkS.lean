/- Walks of the document's side: a copy of a box; the box with exchanged inputs. -/
import Derived.Test.YtkjnhdkbojcojaaWalkR
import Derived.Test.YtkjnhdkbojcojaaApB
namespace Go.Proofs.Ytkjnhdkbojcojaa
open Go.RowKit Go.Shelf
attribute [local go_sem] Oper.semAt_some

theorem own_neG {α β : Type} {E : Enc α} {E' : Enc β} {w : World} {B B' n n' c c' : Nat} {e e' : TypeId} {A A' : Option Addr} {l : List α} {l' : List β} (h : Own E w B e A n c l) (h' : Own E' w B' e' A' n' c' l') (hte : e ≠ e') : (Value.slice A' n' c').ownBlock = none ∨ (Value.slice A' n' c').ownBlock ≠ (Value.slice A n c).ownBlock := by
  rcases h.form with ⟨rfl, rfl, rfl, _⟩ | ⟨g, rfl, _⟩
  · cases hh : (Value.slice A' n' c').ownBlock with
    | none => exact .inl rfl
    | some y => exact .inr (by simp [Value.ownBlock])
  · rcases own_ne h' h hte with h1 | h1
    · exact .inl h1
    · exact .inr (by simpa [Value.ownBlock] using h1)
set_option maxRecDepth 100000 in
set_option maxHeartbeats 8000000 in
theorem rCopy_any (A : Option Addr) (n c : Nat) (A' : Option Addr) (n' c' : Nat) (b : Bx) (w : World) (h : BxR w A n c A' n' c' b) (hn : n ≤ 1000) (hn' : n' ≤ 1000) :
    Calls Try.prog 48 #[bV A n c A' n' c'] w (CopyPost b n n' w) := by
  have HB0 := hide (show Below w.heap.size w ((w.alloc (.cells #[.slice A n c, .slice A' n' c'] 25)).alloc (.cells #[.slice none 0 0, .slice none 0 0] 25)) from le_two (le_two (Below.refl _ _) _) _)
  have HK1 := hide ((Bk.born w 25 #[.slice A n c, .slice A' n' c']).more (.cells #[.slice none 0 0, .slice none 0 0] 25))
  have HK2 := hide (Bk.born (w.alloc (.cells #[.slice A n c, .slice A' n' c'] 25)) 25 #[.slice none 0 0, .slice none 0 0])
  rw [show (w.alloc (.cells #[.slice A n c, .slice A' n' c'] 25)).heap.size = w.heap.size + 1 from by simp] at HK2
  have HR := hide (h.below HB0.out (Nat.le_refl _))
  clear h
  go_enter Try.func48, Try.ntmps48
  go_wp2_with fail
  generalize (w.alloc (.cells #[.slice A n c, .slice A' n' c'] 25)).alloc (.cells #[.slice none 0 0, .slice none 0 0] 25) = W at *
  have HS := hide (fun x (hx : Below W.heap.size W x) => bk_two (HK1.out.keep hx HK1.out.in_))
  have h0 := HS.out W (Below.refl _ _)
  have hs2 := HB0.out.size
  have hin2 := HK2.out.in_
  have HRX := hide (fun x (hx : Below W.heap.size W x) => HR.out.nx.below hx (Nat.le_refl _))
  have HRY := hide (fun x (hx : Below W.heap.size W x) => HR.out.ou.below hx (Nat.le_refl _))
  have f0 := HK2.out.fr 0
  have f1 := HK2.out.fr 1
  have g0 := bk_two HK2.out
  have b1 := hide (show Below W.heap.size W (W.drew.alloc (.cells #[] 59)) from ((Below.refl W.heap.size W).drew).alloc (Nat.le_refl _) _)
  have b2 := hide (show Below W.heap.size W ((W.drew.alloc (.cells #[] 59)).alloc (.cells #[] 3)) from b1.out.alloc b1.out.size _)
  have b3 := hide (show Below W.heap.size W (W.drew.alloc (.cells #[] 3)) from ((Below.refl W.heap.size W).drew).alloc (Nat.le_refl _) _)
  have b4 := hide (show Below W.heap.size W ((W.drew.alloc (.cells #[] 3)).alloc (.cells #[] 59)) from b3.out.alloc b3.out.size _)
  have e1 : (W.drew.alloc (.cells #[] 59)).heap.size = W.heap.size + 1 := by have : W.drew.heap.size = W.heap.size := rfl; simp
  have e3 : (W.drew.alloc (.cells #[] 3)).heap.size = W.heap.size + 1 := by have : W.drew.heap.size = W.heap.size := rfl; simp
  have HN1 := hide (show Own EN (W.drew.alloc (.cells #[] 59)) W.heap.size 59 (some ⟨W.heap.size, 0, none⟩) 0 0 [] from Own.lit W.drew [] (Nat.le_refl _) (by simp))
  have HN2 := hide (HN1.out.alloc (.cells #[] 3))
  have HI2 := hide (show Own E1 ((W.drew.alloc (.cells #[] 59)).alloc (.cells #[] 3)) W.heap.size 3 (some ⟨W.heap.size + 1, 0, none⟩) 0 0 [] from by have := Own.lit (B := W.heap.size) (E := E1) (e := 3) (W.drew.alloc (.cells #[] 59)) [] (by omega) (by simp); rw [e1] at this; exact this)
  have HI1 := hide (show Own E1 (W.drew.alloc (.cells #[] 3)) W.heap.size 3 (some ⟨W.heap.size, 0, none⟩) 0 0 [] from Own.lit W.drew [] (Nat.le_refl _) (by simp))
  have HI3 := hide (HI1.out.alloc (.cells #[] 59))
  have HN3 := hide (show Own EN ((W.drew.alloc (.cells #[] 3)).alloc (.cells #[] 59)) W.heap.size 59 (some ⟨W.heap.size + 1, 0, none⟩) 0 0 [] from by have := Own.lit (B := W.heap.size) (E := EN) (e := 59) (W.drew.alloc (.cells #[] 3)) [] (by omega) (by simp); rw [e3] at this; exact this)
  have k1 := HS.out _ b1.out
  have k2 := HS.out _ b2.out
  have k3 := HS.out _ b3.out
  have k4 := HS.out _ b4.out
  clear e1 e3
  go_region_held_law (fun w' => w'.cell? ⟨w.heap.size, 0, none⟩ = some (.slice A n c) ∧ w'.cell? ⟨w.heap.size, 1, none⟩ = some (.slice A' n' c'))
    (first
      | exact K9.out
      | exact K8.out
      | exact K8c.out
      | exact ⟨h0.1, h0.2⟩
      | exact ⟨k2.1, k2.2⟩
      | exact ⟨k4.1, k4.2⟩
      | exact ⟨k1.1, k1.2⟩
      | exact ⟨k3.1, k3.2⟩
      | go_keep)
    (first
      | (have hgd := OX; clear hgd; refine step_appG (E := E1) w8 (.int .i64 0) 8 rfl (.tmp 7) (.tmp 9) 23 3 rfl Try.underlying23 info_int rfl (by decide) (by omega) W.heap.size 0 0 _ [] A' n' c' b.2 rfl rfl OX.out (HRY.out w8 B8.out) (by omega) (by omega) B8.out.size ?_; intro A9 c9 w9 o9 b9 r9 _; rw [Nat.zero_add] at o9 ⊢; have B9 := hide (B8.out.trans b9); have O9 := hide (show Own E1 w9 W.heap.size 3 A9 n' c9 b.2 from o9); have O89 := hide (O8.out.kept r9 (own_neG OX.out O8.out (by decide))); have K9 := hide (HS.out w9 B9.out); have KR := hide (HK2.out.keep B9.out HK2.out.in_); have m0 := KR.out.fr 0; have m1 := KR.out.fr 1; have m2 := bk_two KR.out; clear o9 b9 r9)
      | (have hgd := O8; clear hgd; refine step_appG (E := E1) (w8.alloc (.cells #[] 3)) (.int .i64 0) 8 rfl (.tmp 7) (.tmp 9) 23 3 rfl Try.underlying23 info_int rfl (by decide) (by omega) w8.heap.size 0 0 (some ⟨w8.heap.size, 0, none⟩) [] A' n' c' b.2 rfl rfl (Own.lit w8 [] (Nat.le_refl _) (by simp)) (HRY.out _ (B8.out.alloc B8.out.size _)) (by omega) (by omega) (by simp) ?_; intro A9 c9 w9 o9 b9 r9 _; rw [Nat.zero_add] at o9 ⊢; have b89 := ((Below.refl w8.heap.size w8).alloc (Nat.le_refl _) (.cells #[] 3)).trans b9; have B9 := hide (le_call B8.out b89); have O89 := hide (O8.out.below b89 (Nat.le_refl _)); have O9 := hide (show Own E1 w9 W.heap.size 3 A9 n' c9 b.2 from o9.more B8.out.size); have K9 := hide (HS.out w9 B9.out); have KR := hide (HK2.out.keep B9.out HK2.out.in_); have m0 := KR.out.fr 0; have m1 := KR.out.fr 1; have m2 := bk_two KR.out; clear o9 b9 r9)
      | (refine step_appG (E := EN) (W.drew.alloc (.cells #[] 59)) (.agg #[.int .i64 0, .int .i64 0]) 16 rfl (.tmp 3) (.tmp 5) 22 59 rfl Try.underlying22 info_two rfl (by decide) (by omega) W.heap.size 0 0 (some ⟨W.heap.size, 0, none⟩) [] A n c b.1 rfl rfl HN1.out (HRX.out _ b1.out) (by omega) (by omega) b1.out.size ?_; intro A8 c8 w8 o8 b8 r8 _; rw [Nat.zero_add] at o8 ⊢; have O8 := hide (show Own EN w8 W.heap.size 59 A8 n c8 b.1 from o8); have B8 := hide (b1.out.trans b8); have K8 := hide (HS.out w8 B8.out); have K8c := hide (HS.out (w8.alloc (.cells #[] 3)) (B8.out.alloc B8.out.size _)); clear o8 b8 r8)
      | (refine step_appG (E := EN) ((W.drew.alloc (.cells #[] 59)).alloc (.cells #[] 3)) (.agg #[.int .i64 0, .int .i64 0]) 16 rfl (.tmp 3) (.tmp 5) 22 59 rfl Try.underlying22 info_two rfl (by decide) (by omega) W.heap.size 0 0 (some ⟨W.heap.size, 0, none⟩) [] A n c b.1 rfl rfl HN2.out (HRX.out _ b2.out) (by omega) (by omega) b2.out.size ?_; intro A8 c8 w8 o8 b8 r8 _; rw [Nat.zero_add] at o8 ⊢; have OX := hide (HI2.out.kept r8 (own_neG HN2.out HI2.out (by decide))); have O8 := hide (show Own EN w8 W.heap.size 59 A8 n c8 b.1 from o8); have B8 := hide (b2.out.trans b8); have K8 := hide (HS.out w8 B8.out); clear o8 b8 r8)
      | (refine step_appG (E := EN) ((W.drew.alloc (.cells #[] 3)).alloc (.cells #[] 59)) (.agg #[.int .i64 0, .int .i64 0]) 16 rfl (.tmp 3) (.tmp 5) 22 59 rfl Try.underlying22 info_two rfl (by decide) (by omega) W.heap.size 0 0 (some ⟨W.heap.size + 1, 0, none⟩) [] A n c b.1 rfl rfl HN3.out (HRX.out _ b4.out) (by omega) (by omega) b4.out.size ?_; intro A8 c8 w8 o8 b8 r8 _; rw [Nat.zero_add] at o8 ⊢; have OX := hide (HI3.out.kept r8 (own_neG HN3.out HI3.out (by decide))); have O8 := hide (show Own EN w8 W.heap.size 59 A8 n c8 b.1 from o8); have B8 := hide (b4.out.trans b8); have K8 := hide (HS.out w8 B8.out); clear o8 b8 r8))
  all_goals
    go_wp2_with fail
    have HF := hide ((KR.out.put 0 (.slice A8 n c8)).put 1 (.slice A9 n' c9))
    have hf := bk_two HF.out
    have hin := HK2.out.in_
    have OA := hide (own_other (own_other O89.out hin 0 (.slice A8 n c8)) hin 1 (.slice A9 n' c9))
    have OB := hide (own_other (own_other O9.out hin 0 (.slice A8 n c8)) hin 1 (.slice A9 n' c9))
    have hb6 := HB0.out.trans (B9.out.mono hs2)
    refine bodyPost_ret (v := bV A8 n c8 A9 n' c9) (by simp [results, Try.results48, go_sem, hf]) rfl ⟨A8, c8, A9, c9, rfl, ⟨OA.out.more hs2, OB.out.more hs2⟩, Below.setCell (Below.setCell hb6 (by simp) _) (by simp) _⟩
set_option maxRecDepth 100000 in
set_option maxHeartbeats 8000000 in
theorem rTurn_any (A : Option Addr) (n c : Nat) (A' : Option Addr) (n' c' : Nat) (b : Bx) (w : World) (h : BxR w A n c A' n' c' b) :
    Calls Try.prog 55 #[bV A n c A' n' c'] w (BoxPost (errX b) (turnF b) w) := by
  have HB0 := hide (show Below w.heap.size w ((w.alloc (.cells #[.slice A n c, .slice A' n' c'] 25)).alloc (.cells #[.slice none 0 0, .slice none 0 0] 25)) from le_two (le_two (Below.refl _ _) _) _)
  have HK1 := hide ((Bk.born w 25 #[.slice A n c, .slice A' n' c']).more (.cells #[.slice none 0 0, .slice none 0 0] 25))
  have HK2 := hide (Bk.born (w.alloc (.cells #[.slice A n c, .slice A' n' c'] 25)) 25 #[.slice none 0 0, .slice none 0 0])
  rw [show (w.alloc (.cells #[.slice A n c, .slice A' n' c'] 25)).heap.size = w.heap.size + 1 from by simp] at HK2
  have HR := hide (h.below HB0.out (Nat.le_refl _))
  have HNL := hide h.nx.length
  have HOL := hide h.ou.length
  clear h
  by_cases he : errX b = 0
  · have hee : (errX b != 0) = false := by simp [he]
    have HE := hide he
    have hok := okx_of he
    have hn6 : n ≤ 6 := by rw [← HNL.out, hok.len]; exact hok.n6
    have hn6' : n' ≤ 6 := by rw [← HOL.out]; exact hok.n6
    clear he hok
    go_enter Try.func55, Try.ntmps55
    go_wp2_with (first
      | (go_at_call 26; refine (rValidate_any _ _ _ _ _ _ b _ HR.out).mono ?_; rintro e w1 ⟨rfl, b1⟩; have f1 := bk_two (HK1.out.keep b1 HK1.out.in_); have B1 := hide b1; clear b1)
      | (go_at_call 48; refine (rCopy_any _ n _ _ n' _ b _ (HR.out.below B1.out (Nat.le_refl _)) (by omega) (by omega)).mono ?_; rintro e w3 ⟨A1, c1, A2, c2, rfl, o3, b3⟩; have O3 := hide o3; have B3 := hide b3; clear o3 b3))
    have HS1 := hide (le_call HB0.out B1.out)
    have HK21 := hide (HK2.out.keep B1.out HK2.out.in_)
    have HP0 := hide (Bk.born w3 25 #[.slice A1 n c1, .slice A2 n' c2])
    have HO0 := hide (O3.out.below (le_two (Below.refl _ _) (.cells #[.slice A1 n c1, .slice A2 n' c2] 25)) (Nat.le_refl _))
    have HL0 := hide (show Below w1.heap.size w1 (w3.alloc (.cells #[.slice A1 n c1, .slice A2 n' c2] 25)) from le_two B3.out _)
    generalize w3.alloc (.cells #[.slice A1 n c1, .slice A2 n' c2] 25) = W4 at *
    clear f1
    go_loopw [6] (fun i wr => ∃ k : Nat, k ≤ n ∧ i = .int .i64 k ∧ Hid (Own EN wr w1.heap.size 59 A1 n c1 (turnTo b k).1) ∧ Hid (Own E1 wr w1.heap.size 3 A2 n' c2 b.2) ∧ Hid (Bk wr w3.heap.size 25 #[.slice A1 n c1, .slice A2 n' c2]) ∧ Hid (Below w1.heap.size w1 wr)) (fun i _ => n - (intOf i).toNat)
    case atStart => exact ⟨0, Nat.zero_le _, rfl, hide (by rw [turnTo_zero]; exact HO0.out.1), hide HO0.out.2, HP0, HL0⟩
    case round =>
      obtain ⟨k, hk, rfl, HN, HI, HP, HL⟩ := hrel
      have hcp := bk_two HP.out
      by_cases hlt : k < n
      · obtain ⟨g1, rfl, hg1, _⟩ := HN.out.addr (by omega)
        have hgl : g1 < w3.heap.size := by
          rcases O3.out.1.form with ⟨hh, _⟩ | ⟨g', hA, _, hlt', _⟩
          · cases hh
          · injection hA with hA; injection hA with hA; omega
        have HGL := hide hgl
        have HG1 := hide hg1
        have hco := own2 HN.out hlt
        have hf := HN.out.frozen (k * 2)
        have hf2 := HN.out.frozen (k * 2 + 1)
        have HTS := hide (turnTo_set (b := b) (k := k) (by rw [HNL.out]; exact hlt))
        obtain ⟨b1, o1, hr1⟩ := (HR.out.below B1.out (Nat.le_refl _)).nx
        obtain rfl := hr1.at_ (by omega)
        have hcn := cN (hr1.below HL.out (Nat.le_refl _)) hlt
        have hcb := bk_two ((HK1.out.keep B1.out HK1.out.in_).keep HL.out (Nat.lt_of_lt_of_le HK1.out.in_ B1.out.size))
        clear hr1
        have HST := hide (fun x y => (HN.out.stored2 hlt x y).drew)
        have i1 : (k : Int) < (n : Int) := by omega
        generalize (b.1.getD k (0, 0)).1 = x at *
        generalize (b.1.getD k (0, 0)).2 = y at *
        clear hgl hg1
        have hpl := HP.out.in_
        have hgl := gtl HN.out
        go_wp2_with fail
        have HGB := hide (show wr.grownBy (World.drew ((wr.setCell ⟨g1, k * 2, none⟩ (.int .i64 y)).setCell ⟨g1, k * 2 + 1, none⟩ (.int .i64 x))) (some g1) from gb_drewN (gb_set (gb_set (gb_refl wr (some g1)) _ _) _ _) 1)
        go_region
        go_wp2_with fail
        go_roundw
        case rel =>
          refine ⟨k + 1, by omega, by go_num, hide (by rw [← HTS.out]; exact HST.out y x), hide (HI.out.kept HGB.out (own_ne HI.out HN.out (by decide))), hide (gb_bk HGB.out HP.out (by have := HGL.out; omega)), hide (Below.setCell (Below.setCell HL.out (p := ⟨g1, k * 2, none⟩) HG1.out _) (p := ⟨g1, k * 2 + 1, none⟩) HG1.out _).drew⟩
        case measure => simp [intOf]; omega
      · obtain rfl : k = n := by omega
        have HK2r := hide (HK21.out.keep HL.out HK21.out.in_)
        have hk2 := bk_two HK2r.out
        have hf0 := HK2r.out.fr 0
        have hf1 := HK2r.out.fr 1
        go_wp2_with fail
        have HF := hide ((HK2r.out.put 0 (.slice A1 k c1)).put 1 (.slice A2 n' c2))
        have hf := bk_two HF.out
        have hin := HK21.out.in_
        have OA := hide (own_other (own_other HN.out hin 0 (.slice A1 k c1)) hin 1 (.slice A2 n' c2))
        have OB := hide (own_other (own_other HI.out hin 0 (.slice A1 k c1)) hin 1 (.slice A2 n' c2))
        have hbl := HS1.out.trans (HL.out.mono HS1.out.size)
        rw [turnF_ok HE.out, HE.out]
        refine bodyPost_ret (v := .tuple #[bV A1 k c1 A2 n' c2, .int .i64 0]) (by simp [results, Try.results55, go_sem, hf]) rfl ⟨A1, k, c1, A2, n', c2, rfl, ⟨by rw [← turnTo_all, HNL.out]; exact OA.out.more HS1.out.size, OB.out.more HS1.out.size⟩, Below.setCell (Below.setCell hbl (by simp) _) (by simp) _⟩
  · have hee : (errX b != 0) = true := by simp [he]
    have HE := hide (turnF_no he)
    clear he
    go_enter Try.func55, Try.ntmps55
    go_wp2_with (go_at_call 26; refine (rValidate_any _ _ _ _ _ _ b _ HR.out).mono ?_; rintro e w1 ⟨rfl, b1⟩; have B1 := hide b1; have HK2r := hide (HK2.out.keep b1 HK2.out.in_); have hk2 := bk_two HK2r.out; have hf0 := HK2r.out.fr 0; have hf1 := HK2r.out.fr 1; clear b1)
    have HF := hide ((HK2r.out.put 0 (.slice none 0 0)).put 1 (.slice none 0 0))
    have hf := bk_two HF.out
    have hbl := le_call HB0.out B1.out
    rw [HE.out]
    refine bodyPost_ret (v := .tuple #[bV none 0 0 none 0 0, .int .i64 (errX b)]) (by simp [results, Try.results55, go_sem, hf]) rfl ⟨none, 0, 0, none, 0, 0, rfl, OwnBox.nil _ _, Below.setCell (Below.setCell hbl (by simp) _) (by simp) _⟩
end Go.Proofs.Ytkjnhdkbojcojaa
