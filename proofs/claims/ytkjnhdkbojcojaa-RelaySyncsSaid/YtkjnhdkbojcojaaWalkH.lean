/- Walks: the kinds of states. -/
import Derived.Test.YtkjnhdkbojcojaaWalkG
namespace Go.Proofs.Ytkjnhdkbojcojaa
open Go.RowKit Go.Shelf
attribute [local go_sem] Oper.semAt_some

/-- What marks makes, a draw before it. -/
theorem marks_drew (A : Option Addr) (n c : Nat) (w : World) : Calls Try.prog 96 #[.slice A n c] w.drew fun e w' => e = .returned (.slice (some ⟨w.heap.size + 1, 0, none⟩) 3 3) ∧
    Bk w' (w.heap.size + 1) 147 #[mF0, mF1 w.heap.size, mF2 w.heap.size] ∧ Bk w' w.heap.size 23 #[.slice A n c] ∧ Below w.heap.size w w' := by
  refine (marks_any A n c w.drew).mono fun e w' h => ?_
  obtain ⟨h1, h2⟩ := h
  subst h2
  refine ⟨h1, ?_, (Bk.born w.drew 23 #[.slice A n c]).more _, le_two (le_two (below_drewN (Below.refl _ _) 1) _) _⟩
  have := Bk.born (w.drew.alloc (.cells #[.slice A n c] 23)) 147 #[mF0, mF1 w.heap.size, mF2 w.heap.size]
  rwa [show (w.drew.alloc (.cells #[.slice A n c] 23)).heap.size = w.heap.size + 1 from by simp] at this
theorem kI_rep (n : Nat) : kI (List.replicate n 0) = List.replicate n 0 := by simp [kI]
set_option maxRecDepth 100000 in
set_option maxHeartbeats 4000000 in
theorem kindsOf_any (A : Option Addr) (n c : Nat) (A' : Option Addr) (n' c' : Nat) (b : Bx) (w : World) (h : BxR w A n c A' n' c' b) (hb : Okx b) :
    Calls Try.prog 71 #[bV A n c A' n' c'] w (IntsPost (kI (kindsV b)) w) := by
  have HB0 := hide ((Below.refl w.heap.size w).alloc (Nat.le_refl _) (.cells #[.slice A n c, .slice A' n' c'] 25))
  have HR0 := hide (h.below HB0.out (Nat.le_refl _))
  have HN := hide h.ou.length
  have HKB := hide (Bk.born w 25 #[.slice A n c, .slice A' n' c'])
  have HOK := hide hb
  have hn6 : n' ≤ 6 := by rw [← HN.out]; exact hb.n6
  have HZ0 := hide (show (w.alloc (.cells #[.slice A n c, .slice A' n' c'] 25)).heap.size = w.heap.size + 1 from by simp)
  clear h hb
  go_enter Try.func71, Try.ntmps71
  go_wp2_with (refine wpList_mkE (E := E1) _ rfl (.tmp 6) (.tmp 6) 23 3 rfl Try.underlying23 (.int .i64 0) 0 8 info_int (by decide) rfl rfl rfl (w.heap.size + 1) n' rfl rfl (by omega) (Nat.le_of_eq HZ0.out.symm) ?_; intro w2 hown hbw hlt2; have f1 := bk_two (HKB.out.keep hbw HKB.out.in_))
  generalize w.alloc (.cells #[.slice A n c, .slice A' n' c'] 25) = W1 at *
  have HO2 := hide (show Own E1 w2 W1.heap.size 3 (some ⟨w.heap.size + 1, 0, none⟩) n' n' (List.replicate n' 0) from by rw [← HZ0.out] at hown ⊢; exact hown)
  have HB2 := hide hbw
  clear hown hbw f1 hlt2
  go_loopw [11, 3] (fun i o wr => ∃ (k : Nat) (A6 : Option Addr) (c6 : Nat), k ≤ n' ∧ i = .int .i64 k ∧ o = .slice A6 n' c6 ∧ Hid (Own E1 wr W1.heap.size 3 A6 n' c6 (kI (kV b k))) ∧ Hid (Below W1.heap.size W1 wr)) (fun i _ _ => n' - (intOf i).toNat)
  case atStart => exact ⟨0, _, n', Nat.zero_le _, rfl, rfl, hide (by rw [kV, kI_rep, HN.out]; exact HO2.out), HB2⟩
  case round =>
    obtain ⟨k, A6, c6, hk, rfl, rfl, HO, HBL⟩ := hrel
    by_cases hlt : k < n'
    · have hcb := bk_two (HKB.out.keep HBL.out HKB.out.in_)
      have i1 : (k : Int) < (n' : Int) := by omega
      have HC := hide (fun x (hx : Below W1.heap.size W1 x) => bk_two (HKB.out.keep hx HKB.out.in_))
      have HM5 := hide (fun x => marks_drew A6 n' c6 x)
      have HLN := hide (show (kI (kV b (k + 1))).length = n' from by rw [kI_len, kV_len, HN.out])
      have HKL := hide (kV_len b k)
      have hws := HBL.out.size
      go_wp2_with fail
      go_region_held_law (fun w' => w'.cell? ⟨w.heap.size, 0, none⟩ = some (.slice A n c) ∧ w'.cell? ⟨w.heap.size, 1, none⟩ = some (.slice A' n' c'))
        (first
          | exact K7.out
          | exact K5.out
          | exact ⟨hcb.1, hcb.2⟩
          | go_keep)
        (first
          | (have hgd := K5; clear hgd; go_at_call 95; refine (finer_any A n c A' n' c' b _ _ (kV b k) A6 n' c6 _ (HR0.out.below B5.out (Nat.le_refl _)) HOK.out ⟨P5.out, O5.out.row⟩ HKL.out M5.out).mono ?_; rintro e7 w7 ⟨A7, n7, c7, rfl, o7, b7⟩; obtain rfl : n' = n7 := HLN.out.symm.trans o7.len; have O7 := hide (o7.more B5.out.size); have B7 := hide (B5.out.trans (b7.mono B5.out.size)); have K7 := hide (HC.out w7 B7.out); clear b7 o7)
          | (go_at_call 96; refine (HM5.out _).mono ?_; rintro e5 w5 ⟨rfl, m5, p5, b5⟩; have M5 := hide m5; have P5 := hide p5; have B5 := hide (HBL.out.trans (b5.mono hws)); have O5 := hide (HO.out.below b5 (Nat.le_refl _)); have K5 := hide (HC.out _ B5.out); clear m5 p5 b5))
      go_wp2_with fail
      go_roundw
      case rel => exact ⟨k + 1, A7, c7, by omega, by go_num, rfl, O7, B7⟩
      case measure => simp [intOf]; omega
    · obtain rfl : k = n' := by omega
      go_wp2_with fail
      go_ret
      exact ⟨A6, k, c6, rfl, by rw [kindsV, HN.out]; exact HO.out.more HB0.out.size, HB0.out.trans (HBL.out.mono HB0.out.size)⟩
def kindsF (b : Bx) : List Int := if errX b = 0 then kI (kindsV b) else []
theorem kindsF_ok {b : Bx} (h : errX b = 0) : kindsF b = kI (kindsV b) := if_pos h
theorem kindsF_no {b : Bx} (h : ¬ errX b = 0) : kindsF b = [] := if_neg h
theorem row_no (er : Int) {w w' : World} {e : Ending} (h : Below w.heap.size w w') (he : e = .returned (.tuple #[.slice none 0 0, .int .i64 er])) : RowPost er [] w e w' := ⟨none, 0, 0, he, Own.nil _ _ _ _, h⟩
set_option maxRecDepth 100000 in
set_option maxHeartbeats 4000000 in
theorem Kinds_any (A : Option Addr) (n c : Nat) (A' : Option Addr) (n' c' : Nat) (b : Bx) (w : World) (h : BxR w A n c A' n' c' b) :
    Calls Try.prog 32 #[bV A n c A' n' c'] w (RowPost (errX b) (kindsF b) w) := by
  have HB0 := hide ((Below.refl w.heap.size w).alloc (Nat.le_refl _) (.cells #[.slice A n c, .slice A' n' c'] 25))
  have HR0 := hide (h.below HB0.out (Nat.le_refl _))
  have HKB := hide (Bk.born w 25 #[.slice A n c, .slice A' n' c'])
  clear h
  by_cases he : errX b = 0
  · have hee : (errX b != 0) = false := by simp [he]
    have HE := hide he
    have HOK := hide (okx_of he)
    clear he
    go_enter Try.func32, Try.ntmps32
    go_wp2_with (first
      | (go_at_call 25; refine (Validate_any _ _ _ _ _ _ b _ HR0.out).mono ?_; rintro e w1 ⟨rfl, D1⟩; have f1 := bk_two (HKB.out.keep D1 HKB.out.in_))
      | (go_at_call 71; refine (kindsOf_any _ _ _ _ _ _ b _ (HR0.out.below D1 (Nat.le_refl _)) HOK.out).mono ?_; rintro e w2 ⟨A2, n2, c2, rfl, o2, D2⟩; have O2 := hide o2; clear o2))
    go_ret2
    exact ⟨A2, n2, c2, by rw [HE.out]; rfl, by rw [kindsF_ok HE.out]; exact O2.out.more (Nat.le_trans HB0.out.size D1.size), le_call (le_call HB0.out D1) D2⟩
  · have hee : (errX b != 0) = true := by simp [he]
    have HE := hide (kindsF_no he)
    clear he
    go_enter Try.func32, Try.ntmps32
    go_wp2_with (go_at_call 25; refine (Validate_any _ _ _ _ _ _ b _ HR0.out).mono ?_; rintro e w1 ⟨rfl, D1⟩)
    go_ret2
    rw [HE.out]
    exact row_no _ (le_call HB0.out D1) rfl
end Go.Proofs.Ytkjnhdkbojcojaa
