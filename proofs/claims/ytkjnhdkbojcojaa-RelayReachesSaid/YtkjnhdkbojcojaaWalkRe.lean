/- Walks: the states to which words lead. -/
import Derived.Test.YtkjnhdkbojcojaaWalkTm
import Derived.Test.YtkjnhdkbojcojaaMX
import Derived.Test.YtkjnhdkbojcojaaShSort
import Derived.Test.YtkjnhdkbojcojaaWalkW
import Derived.Test.YtkjnhdkbojcojaaWalkN
namespace Go.Proofs.Ytkjnhdkbojcojaa
open Go.RowKit Go.Shelf
attribute [local go_sem] Oper.semAt_some

def RchPost (b : Bx) (w : World) (e : Ending) (w' : World) : Prop :=
  ∃ g A n c hs, e = .returned (.slice A n c) ∧ Pls (ES g) w' w.heap.size 76 A n c hs (rchV b) ∧ n ≤ 6 ∧ 1 ≤ n ∧ Below w.heap.size w w'
set_option maxRecDepth 100000 in
set_option maxHeartbeats 4000000 in
theorem reached_any (A : Option Addr) (n c : Nat) (A' : Option Addr) (n' c' : Nat) (b : Bx) (w : World) (h : BxR w A n c A' n' c' b) (hb : Okx b) :
    Calls Try.prog 67 #[bV A n c A' n' c'] w (RchPost b w) := by
  have HX := hide (BoxAt.born h)
  have HB0 := hide ((Below.refl w.heap.size w).alloc (Nat.le_refl _) (.cells #[.slice A n c, .slice A' n' c'] 25))
  have HK0 := hide (Bk.born w 25 #[.slice A n c, .slice A' n' c'])
  have HR := hide (h.below HB0.out (Nat.le_refl _))
  have HOL := hide h.ou.length
  clear h
  have HPL := hide (placesT_any w.heap.size 0 (aft b) (fun s => s < b.2.length) (fun s => s) hb.n1 (fun _ k h => hb.aft_lt h k) (fun _ h => by have := hb.n6; omega) (fun _ _ _ _ e => e) _ (fun x k w' hx hk hw => after_any w.heap.size b x k w' (HX.out.below hw (Nat.le_refl _)) hb hx hk))
  have HBD := hide (rch_bd hb 64)
  have HLP := hide (show 1 ≤ (rchV b).length from Nat.le_trans (show 1 ≤ (plN (aft b) 0 0).length from Nat.le_refl _) (plN_len (Nat.zero_le _)))
  have HV := hide (show plN (aft b) 0 64 = rchV b from rfl)
  rw [HV.out] at HPL HBD
  clear hb
  go_enter Try.func67, Try.ntmps67
  go_wp2_with (go_at_call 75; refine HPL.out.mono ?_; rintro e w5 ⟨A5, n5, c5, hs5, rfl, pl5, hn5, b5⟩)
  go_ret
  exact ⟨w.heap.size, A5, n5, c5, hs5, rfl, pl5.more HB0.out.size, by rw [← pl5.len]; exact HBD.out, by rw [← pl5.len]; exact HLP.out, le_call HB0.out b5⟩
def rchF (b : Bx) : List Int := if errX b = 0 then rchL b else []
theorem rchF_ok {b : Bx} (h : errX b = 0) : rchF b = rchL b := if_pos h
theorem rchF_no {b : Bx} (h : ¬ errX b = 0) : rchF b = [] := if_neg h
def rchI (b : Bx) : List Int := (rchV b).map fun e => ((e.1 : Nat) : Int)
theorem map_take {V : Pl Nat} {k : Nat} (h : k < V.length) : (V.map fun e => ((e.1 : Nat) : Int)).take k ++ [(((V.getD k (0, [])).1 : Nat) : Int)] = (V.map fun e => ((e.1 : Nat) : Int)).take (k + 1) := by
  rw [List.take_add_one, List.getD_eq_getElem?_getD, List.getElem?_map, List.getElem?_eq_getElem h]; rfl
theorem rchI_take {b : Bx} {k : Nat} (h : k < (rchV b).length) : (rchI b).take k ++ [((((rchV b).getD k (0, [])).1 : Nat) : Int)] = (rchI b).take (k + 1) := map_take h
theorem sort_rch {b : Bx} (hb : Okx b) : sortZ (rchI b) = rchL b :=
  sorted_perm ((sortZ_perm _).trans (rch_perm hb)) (sortZ_sorted _) (rchL_sorted b)
set_option maxRecDepth 100000 in
set_option maxHeartbeats 4000000 in
theorem Reached_any (A : Option Addr) (n c : Nat) (A' : Option Addr) (n' c' : Nat) (b : Bx) (w : World) (h : BxR w A n c A' n' c' b) :
    Calls Try.prog 28 #[bV A n c A' n' c'] w (RowPost (errX b) (rchF b) w) := by
  have HX := hide (BoxAt.born h)
  have HB0 := hide ((Below.refl w.heap.size w).alloc (Nat.le_refl _) (.cells #[.slice A n c, .slice A' n' c'] 25))
  have HK0 := hide (Bk.born w 25 #[.slice A n c, .slice A' n' c'])
  have HR := hide (h.below HB0.out (Nat.le_refl _))
  have HOL := hide h.ou.length
  clear h
  by_cases he : errX b = 0
  · have hee : (errX b != 0) = false := by simp [he]
    have HE := hide he
    have HOK := hide (okx_of he)
    clear he
    go_enter Try.func28, Try.ntmps28
    go_wp2_with (first
      | (go_at_call 25; refine (Validate_any A n c A' n' c' b _ HR.out).mono ?_; rintro e w1 ⟨rfl, b1⟩; have B1 := hide b1; have f1 := bk_two (HK0.out.keep b1 HK0.out.in_); clear b1)
      | (go_at_call 67; refine (reached_any A n c A' n' c' b _ (HR.out.below B1.out (Nat.le_refl _)) HOK.out).mono ?_; rintro e w2 ⟨g, A2, n2, c2, hs, rfl, pl, hn2, hn1, b2⟩; have P2 := hide pl; have N2 := hide hn2; have N1 := hide hn1; have B2 := hide b2; clear pl hn2 hn1 b2))
    have hn2 := N2.out
    obtain ⟨g2, rfl, hg2, hg2b, hc2, hc2m⟩ := P2.out.own.addr N1.out
    have hc9 : c2 ≤ 9223372036854775807 := hc2m
    clear hc2m f1
    have HLV := hide P2.out.len
    go_loopw [16, 5] (fun i v wr => ∃ (k : Nat) (A3 : Option Addr) (c3 : Nat), k ≤ n2 ∧ i = .int .i64 k ∧ v = .slice A3 k c3 ∧ Hid (Own E1 wr w2.heap.size 3 A3 k c3 ((rchI b).take k)) ∧ Hid (Below w2.heap.size w2 wr)) (fun i _ _ => n2 - (intOf i).toNat)
    case atStart => exact ⟨0, none, 0, Nat.zero_le _, rfl, rfl, hide (Own.nil _ _ _ _), hide (Below.refl _ _)⟩
    case round =>
      obtain ⟨k, A3, c3, hk, rfl, rfl, HO, HBL⟩ := hrel
      by_cases hlt : k < n2
      · have i1 : (k : Int) < (n2 : Int) := by omega
        have hcs := cPlT (P2.out.own.rowAt.below HBL.out (Nat.le_refl _)) hlt
        simp only [Nat.zero_add] at hcs
        have HT := hide (rchI_take (b := b) (k := k) (by rw [HLV.out]; exact hlt))
        have HNOD := hide (show (hs.getD k (EPl (ES g)).d).1 = ((rchV b).getD k (0, [])).1 from P2.out.node hlt)
        rw [← HNOD.out] at HT
        clear HNOD
        generalize hs.getD k (EPl (ES g)).d = y at *
        obtain ⟨y1, Ah, nh, ch⟩ := y
        have hsz := HBL.out.size
        generalize (rchI b).take k = L1 at *
        have HOA := hide (HO.out.alloc (.cells (placeT g y1 (Ah, nh, ch)) 76))
        go_wp2_with (at_builtin; refine wpList_app1 (E := E1) (wr.alloc (.cells (placeT g y1 (Ah, nh, ch)) 76)) (.int .i64 0) 8 rfl (.tmp 20) (.tmp 24) 23 3 rfl Try.underlying23 info_int rfl (by decide) (by omega) w2.heap.size k c3 A3 L1 (y1 : Int) _ rfl rfl (by show Value.slice (some ⟨wr.heap.size + 1, 0, none⟩) 1 1 = _; rw [World.size_alloc]) HOA.out (by omega) (by rw [World.size_alloc]; omega) ?_; intro A7 c7 w7 o7 b7 _; have O7 := hide o7; have B7 := hide b7; clear o7 b7)
        go_roundw
        case rel => exact ⟨k + 1, A7, c7, by omega, by go_num, rfl, hide (by rw [← HT.out]; exact O7.out), hide ((le_two HBL.out _).trans B7.out)⟩
        case measure => simp [intOf]; omega
      · obtain rfl : k = n2 := by omega
        have HTA := hide (show (rchI b).take k = rchI b from List.take_of_length_le (by rw [rchI, List.length_map, HLV.out]; exact Nat.le_refl _))
        have HOO := hide (show Own E1 wr w2.heap.size 3 A3 k c3 (rchI b) from by rw [← HTA.out]; exact HO.out)
        have HSR := hide (sort_rch HOK.out)
        go_wp2_with (go_at_call 68; refine (Sort_any A3 k c3 (rchI b) w2.heap.size _ HOO.out (by omega)).mono ?_; rintro e w5 ⟨rfl, o5, g5⟩; have O5 := hide o5; have B5 := hide (own_grown_below HOO.out HBL.out.size g5); clear o5 g5)
        go_ret2
        have ht := (le_call (le_call HB0.out B1.out) B2.out)
        exact ⟨A3, k, c3, by rw [HE.out]; rfl, by rw [rchF_ok HE.out, ← HSR.out]; exact O5.out.more ht.size, ht.trans ((HBL.out.trans B5.out).mono ht.size)⟩
  · have hee : (errX b != 0) = true := by simp [he]
    have HF := hide (rchF_no he)
    clear he
    go_enter Try.func28, Try.ntmps28
    go_wp2_with (go_at_call 25; refine (Validate_any A n c A' n' c' b _ HR.out).mono ?_; rintro e w1 ⟨rfl, b1⟩; have B1 := hide b1; have f1 := bk_two (HK0.out.keep b1 HK0.out.in_); clear b1)
    go_ret2
    exact ⟨none, 0, 0, rfl, by rw [HF.out]; exact Own.nil _ _ _ _, le_call HB0.out B1.out⟩
def toF (b : Bx) (s : Int) : Option (List Int) := if errS b s = 0 then toV b s.toNat else none
theorem toF_ok {b : Bx} {s : Int} (h : errS b s = 0) : toF b s = toV b s.toNat := if_pos h
theorem toF_no {b : Bx} {s : Int} (h : ¬ errS b s = 0) : toF b s = none := if_neg h
set_option maxRecDepth 100000 in
set_option maxHeartbeats 4000000 in
theorem To_any (A : Option Addr) (n c : Nat) (A' : Option Addr) (n' c' : Nat) (b : Bx) (s : Int) (w : World) (h : BxR w A n c A' n' c' b) :
    Calls Try.prog 30 #[bV A n c A' n' c', .int .i64 s] w (FindPost (errS b s) (toF b s) w) := by
  have HX := hide (BoxAt.born h)
  have HB0 := hide ((Below.refl w.heap.size w).alloc (Nat.le_refl _) (.cells #[.slice A n c, .slice A' n' c'] 25))
  have HK0 := hide (Bk.born w 25 #[.slice A n c, .slice A' n' c'])
  have HR := hide (h.below HB0.out (Nat.le_refl _))
  have HOL := hide h.ou.length
  clear h
  by_cases he : errS b s = 0
  · have hee : (errS b s != 0) = false := by simp [he]
    have HE := hide he
    have HOK := hide (errS_ok he).1
    obtain ⟨q, rfl⟩ : ∃ q : Nat, s = (q : Int) := ⟨s.toNat, by have := (errS_ok he).2.1; omega⟩
    have HTF := hide (show toF b (q : Int) = toV b q from toF_ok he)
    clear he
    go_enter Try.func30, Try.ntmps30
    go_wp2_with (first
      | (go_at_call 69; refine (validateState_any A n c A' n' c' b (q : Int) _ HR.out).mono ?_; rintro e w1 ⟨rfl, b1⟩; have B1 := hide b1; have f1 := bk_two (HK0.out.keep b1 HK0.out.in_); clear b1)
      | (go_at_call 67; refine (reached_any A n c A' n' c' b _ (HR.out.below B1.out (Nat.le_refl _)) HOK.out).mono ?_; rintro e w2 ⟨g, A2, n2, c2, hs, rfl, pl, hn2, hn1, b2⟩; have P2 := hide pl; have N2 := hide hn2; have N1 := hide hn1; have B2 := hide b2; clear pl hn2 hn1 b2))
    have hn2 := N2.out
    obtain ⟨g2, rfl, hg2, hg2b, hc2, hc2m⟩ := P2.out.own.addr N1.out
    have hc9 : c2 ≤ 9223372036854775807 := hc2m
    clear hc2m f1
    have HLV := hide P2.out.len
    go_loopw [19] (fun i wr => ∃ k : Nat, k ≤ n2 ∧ i = .int .i64 k ∧ Hid (∀ j, j < k → (((rchV b).getD j (0, [])).1 == q) = false) ∧ Hid (Below w2.heap.size w2 wr)) (fun i _ => n2 - (intOf i).toNat)
    case atStart => exact ⟨0, Nat.zero_le _, rfl, hide (fun j hj => absurd hj (Nat.not_lt_zero j)), hide (Below.refl _ _)⟩
    case round =>
      obtain ⟨k, hk, rfl, HJ, HBL⟩ := hrel
      by_cases hlt : k < n2
      · have i1 : (k : Int) < (n2 : Int) := by omega
        have hcs := cPlT (P2.out.own.rowAt.below HBL.out (Nat.le_refl _)) hlt
        simp only [Nat.zero_add] at hcs
        have HNOD := hide (show (hs.getD k (EPl (ES g)).d).1 = ((rchV b).getD k (0, [])).1 from P2.out.node hlt)
        have HWD := hide (show WordAt w2 w1.heap.size (hs.getD k (EPl (ES g)).d).2 ((rchV b).getD k (0, [])).2 from P2.out.wd k hlt)
        have HS1 := hide (fun (hp : (((rchV b).getD k (0, [])).1 == q) = true) => (show toV b q = some ((rchV b).getD k (0, [])).2 from by
          have hi := idx_some (V := rchV b) (p := fun x => x == q) (k := k) (d := 0) (by rw [HLV.out]; exact hlt) hp HJ.out
          rcases idx_cases (rchV b) (fun x => x == q) 0 with ⟨kk, hkk, h1, h2⟩ | ⟨h1, _, _⟩
          · have hkr : kk = k := by rw [hi] at h1; omega
            subst hkr
            rw [toV, firstW, h2]; rfl
          · rw [hi] at h1; omega))
        have HS2 := hide (fun (hp : (((rchV b).getD k (0, [])).1 == q) = false) => (show ∀ j, j < k + 1 → (((rchV b).getD j (0, [])).1 == q) = false from fun j hj => by
          by_cases e : j = k
          · subst e; exact hp
          · exact HJ.out j (by omega)))
        rw [← HNOD.out] at HS1 HS2
        generalize hs.getD k (EPl (ES g)).d = y at *
        generalize ((rchV b).getD k (0, [])).2 = u at *
        obtain ⟨y1, Ah, nh, ch⟩ := y
        have hcmp := beqT y1 q
        simp only at HS1 HS2
        cases hy : (y1 == q) with
        | true =>
          rw [hy] at hcmp
          have HTV := hide (HS1.out hy)
          clear hy
          go_wp2_with fail
          have ht := (le_call (le_call HB0.out B1.out) B2.out)
          rw [HTF.out, HTV.out, HE.out]
          refine bodyPost_ret (v := .tuple #[.slice Ah nh ch, .bool true, .int .i64 0]) (by simp [results, Try.results30, go_sem]) rfl ?_
          exact ⟨Ah, nh, ch, rfl, Own.more (E := E1) (Own.alloc (E := E1) (Own.below (E := E1) HWD.out HBL.out (Nat.le_refl _)) _) (le_call HB0.out B1.out).size, le_two (ht.trans (HBL.out.mono ht.size)) _⟩
        | false =>
          rw [hy] at hcmp
          have HTV := hide (HS2.out hy)
          clear hy
          go_wp2_with fail
          go_roundw
          case rel => exact ⟨k + 1, by omega, by go_num, HTV, hide (le_two HBL.out _)⟩
          case measure => simp [intOf]; omega
      · obtain rfl : k = n2 := by omega
        have HNO := hide (show toV b q = none from by
          rcases idx_cases (rchV b) (fun x => x == q) 0 with ⟨kk, hkk, h1, h2⟩ | ⟨_, h2, _⟩
          · have h3 := List.find?_some h2
            have h4 := HJ.out kk (by rw [HLV.out] at hkk; exact hkk)
            try simp only at h3
            rw [h4] at h3; cases h3
          · rw [toV, firstW, h2]; rfl)
        go_wp2_with fail
        have ht := (le_call (le_call HB0.out B1.out) B2.out)
        rw [HTF.out, HNO.out, HE.out]
        refine bodyPost_ret (v := .tuple #[.slice none 0 0, .bool false, .int .i64 0]) (by simp [results, Try.results30, go_sem]) rfl ?_
        exact ⟨none, 0, 0, rfl, Own.nil _ _ _ _, ht.trans (HBL.out.mono ht.size)⟩
  · have hee : (errS b s != 0) = true := by simp [he]
    have HF := hide (toF_no he)
    clear he
    go_enter Try.func30, Try.ntmps30
    go_wp2_with (go_at_call 69; refine (validateState_any A n c A' n' c' b s _ HR.out).mono ?_; rintro e w1 ⟨rfl, b1⟩; have B1 := hide b1; have f1 := bk_two (HK0.out.keep b1 HK0.out.in_); clear b1)
    rw [HF.out]
    refine bodyPost_ret (v := .tuple #[.slice none 0 0, .bool false, .int .i64 (errS b s)]) (by simp [results, Try.results30, go_sem]) rfl ?_
    exact ⟨none, 0, 0, rfl, Own.nil _ _ _ _, le_call HB0.out B1.out⟩
end Go.Proofs.Ytkjnhdkbojcojaa
