/- Walks of the document's side: the first one of the shortest words that lead to a state. -/
import Derived.Test.YtkjnhdkbojcojaaGh
import Derived.Test.YtkjnhdkbojcojaaWalkD
import Derived.Test.YtkjnhdkbojcojaaWalkS
import Derived.Test.YtkjnhdkbojcojaaWalkRe
import Derived.Deep.RegionHeldLaw
namespace Go.Proofs.Ytkjnhdkbojcojaa
open Go.RowKit Go.Shelf
attribute [local go_sem] Oper.semAt_some

theorem aft_cellT {w : World} {A : Option Addr} {n c b off : Nat} {x : Bx} (h : RAt EN w A n c x.1 b off) (ok : Okx x) {s : Nat} (hs : s < n) (hl : x.2.length = n) {j : Nat} (hj : j < 2) : w.cell? ⟨b, off + s * 2 + j, none⟩ = some (.int .i64 ((aft x s (j : Int) : Nat) : Int)) := by
  have h1 := cN h hs
  rw [ok.aft0 (by omega), ok.aft1 (by omega)] at h1
  obtain rfl | rfl : j = 0 ∨ j = 1 := by omega
  · exact h1.1
  · exact h1.2
def EBo : Enc Bool := { size := 1, enc := fun x => [.bool x], len := fun _ => rfl, one := fun x u h => (by simp at h; subst h; rfl), d := false }
theorem info_bool : (Try.prog.info? 4).map (fun i => (i.zero, i.size, i.bytes)) = some (some (.bool false), 1, 1) := by kernel_rfl
theorem ownB {w : World} {B n c g : Nat} {e : TypeId} {L : List Bool} (h : Own EBo w B e (some ⟨g, 0, none⟩) n c L) {k : Nat} (hk : k < n) : w.cell? ⟨g, k, none⟩ = some (.bool (L.getD k false)) := by
  have h1 := h.cell (k := k) (j := 0) hk (show 0 < 1 by decide)
  rw [show k * EBo.size + 0 = k from Nat.mul_one k] at h1
  exact h1
theorem Own.storedB {w : World} {B n c g : Nat} {e : TypeId} {L : List Bool} (h : Own EBo w B e (some ⟨g, 0, none⟩) n c L) {k : Nat} (hk : k < n) (x : Bool) : Own EBo (w.setCell ⟨g, k, none⟩ (.bool x)) B e (some ⟨g, 0, none⟩) n c (L.set k x) := by
  have h1 := h.stored (k := k) (j := 0) hk (show 0 < 1 by decide) (.bool x) x rfl
  rw [show k * EBo.size + 0 = k from Nat.mul_one k] at h1
  exact h1
/-- Which states were seen. -/
def seenB (V : Pl Nat) (n : Nat) : List Bool := (List.range n).map (hasP V)
theorem seenB_get (V : Pl Nat) {n k : Nat} (h : k < n) : (seenB V n).getD k false = hasP V k := by
  rw [List.getD_eq_getElem?_getD]; simp [seenB, h]
theorem seenB_put (V : Pl Nat) {n k : Nat} (_ : k < n) (w : List Int) : (seenB V n).set k true = seenB (V ++ [(k, w)]) n := by
  apply List.ext_getElem (by simp [seenB])
  intro i h1 h2
  rw [List.getElem_set]
  by_cases e : k = i
  · subst e; simp [seenB, has_app]
  · simp [seenB, has_app, e]
theorem seenB_nil (n : Nat) : seenB [] n = List.replicate n false := by
  apply List.ext_getElem (by simp [seenB])
  intro i h1 h2
  simp [seenB, hasP]
set_option maxRecDepth 100000 in
set_option maxHeartbeats 8000000 in
theorem rTo_any (A : Option Addr) (n c : Nat) (A' : Option Addr) (n' c' : Nat) (b : Bx) (s : Int) (w : World) (h : BxR w A n c A' n' c' b) :
    Calls Try.prog 31 #[bV A n c A' n' c', .int .i64 s] w (FindPost (errS b s) (toF b s) w) := by
  have HB0 := hide ((Below.refl w.heap.size w).alloc (Nat.le_refl _) (.cells #[.slice A n c, .slice A' n' c'] 25))
  have HK0 := hide (Bk.born w 25 #[.slice A n c, .slice A' n' c'])
  have HR := hide (h.below HB0.out (Nat.le_refl _))
  have HOL := hide h.ou.length
  have HNL := hide h.nx.length
  clear h
  by_cases he : errS b s = 0
  · have hee : (errS b s != 0) = false := by simp [he]
    have HE := hide he
    have HOK := hide (errS_ok he).1
    have ok := (errS_ok he).1
    obtain ⟨z, rfl⟩ : ∃ z : Nat, s = (z : Int) := ⟨s.toNat, by have := (errS_ok he).2.1; omega⟩
    have HTF := hide (show toF b (z : Int) = toV b z from toF_ok he)
    have HLN := hide (show n = n' from by rw [← HNL.out, ok.len, HOL.out])
    have hn6 : n' ≤ 6 := by rw [← HOL.out]; exact ok.n6
    have hn1 : 1 ≤ n' := by rw [← HOL.out]; exact ok.n1
    have HINV := hide (rch_inv ok)
    have HBD := hide (rch_bd ok)
    have HPS := hide (show ∀ x k, x < b.2.length → (aft b) x k < b.2.length from fun _ k h => ok.aft_lt h k)
    have HFEW := hide (show ∀ L : Pl Nat, Inv (f := (aft b)) (fun s => s < b.2.length) 0 L → L.length ≤ 6 from fun L hinv => by
      have := few_of (fun s => s) hinv.nd (N := 6) (fun x hx => by
        obtain ⟨e, he, rfl⟩ := List.mem_map.1 hx
        have := hinv.all e he
        have := ok.n6
        omega) (fun x _ y _ e => e)
      rwa [List.length_map] at this)
    clear he ok
    go_enter Try.func31, Try.ntmps31
    go_upto_region 5 with (go_at_call 70; refine (rstate_any A n c A' n' c' b (z : Int) _ HR.out).mono ?_; rintro e w1 ⟨rfl, b1⟩; have B1 := hide b1; have f1 := bk_two (HK0.out.keep b1 HK0.out.in_); clear b1)
    have HSA := hide (fun x (hx : Below w1.heap.size w1 x) => bk_two ((HK0.out.keep B1.out HK0.out.in_).keep hx (Nat.lt_of_lt_of_le HK0.out.in_ B1.out.size)))
    have HP0 := hide (show Pls (EG (0 : Nat)) (w1.alloc (.cells #[.slice none 0 0] 23)) w1.heap.size 23 (some ⟨w1.heap.size, 0, none⟩) 1 1 [(0, none, 0, 0)] (plN (aft b) 0 0) from by
      have h1 := Own.lit (E := EPl (EG (0 : Nat))) (B := w1.heap.size) (e := 23) w1 [(0, none, 0, 0)] (Nat.le_refl _) (by simp [maxLen])
      refine ⟨h1, rfl, rfl, fun k hk => ?_⟩
      obtain rfl : k = 0 := by omega
      exact Own.nil _ _ _ _)
    have HW2 := hide (show Below w1.heap.size w1 (w1.alloc (.cells #[.slice none 0 0] 23)) from le_two (Below.refl _ _) _)
    generalize w1.alloc (.cells #[.slice none 0 0] 23) = W2 at *
    have f2 := HSA.out _ HW2.out
    clear f1
    go_upto_region 6 with (refine wpList_mkE (E := EBo) W2 rfl (.tmp 23) (.tmp 23) 79 4 rfl Try.underlying79 (.bool false) false 1 info_bool (by decide) rfl rfl rfl W2.heap.size n' rfl rfl (by omega) (Nat.le_refl _) ?_; intro w3 hown hbw hlt2; have O3 := hide hown; have B3 := hide hbw; clear hown hbw hlt2)
    have HGS := hide HW2.out.size
    have HO3 := hide (show Own EBo w3 w1.heap.size 4 (some ⟨W2.heap.size, 0, none⟩) n' n'  (seenB [] n') from by rw [seenB_nil]; exact O3.out.more HGS.out)
    have HP3 := hide (HP0.out.below B3.out (Nat.le_refl _))
    have HB3 := hide (le_call HW2.out B3.out)
    clear O3 B3 f2
    generalize W2.heap.size = gS at *
    have z1 := HO3.out.frozen 0
    have z2 := ownB HO3.out (k := 0) (by omega)
    have HO4 := hide (show Own EBo (w3.setCell ⟨gS, 0, none⟩ (.bool true)) w1.heap.size 4 (some ⟨gS, 0, none⟩) n' n'  (seenB (plN (aft b) 0 0) n') from by
      have := HO3.out.storedB (k := 0) (by omega) true
      rwa [seenB_put [] (by omega) []] at this)
    have HP4 := hide (show Pls (EG (0 : Nat)) (w3.setCell ⟨gS, 0, none⟩ (.bool true)) w1.heap.size 23 (some ⟨w1.heap.size, 0, none⟩) 1 1 [(0, none, 0, 0)] (plN (aft b) 0 0) from
      ⟨own_set_other HP3.out.own HO3.out (by decide) _ _, HP3.out.len, HP3.out.fst, fun k hk => own_set_other (E := E1) (HP3.out.wd k hk) HO3.out (by decide) _ _⟩)
    have HB4 := hide (Below.setCell HB3.out (p := ⟨gS, 0, none⟩) HGS.out (.bool true))
    have i0 : (0 : Int) < (n' : Int) := by omega
    go_wp2_with fail
    generalize w3.setCell ⟨gS, 0, none⟩ (.bool true) = W4 at *
    clear z1 z2 HO3 HP3 HB3 HP0
    go_loopw [10, 8] (fun iv o wr => ∃ (r nn : Nat) (A3 : Option Addr) (c3 : Nat) (hd3 : List (Nat × Hd)), r ≤ nn ∧ iv = .int .i64 r ∧ o = .slice A3 nn c3 ∧ Hid (Pls (EG (0 : Nat)) wr w1.heap.size 23 A3 nn c3 hd3 (plN (aft b) 0 r)) ∧ Hid (Own EBo wr w1.heap.size 4 (some ⟨gS, 0, none⟩) n' n'  (seenB (plN (aft b) 0 r) n')) ∧ Hid (∀ j, j < r → (((plN (aft b) 0 r).getD j (0, [])).1 == z) = false) ∧ Hid (Below w1.heap.size w1 wr)) (fun iv _ _ => 64 - (intOf iv).toNat)
    case atStart => exact ⟨0, 1, _, 1, _, by omega, rfl, rfl, HP4, HO4, hide (fun j hj => absurd hj (Nat.not_lt_zero j)), HB4⟩
    case round =>
      obtain ⟨r, nn, A3, c3, hd3, hrn, rfl, rfl, HP, HS, HJ, HBL⟩ := hrel
      have HN := hide (show nn ≤ 6 from by have h1 := HP.out.len; have h2 := HBD.out r; omega)
      have hn64 : nn ≤ 6 := HN.out
      by_cases hlt : r < nn
      · have i1 : (r : Int) < (nn : Int) := by omega
        have HLV := hide HP.out.len
        have HGET := hide (show (plN (aft b) 0 r)[r]? = some ((plN (aft b) 0 r).getD r (0, [])) from by
          have h1 := HLV.out
          rw [List.getD_eq_getElem?_getD, List.getElem?_eq_getElem (by omega)]; rfl)
        have HEX := hide (show plN (aft b) 0 (r + 1) = midP (aft b) (plN (aft b) 0 r) ((plN (aft b) 0 r).getD r (0, [])) 2 from by
          rw [plN_some HGET.out]; rfl)
        have HMEM := hide (show (plN (aft b) 0 r).getD r (0, []) ∈ plN (aft b) 0 r from List.mem_of_getElem? HGET.out)
        have HXL := hide ((HINV.out r).all _ HMEM.out)
        have HLD := hide ((HINV.out r).leads _ HMEM.out)
        have HWL := hide (plN_wlen _ _ r _ HMEM.out)
        have HWD := hide (HP.out.wd r hlt)
        have HFW := hide (fun (hp : (((plN (aft b) 0 r).getD r (0, [])).1 == z) = true) => (show toV b z = some ((plN (aft b) 0 r).getD r (0, [])).2 from by
          have hlen : r < (rchV b).length := Nat.lt_of_lt_of_le (show r < (plN (aft b) 0 r).length by rw [HLV.out]; exact hlt) (plN_len (by omega))
          have hget : ∀ j, j ≤ r → (rchV b).getD j (0, []) = (plN (aft b) 0 r).getD j (0, []) := fun j hj => by
            rw [List.getD_eq_getElem?_getD, List.getD_eq_getElem?_getD, show (rchV b)[j]? = (plN (aft b) 0 r)[j]? from plN_get (by rw [HLV.out]; omega) (by omega)]
          have hi := idx_some (V := rchV b) (p := fun x => x == z) (k := r) (d := 0) hlen (by rw [hget r (Nat.le_refl _)]; exact hp) (fun j hj => by rw [hget j (by omega)]; exact HJ.out j hj)
          rcases idx_cases (rchV b) (fun x => x == z) 0 with ⟨k, hk, h1, h2⟩ | ⟨h1, _, _⟩
          · have hkr : k = r := by rw [hi] at h1; omega
            subst hkr
            rw [toV, firstW, h2, hget k (Nat.le_refl _)]; rfl
          · rw [hi] at h1; omega))
        have HJ2 := hide (fun (hp : (((plN (aft b) 0 r).getD r (0, [])).1 == z) = false) => (show ∀ j, j < r + 1 → (((plN (aft b) 0 (r + 1)).getD j (0, [])).1 == z) = false from fun j hj => by
          rw [List.getD_eq_getElem?_getD, plN_get (f := (aft b)) (x0 := 0) (r := r) (k := r + 1) (i := j) (by rw [HLV.out]; omega) (Nat.le_succ r), ← List.getD_eq_getElem?_getD]
          by_cases e : j = r
          · subst e; exact hp
          · exact HJ.out j (by omega)))
        have HGE := hide (fun j => midP_get (f := (aft b)) (V := plN (aft b) 0 r) (e := (plN (aft b) 0 r).getD r (0, [])) (j := j) (i := r) (d := (0, [])) (by have := HLV.out; omega))
        have HB2 := hide (show ∀ j, j ≤ 2 → (midP (aft b) (plN (aft b) 0 r) ((plN (aft b) 0 r).getD r (0, [])) j).length ≤ 6 from fun j hj => by
          have hinv : Inv (f := (aft b)) (fun s => s < b.2.length) 0 (midP (aft b) (plN (aft b) 0 r) ((plN (aft b) 0 r).getD r (0, [])) j) := by
            have h0 := HINV.out r
            have h1 := h0.add HMEM.out HPS.out 0 (.inl rfl)
            obtain rfl | rfl | rfl : j = 0 ∨ j = 1 ∨ j = 2 := by omega
            · exact h0
            · exact h1
            · exact h1.add (mem_addP HMEM.out _ _) HPS.out 1 (.inr rfl)
          exact HFEW.out _ hinv)
        obtain ⟨g3, rfl, hg3, hg3b, hc3, hc3m⟩ := HP.out.own.addr (by omega)
        have hc9 : c3 ≤ 9223372036854775807 := hc3m
        clear hc3m
        have HCH := hide (fun x (hx : Below wr.heap.size wr x) => cPlG (HP.out.own.rowAt.below hx (Nat.le_refl _)) hlt)
        rw [show (((EG (0 : Nat))).d, ([] : List Int)) = (0, []) from rfl] at HWD
        generalize (plN (aft b) 0 r).getD r (0, []) = e0 at *
        generalize plN (aft b) 0 r = V at *
        generalize (hd3.getD r (EPl (EG (0 : Nat))).d).2 = hd at *
        obtain ⟨Ah, nh, ch⟩ := hd
        obtain ⟨x, u⟩ := e0
        have hx1 : x < b.2.length := HXL.out
        have HX1 := hide hx1
        have hxn : x < n' := by rw [← HOL.out]; exact hx1
        have HEN := hide (show endV b 0 u = x from HLD.out.1.symm)
        have HIN := hide (show ∀ i, i < u.length → inpB (u.getD i 0) = true from fun i hi => by
          rw [List.getD_eq_getElem?_getD, List.getElem?_eq_getElem hi]
          rcases HLD.out.2 _ (List.getElem_mem hi) with e | e <;> (simp only [Option.getD_some]; rw [e]; decide))
        have HSF := hide (fun y (hy : Below wr.heap.size wr y) => (show (y.cell? ⟨w.heap.size, 0, none⟩ = some (.slice A n c) ∧ y.cell? ⟨w.heap.size, 1, none⟩ = some (.slice A' n' c')) ∧ y.cell? ⟨g3, r, none⟩ = some (.slice Ah nh ch) from ⟨HSA.out y (le_call HBL.out hy), by have := HCH.out y hy; rwa [Nat.zero_add] at this⟩))
        have d1 := hide (show Below wr.heap.size wr wr.drew from below_drewN (Below.refl _ _) 1)
        have h0 := HSF.out _ d1.out
        have hnh : nh ≤ 64 := by
          have h1 := HWL.out
          have h2 := Own.len (E := E1) HWD.out
          simp only at h1 h2
          omega
        have HEA := hide (fun y (hy : Below wr.heap.size wr y) => rEnd_any A n c A' n' c' b 0 Ah nh ch u y ((HR.out.below B1.out (Nat.le_refl _)).below (le_call HBL.out hy) (Nat.le_refl _)) HOK.out HOK.out.n1 (Own.row (E := E1) (Own.below (E := E1) HWD.out hy (Nat.le_refl _))) HIN.out)
        rw [HEN.out] at HEA
        go_wp2_with fail
        go_region_held_law (fun y => y.cell? ⟨w.heap.size, 0, none⟩ = some (.slice A n c) ∧ y.cell? ⟨w.heap.size, 1, none⟩ = some (.slice A' n' c') ∧ y.cell? ⟨g3, r, none⟩ = some (.slice Ah nh ch))
          (first
            | exact K5.out
            | exact ⟨h0.1.1, h0.1.2, h0.2⟩
            | go_keep)
          (first
            | (go_at_call 63; refine (HEA.out wr.drew d1.out).mono ?_; rintro e5 w5 ⟨rfl, b5⟩; have B5 := hide (le_call d1.out b5); have K5 := hide (show (w5.cell? ⟨w.heap.size, 0, none⟩ = some (.slice A n c) ∧ w5.cell? ⟨w.heap.size, 1, none⟩ = some (.slice A' n' c') ∧ w5.cell? ⟨g3, r, none⟩ = some (.slice Ah nh ch)) from ⟨(HSF.out w5 B5.out).1.1, (HSF.out w5 B5.out).1.2, (HSF.out w5 B5.out).2⟩); clear b5))
        have HB7 := hide (le_call HBL.out B5.out)
        obtain ⟨⟨g71, g72⟩, g75⟩ := HSF.out w5 B5.out
        have hcmp := beqT x z
        cases htp : (x == z) with
        | true =>
          rw [htp] at hcmp
          have HFU := hide (HFW.out htp)
          clear htp
          go_wp2_with fail
          have ht := le_call HB0.out B1.out
          rw [HTF.out, HFU.out, HE.out]
          refine bodyPost_ret (v := .tuple #[.slice Ah nh ch, .bool true, .int .i64 0]) (by simp [results, Try.results31, go_sem]) rfl ?_
          exact ⟨Ah, nh, ch, rfl, Own.more (E := E1) (Own.below (E := E1) HWD.out B5.out (Nat.le_refl _)) ht.size, ht.trans (HB7.out.mono ht.size)⟩
        | false =>
          rw [htp] at hcmp
          have HJU := hide (HJ2.out htp)
          clear htp
          obtain ⟨ca, pa, hna⟩ := HR.out.nx
          have hxn2 : x < n := by rw [HLN.out]; exact hxn
          obtain rfl := hna.at_ (by omega)
          have HAN := hide (fun y (hy : Below w1.heap.size w1 y) (j : Nat) (hj : j < 2) => aft_cellT ((hna.below B1.out (Nat.le_refl _)).below hy (Nat.le_refl _)) HOK.out hxn2 (by rw [HOL.out, HLN.out]) hj)
          have HAL := hide (fun k => HOK.out.aft_lt HX1.out k)
          rw [HOL.out] at HAL
          clear hna
          go_wp2_with fail
          have HP7 := hide (HP.out.below B5.out (Nat.le_refl _))
          have HS7 := hide (HS.out.below B5.out (Nat.le_refl _))
          go_loopw [12, 8] (fun jv o w3 => ∃ (j n3 : Nat) (A4 : Option Addr) (c4 : Nat) (hd4 : List (Nat × Hd)), j ≤ 2 ∧ nn ≤ n3 ∧ jv = .int .i64 j ∧ o = .slice A4 n3 c4 ∧ Hid (Pls (EG (0 : Nat)) w3 w1.heap.size 23 A4 n3 c4 hd4 (midP (aft b) V (x, u) j)) ∧ Hid (Own EBo w3 w1.heap.size 4 (some ⟨gS, 0, none⟩) n' n'  (seenB (midP (aft b) V (x, u) j) n')) ∧ Hid (Below w1.heap.size w1 w3)) (fun jv _ _ => 2 - (intOf jv).toNat)
          case atStart => exact ⟨0, nn, _, c3, hd3, by omega, Nat.le_refl _, rfl, rfl, HP7, HS7, HB7⟩
          case round =>
            obtain ⟨j, n3, A4, c4, hd4, hj, hn3, rfl, rfl, HP4, HS4, HB4⟩ := hrel
            by_cases hlj : j < 2
            · obtain ⟨g4, rfl, hg4, hg4b, hc4, hc4m⟩ := HP4.out.own.addr (by omega)
              have hc49 : c4 ≤ 9223372036854775807 := hc4m
              clear hc4m
              have hr3 : r < n3 := by omega
              have ir3 : (r : Int) < (n3 : Int) := by omega
              have j2 : (j : Int) < 2 := by omega
              have HN3 := hide (show n3 ≤ 64 from by have := HB2.out j hj; rw [← HP4.out.len]; omega)
              have HWD4 := hide (show WordAt wr w1.heap.size (hd4.getD r (EPl (EG (0 : Nat))).d).2 u from by have := HP4.out.wd r hr3; rwa [show (((EG (0 : Nat))).d, ([] : List Int)) = (0, []) from rfl, HGE.out j] at this)
              have HCH4 := hide (fun y (hy : Pls (EG (0 : Nat)) y w1.heap.size 23 (some ⟨g4, 0, none⟩) n3 c4 hd4 (midP (aft b) V (x, u) j)) => cPlG hy.own.rowAt hr3)
              generalize (hd4.getD r (EPl (EG (0 : Nat))).d).2 = hh at *
              obtain ⟨Aw, nw, cw⟩ := hh
              have hnw : nw ≤ 64 := by
                have h1 := HWL.out
                have h2 := Own.len (E := E1) HWD4.out
                simp only at h1 h2
                omega
              have HADD := hide (midP_add (aft b) V (x, u) j hlj)
              obtain ⟨k1, k2⟩ := HSA.out _ HB4.out
              have m1 := HAN.out _ HB4.out j hlj
              have hxq : aft b x (j : Int) < n' := HAL.out (j : Int)
              have ixn : (x : Int) < (n : Int) := by omega
              simp only at HADD
              generalize aft b x (j : Int) = x' at *
              have hs1 := ownB HS4.out hxq
              rw [seenB_get _ hxq] at hs1
              have ix6 : (x' : Int) < (n' : Int) := by omega
              have z1 := HS4.out.frozen x'
              cases hh : hasP (midP (aft b) V (x, u) j) x' with
              | true =>
                rw [hh] at hs1
                have HHH := hide (show addP (midP (aft b) V (x, u) j) x' (u ++ [(j : Int)]) = midP (aft b) V (x, u) j from by unfold addP; rw [if_pos hh])
                clear hh
                go_wp2_with fail
                go_roundw
                case rel => exact ⟨j + 1, n3, _, c4, hd4, by omega, hn3, by go_num, rfl, hide (by rw [HADD.out, HHH.out]; exact HP4.out), hide (by rw [HADD.out, HHH.out]; exact HS4.out), HB4⟩
                case measure => simp [intOf]; omega
              | false =>
                rw [hh] at hs1
                have HHH := hide (show addP (midP (aft b) V (x, u) j) x' (u ++ [(j : Int)]) = midP (aft b) V (x, u) j ++ [(x', u ++ [(j : Int)])] from by unfold addP; rw [if_neg (by rw [hh]; decide)])
                clear hh
                go_upto_region 19 with fail
                have HS6 := hide (show Own EBo (wr.setCell ⟨gS, x', none⟩ (.bool true)) w1.heap.size 4 (some ⟨gS, 0, none⟩) n' n'  (seenB (midP (aft b) V (x, u) j ++ [(x', u ++ [(j : Int)])]) n') from by
                  have := HS4.out.storedB hxq true
                  rwa [seenB_put _ hxq (u ++ [(j : Int)])] at this)
                have HP6 := hide (show Pls (EG (0 : Nat)) (wr.setCell ⟨gS, x', none⟩ (.bool true)) w1.heap.size 23 (some ⟨g4, 0, none⟩) n3 c4 hd4 (midP (aft b) V (x, u) j) from
                  ⟨own_set_other HP4.out.own HS4.out (by decide) _ _, HP4.out.len, HP4.out.fst, fun k hk => own_set_other (E := E1) (HP4.out.wd k hk) HS4.out (by decide) _ _⟩)
                have HW6 := hide (show WordAt (wr.setCell ⟨gS, x', none⟩ (.bool true)) w1.heap.size (Aw, nw, cw) u from own_set_other (E := E1) HWD4.out HS4.out (by decide) _ _)
                have HB6b := hide (Below.setCell HB4.out (p := ⟨gS, x', none⟩) HGS.out (.bool true))
                generalize wr.setCell ⟨gS, x', none⟩ (.bool true) = W6 at *
                clear hs1 z1 m1 k1 k2
                have BZ := hide (show Below W6.heap.size W6 (W6.alloc (.cells #[] 3)) from le_two (Below.refl _ _) _)
                have OZ := hide (show Own E1 (W6.alloc (.cells #[] 3)) W6.heap.size 3 (some ⟨W6.heap.size, 0, none⟩) 0 0 [] from Own.lit W6 [] (Nat.le_refl _) (by simp))
                have hcz : (W6.alloc (.cells #[] 3)).cell? ⟨g4, r, none⟩ = some (.slice Aw nw cw) := by have := HCH4.out _ (HP6.out.below BZ.out (Nat.le_refl _)); rwa [Nat.zero_add] at this
                have HWZ := hide (Own.below (E := E1) HW6.out BZ.out (Nat.le_refl _))
                have hs6 := HB6b.out.size
                have HN3' := HN3.out
                go_wp2_with (first
                  | (have hgd := B6; clear hgd; at_builtin; refine wpList_app1 (E := EPl (EG (0 : Nat))) w6 (.slice none 0 0) 24 rfl (.tmp 65) (.tmp 75) 61 23 rfl Try.underlying61 info_ints rfl (by decide) (by omega) w1.heap.size n3 c4 (some ⟨g4, 0, none⟩) hd4 (x', A6, nw + 1, c6) _ rfl rfl rfl (HP6.out.below B6.out (Nat.le_refl _)).own (by omega) (Nat.le_trans hs6 B6.out.size) ?_; intro A9 c9 w9 o9 b9 g9; have O9 := hide o9; have B9 := hide b9; have G9 := hide g9; clear o9 b9 g9)
                  | (have hgd := BQ; clear hgd; at_builtin; refine wpList_app1 (E := E1) wq (.int .i64 0) 8 rfl (.tmp 71) (.tmp 73) 23 3 rfl Try.underlying23 info_int rfl (by decide) (by omega) W6.heap.size nw c5 A5 u (j : Int) _ rfl rfl rfl OQ.out (by omega) BQ.out.size ?_; intro A6 c6 w6 o6 b6 _; have O6 := hide o6; have B6 := hide (BQ.out.trans b6); clear o6 b6)
                  | (at_builtin; refine wpList_appG (E := E1) (W6.alloc (.cells #[] 3)) (.int .i64 0) 8 rfl (.tmp 66) (.tmp 70) 23 3 rfl Try.underlying23 info_int rfl (by decide) (by omega) W6.heap.size 0 0 (some ⟨W6.heap.size, 0, none⟩) [] Aw nw cw u rfl rfl OZ.out (Own.row (E := E1) HWZ.out) (by omega) (by omega) BZ.out.size ?_; intro A5 c5 wq o5 b5 _ _; rw [Nat.zero_add] at o5 ⊢; have OQ := hide (show Own E1 wq W6.heap.size 3 A5 nw c5 u from o5); have BQ := hide (BZ.out.trans b5); clear o5 b5))
                go_roundw
                case rel => exact ⟨j + 1, n3 + 1, _, c9, _, by omega, by omega, by go_num, rfl, hide (by rw [HADD.out, HHH.out]; exact (HP6.out.below B6.out (Nat.le_refl _)).add (by decide) O9.out G9.out (show WordAt w6 w1.heap.size (A6, nw + 1, c6) (u ++ [(j : Int)]) from O6.out.more hs6)), hide (by rw [HADD.out, HHH.out]; exact (HS6.out.below B6.out (Nat.le_refl _)).kept G9.out (own_neG (HP6.out.below B6.out (Nat.le_refl _)).own (HS6.out.below B6.out (Nat.le_refl _)) (by decide))), hide ((le_call HB6b.out B6.out).trans B9.out)⟩
                case measure => simp [intOf]; omega
            · obtain rfl : j = 2 := by omega
              go_wp2_with fail
              go_roundw
              case rel => exact ⟨r + 1, n3, A4, c4, hd4, by omega, by go_num, rfl, by rw [HEX.out]; exact HP4, by rw [HEX.out]; exact HS4, hide HJU.out, HB4⟩
              case measure => have := HN.out; simp [intOf]; omega
      · obtain rfl : r = nn := by omega
        have HEND := hide (plN_end (f := (aft b)) (x0 := 0) (r := r) (N := 64) (by rw [HP.out.len]; exact Nat.le_refl _) (by omega))
        have HNO := hide (show toV b z = none from by
          rcases idx_cases (rchV b) (fun x => x == z) 0 with ⟨k, hk, h1, h2⟩ | ⟨_, h2, _⟩
          · have hk2 : k < r := by
              have : (rchV b).length = r := by rw [rchV, HEND.out, HP.out.len]
              omega
            have h3 := List.find?_some h2
            have h4 := HJ.out k hk2
            rw [rchV, HEND.out] at h3
            try simp only at h3
            rw [h4] at h3; cases h3
          · rw [toV, firstW, h2]; rfl)
        go_wp2_with fail
        have ht := le_call HB0.out B1.out
        rw [HTF.out, HNO.out, HE.out]
        refine bodyPost_ret (v := .tuple #[.slice none 0 0, .bool false, .int .i64 0]) (by simp [results, Try.results31, go_sem]) rfl ?_
        exact ⟨none, 0, 0, rfl, Own.nil _ _ _ _, ht.trans (HBL.out.mono ht.size)⟩
  · have hee : (errS b s != 0) = true := by simp [he]
    have HF := hide (toF_no he)
    clear he
    go_enter Try.func31, Try.ntmps31
    go_wp2_with (go_at_call 70; refine (rstate_any A n c A' n' c' b s _ HR.out).mono ?_; rintro e w1 ⟨rfl, b1⟩; have B1 := hide b1; have f1 := bk_two (HK0.out.keep b1 HK0.out.in_); clear b1)
    rw [HF.out]
    refine bodyPost_ret (v := .tuple #[.slice none 0 0, .bool false, .int .i64 (errS b s)]) (by simp [results, Try.results31, go_sem]) rfl ?_
    exact ⟨none, 0, 0, rfl, Own.nil _ _ _ _, le_call HB0.out B1.out⟩
end Go.Proofs.Ytkjnhdkbojcojaa
