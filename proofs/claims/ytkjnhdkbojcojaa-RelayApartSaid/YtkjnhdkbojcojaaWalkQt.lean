/- Walks of the document's side: words that tell two states apart. -/
import Derived.Test.YtkjnhdkbojcojaaGh
import Derived.Test.YtkjnhdkbojcojaaWalkD
import Derived.Test.YtkjnhdkbojcojaaWalkTq
import Derived.Test.YtkjnhdkbojcojaaWalkLb
import Derived.Deep.RegionHeldLaw
namespace Go.Proofs.Ytkjnhdkbojcojaa
open Go.RowKit Go.Shelf
attribute [local go_sem] Oper.semAt_some

theorem aft_cell {w : World} {A : Option Addr} {n c b off : Nat} {x : Bx} (h : RAt EN w A n c x.1 b off) (ok : Okx x) {s : Nat} (hs : s < n) (hl : x.2.length = n) {j : Nat} (hj : j < 2) : w.cell? ⟨b, off + s * 2 + j, none⟩ = some (.int .i64 ((aft x s (j : Int) : Nat) : Int)) := by
  have h1 := cN h hs
  rw [ok.aft0 (by omega), ok.aft1 (by omega)] at h1
  obtain rfl | rfl : j = 0 ∨ j = 1 := by omega
  · exact h1.1
  · exact h1.2
set_option maxRecDepth 100000 in
set_option maxHeartbeats 8000000 in
theorem rtell_any (A : Option Addr) (n c : Nat) (A' : Option Addr) (n' c' : Nat) (a : Bx) (B : Option Addr) (p q : Nat) (B' : Option Addr) (p' q' : Nat) (b : Bx) (s t : Nat) (w : World) (ha : BxR w A n c A' n' c' a) (hb : BxR w B p q B' p' q' b) (oa : Okx a) (ob : Okx b) (hs : s < a.2.length) (ht : t < b.2.length) :
    Calls Try.prog 79 #[bV A n c A' n' c', bV B p q B' p' q', .int .i64 (s : Int), .int .i64 (t : Int)] w (FirstPost (tellV a b s t) w.heap.size w) := by
  have HB0 := hide (show Below w.heap.size w ((w.alloc (.cells #[.slice A n c, .slice A' n' c'] 25)).alloc (.cells #[.slice B p q, .slice B' p' q'] 25)) from le_two (le_two (Below.refl _ _) _) _)
  have HK1 := hide ((Bk.born w 25 #[.slice A n c, .slice A' n' c']).more (.cells #[.slice B p q, .slice B' p' q'] 25))
  have HK2 := hide (Bk.born (w.alloc (.cells #[.slice A n c, .slice A' n' c'] 25)) 25 #[.slice B p q, .slice B' p' q'])
  rw [show (w.alloc (.cells #[.slice A n c, .slice A' n' c'] 25)).heap.size = w.heap.size + 1 from by simp] at HK2
  have HRA := hide (ha.below HB0.out (Nat.le_refl _))
  have HRB := hide (hb.below HB0.out (Nat.le_refl _))
  have HLA := hide (show n = n' from by rw [← ha.nx.length, oa.len, ha.ou.length])
  have HLB := hide (show p = p' from by rw [← hb.nx.length, ob.len, hb.ou.length])
  have HOA := hide ha.ou.length
  have HOB := hide hb.ou.length
  have OA := hide oa
  have OB := hide ob
  have hs6 : s < 6 := by have := oa.n6; omega
  have ht6 : t < 6 := by have := ob.n6; omega
  have HINV := hide (fun r => inv_plN (f := aftP a b) (P := inP a b) (x0 := (s, t)) ⟨hs, ht⟩ (inP_aft oa ob) r)
  have HBD := hide (fun r => plN_bound (f := aftP a b) (P := inP a b) (x0 := (s, t)) cdP (N := 64) ⟨hs, ht⟩ (inP_aft oa ob) (cdP_lt oa ob) (cdP_inj oa ob) r)
  have HFEW := hide (show ∀ L : Pl (Nat × Nat), Inv (f := aftP a b) (inP a b) (s, t) L → L.length ≤ 64 from fun L hinv => by
    have := few_of cdP hinv.nd (N := 64) (fun x hx => by
      obtain ⟨e, he, rfl⟩ := List.mem_map.1 hx
      exact cdP_lt oa ob _ (hinv.all e he)) (fun x hx y hy e => by
      obtain ⟨e1, he1, rfl⟩ := List.mem_map.1 hx
      obtain ⟨e2, he2, rfl⟩ := List.mem_map.1 hy
      exact cdP_inj oa ob _ _ (hinv.all e1 he1) (hinv.all e2 he2) e)
    rwa [List.length_map] at this)
  have HPS := hide (inP_aft oa ob)
  have HST := hide (And.intro hs ht)
  clear ha hb oa ob hs ht
  go_enter Try.func79, Try.ntmps79
  go_upto_region 1 with fail
  generalize (w.alloc (.cells #[.slice A n c, .slice A' n' c'] 25)).alloc (.cells #[.slice B p q, .slice B' p' q'] 25) = W0 at *
  go_upto_region 3 with fail
  have HSA := hide (fun x (hx : Below W0.heap.size W0 x) => (show x.cell? ⟨w.heap.size, 0, none⟩ = some (.slice A n c) ∧ x.cell? ⟨w.heap.size, 1, none⟩ = some (.slice A' n' c') ∧ x.cell? ⟨w.heap.size + 1, 0, none⟩ = some (.slice B p q) ∧ x.cell? ⟨w.heap.size + 1, 1, none⟩ = some (.slice B' p' q') from ⟨(bk_two (HK1.out.keep hx HK1.out.in_)).1, (bk_two (HK1.out.keep hx HK1.out.in_)).2, bk_two (HK2.out.keep hx HK2.out.in_)⟩))
  have HZ0 := hide (Bk.born (W0.alloc (.cells #[.slice none 0 0] 23)) 118 (seenA []))
  rw [show (W0.alloc (.cells #[.slice none 0 0] 23)).heap.size = W0.heap.size + 1 from by simp] at HZ0
  have HP0 := hide (show Pls (EG ((0, 0) : Nat × Nat)) ((W0.alloc (.cells #[.slice none 0 0] 23)).alloc (.cells (seenA []) 118)) W0.heap.size 23 (some ⟨W0.heap.size, 0, none⟩) 1 1 [((s, t), none, 0, 0)] (plN (aftP a b) (s, t) 0) from by
    have h1 := Own.lit (E := EPl (EG ((0, 0) : Nat × Nat))) (B := W0.heap.size) (e := 23) W0 [((s, t), none, 0, 0)] (Nat.le_refl _) (by simp [maxLen])
    refine ⟨h1.alloc _, rfl, rfl, fun k hk => ?_⟩
    obtain rfl : k = 0 := by omega
    exact Own.nil _ _ _ _)
  have HW3 := hide (show Below W0.heap.size W0 ((W0.alloc (.cells #[.slice none 0 0] 23)).alloc (.cells (seenA []) 118)) from le_two (le_two (Below.refl _ _) _) _)
  rw [← seen_nil]
  generalize (W0.alloc (.cells #[.slice none 0 0] 23)).alloc (.cells (seenA []) 118) = W3 at *
  have HGS := hide (show W0.heap.size ≤ W0.heap.size + 1 by omega)
  have HGN := hide (show W0.heap.size + 1 ≠ W0.heap.size by omega)
  have z1 := HZ0.out.fr (s * 6 + t)
  have z2 : W3.cell? ⟨W0.heap.size + 1, s * 6 + t, none⟩ = some (.bool (hasP [] (s, t))) := by rw [HZ0.out.at_]; exact seen_get [] hs6 ht6
  have HZ1 := hide (show Bk (W3.setCell ⟨W0.heap.size + 1, s * 6 + t, none⟩ (.bool true)) (W0.heap.size + 1) 118 (seenA (plN (aftP a b) (s, t) 0)) from by
    have := HZ0.out.put (s * 6 + t) (.bool true)
    rwa [seen_put [] hs6 ht6 []] at this)
  have HP1 := hide (show Pls (EG ((0, 0) : Nat × Nat)) (W3.setCell ⟨W0.heap.size + 1, s * 6 + t, none⟩ (.bool true)) W0.heap.size 23 (some ⟨W0.heap.size, 0, none⟩) 1 1 [((s, t), none, 0, 0)] (plN (aftP a b) (s, t) 0) from
    ⟨own_put HP0.out.own HZ0.out (by decide) _ _, HP0.out.len, HP0.out.fst, fun k hk => own_put (E := E1) (HP0.out.wd k hk) HZ0.out (by decide) _ _⟩)
  have HW4 := hide (Below.setCell HW3.out (p := ⟨W0.heap.size + 1, s * 6 + t, none⟩) HGS.out (.bool true))
  have is6 : (s : Int) < 6 := by omega
  have it6 : (t : Int) < 6 := by omega
  go_wp2_with fail
  have hG := HGS.out
  generalize HGP : W0.heap.size + 1 = gp at *
  clear HGP
  generalize W3.setCell ⟨gp, s * 6 + t, none⟩ (.bool true) = W4 at *
  clear z1 z2 HZ0 HP0 HW3
  go_loopw [12, 10] (fun iv o wr => ∃ (r nn : Nat) (A3 : Option Addr) (c3 : Nat) (hd3 : List ((Nat × Nat) × Hd)), r ≤ nn ∧ iv = .int .i64 r ∧ o = .slice A3 nn c3 ∧ Hid (Pls (EG ((0, 0) : Nat × Nat)) wr W0.heap.size 23 A3 nn c3 hd3 (plN (aftP a b) (s, t) r)) ∧ Hid (Bk wr gp 118 (seenA (plN (aftP a b) (s, t) r))) ∧ Hid (∀ j, j < r → toldP a b ((plN (aftP a b) (s, t) r).getD j ((0, 0), [])).1 = false) ∧ Hid (Below W0.heap.size W0 wr)) (fun iv _ _ => 64 - (intOf iv).toNat)
  case atStart => exact ⟨0, 1, _, 1, _, by omega, rfl, rfl, HP1, HZ1, hide (fun j hj => absurd hj (Nat.not_lt_zero j)), HW4⟩
  case round =>
    obtain ⟨r, nn, A3, c3, hd3, hrn, rfl, rfl, HP, HZ, HJ, HBL⟩ := hrel
    have HN := hide (show nn ≤ 64 from by have h1 := HP.out.len; have h2 := HBD.out r; omega)
    have hn64 : nn ≤ 64 := HN.out
    by_cases hlt : r < nn
    · have i1 : (r : Int) < (nn : Int) := by omega
      have hr64 : r < 64 := by omega
      have HLV := hide HP.out.len
      have HGET := hide (show (plN (aftP a b) (s, t) r)[r]? = some ((plN (aftP a b) (s, t) r).getD r ((0, 0), [])) from by
        have h1 := HLV.out
        rw [List.getD_eq_getElem?_getD, List.getElem?_eq_getElem (by omega)]; rfl)
      have HE := hide (show plN (aftP a b) (s, t) (r + 1) = midP (aftP a b) (plN (aftP a b) (s, t) r) ((plN (aftP a b) (s, t) r).getD r ((0, 0), [])) 2 from by
        rw [plN_some HGET.out]; rfl)
      have HMEM := hide (show (plN (aftP a b) (s, t) r).getD r ((0, 0), []) ∈ plN (aftP a b) (s, t) r from List.mem_of_getElem? HGET.out)
      have HXL := hide ((HINV.out r).all _ HMEM.out)
      have HLD := hide ((HINV.out r).leads _ HMEM.out)
      have HWL := hide (plN_wlen _ _ r _ HMEM.out)
      have HNOD := hide (HP.out.node hlt)
      have HWD := hide (HP.out.wd r hlt)
      have HFW := hide (fun (hp : toldP a b ((plN (aftP a b) (s, t) r).getD r ((0, 0), [])).1 = true) => (show tellV a b s t = some ((plN (aftP a b) (s, t) r).getD r ((0, 0), [])).2 from by
        have hlen : r < (prsV a b s t).length := Nat.lt_of_lt_of_le (show r < (plN (aftP a b) (s, t) r).length by rw [HLV.out]; exact hlt) (plN_len (by omega))
        have hget : ∀ j, j ≤ r → (prsV a b s t).getD j ((0, 0), []) = (plN (aftP a b) (s, t) r).getD j ((0, 0), []) := fun j hj => by
          rw [List.getD_eq_getElem?_getD, List.getD_eq_getElem?_getD, show (prsV a b s t)[j]? = (plN (aftP a b) (s, t) r)[j]? from plN_get (by rw [HLV.out]; omega) (by omega)]
        have hi := idx_some (V := prsV a b s t) (p := toldP a b) (k := r) (d := (0, 0)) hlen (by rw [hget r (Nat.le_refl _)]; exact hp) (fun j hj => by rw [hget j (by omega)]; exact HJ.out j hj)
        rcases idx_cases (prsV a b s t) (toldP a b) (0, 0) with ⟨k, hk, h1, h2⟩ | ⟨h1, _, _⟩
        · have hkr : k = r := by rw [hi] at h1; omega
          subst hkr
          rw [tellV, firstW, h2, hget k (Nat.le_refl _)]; rfl
        · rw [hi] at h1; omega))
      have HJ2 := hide (fun (hp : toldP a b ((plN (aftP a b) (s, t) r).getD r ((0, 0), [])).1 = false) => (show ∀ j, j < r + 1 → toldP a b ((plN (aftP a b) (s, t) (r + 1)).getD j ((0, 0), [])).1 = false from fun j hj => by
        rw [List.getD_eq_getElem?_getD, plN_get (f := aftP a b) (x0 := (s, t)) (r := r) (k := r + 1) (i := j) (by rw [HLV.out]; omega) (Nat.le_succ r), ← List.getD_eq_getElem?_getD]
        by_cases e : j = r
        · subst e; exact hp
        · exact HJ.out j (by omega)))
      have HGE := hide (fun j => midP_get (f := aftP a b) (V := plN (aftP a b) (s, t) r) (e := (plN (aftP a b) (s, t) r).getD r ((0, 0), [])) (j := j) (i := r) (d := ((0, 0), [])) (by have := HLV.out; omega))
      have HB2 := hide (show ∀ j, j ≤ 2 → (midP (aftP a b) (plN (aftP a b) (s, t) r) ((plN (aftP a b) (s, t) r).getD r ((0, 0), [])) j).length ≤ 64 from fun j hj => by
        have hinv : Inv (f := aftP a b) (inP a b) (s, t) (midP (aftP a b) (plN (aftP a b) (s, t) r) ((plN (aftP a b) (s, t) r).getD r ((0, 0), [])) j) := by
          have h0 := HINV.out r
          have h1 := h0.add HMEM.out HPS.out 0 (.inl rfl)
          obtain rfl | rfl | rfl : j = 0 ∨ j = 1 ∨ j = 2 := by omega
          · exact h0
          · exact h1
          · exact h1.add (mem_addP HMEM.out _ _) HPS.out 1 (.inr rfl)
        exact HFEW.out _ hinv)
      obtain ⟨g3, rfl, hg3, hg3b, hc3, hc3m⟩ := HP.out.own.addr (by omega)
      have hc9 : c3 ≤ 9223372036854775807 := hc3m
      clear hc3m
      have HCH := hide (fun x (hx : Below wr.heap.size wr x) => cPlG (HP.out.own.rowAt.below hx (Nat.le_refl _)) hlt)
      rw [show (((EG ((0, 0) : Nat × Nat))).d, ([] : List Int)) = ((0, 0), []) from rfl] at HNOD HWD
      generalize (plN (aftP a b) (s, t) r).getD r ((0, 0), []) = e0 at *
      generalize plN (aftP a b) (s, t) r = V at *
      generalize (hd3.getD r (EPl (EG ((0, 0) : Nat × Nat))).d).2 = hd at *
      obtain ⟨Ah, nh, ch⟩ := hd
      obtain ⟨⟨x, y⟩, u⟩ := e0
      have hx1 : x < a.2.length := HXL.out.1
      have hy1 : y < b.2.length := HXL.out.2
      have HX1 := hide hx1
      have HY1 := hide hy1
      have hxn : x < n' := by rw [← HOA.out]; exact hx1
      have hyn : y < p' := by rw [← HOB.out]; exact hy1
      have HEN := hide (show endV a s u = x ∧ endV b t u = y from by
        have := HLD.out.1
        rw [foldP] at this
        injection this with h1 h2
        exact ⟨h1.symm, h2.symm⟩)
      have HIN := hide (show ∀ i, i < u.length → inpB (u.getD i 0) = true from fun i hi => by
        rw [List.getD_eq_getElem?_getD, List.getElem?_eq_getElem hi]
        rcases HLD.out.2 _ (List.getElem_mem hi) with e | e <;> (simp only [Option.getD_some]; rw [e]; decide))
      have HSF := hide (fun z (hz : Below wr.heap.size wr z) => (show (z.cell? ⟨w.heap.size, 0, none⟩ = some (.slice A n c) ∧ z.cell? ⟨w.heap.size, 1, none⟩ = some (.slice A' n' c') ∧ z.cell? ⟨w.heap.size + 1, 0, none⟩ = some (.slice B p q) ∧ z.cell? ⟨w.heap.size + 1, 1, none⟩ = some (.slice B' p' q')) ∧ z.cell? ⟨g3, r, none⟩ = some (.slice Ah nh ch) from ⟨HSA.out z (le_call HBL.out hz), by have := HCH.out z hz; rwa [Nat.zero_add] at this⟩))
      have d1 := hide (show Below wr.heap.size wr wr.drew from below_drewN (Below.refl _ _) 1)
      have h0 := HSF.out _ d1.out
      have hnh : nh ≤ 64 := by
        have h1 := HWL.out
        have h2 := Own.len (E := E1) HWD.out
        simp only at h1 h2
        omega
      have HEA := hide (fun z (hz : Below wr.heap.size wr z) => rEnd_any A n c A' n' c' a s Ah nh ch u z (HRA.out.below (le_call HBL.out hz) (Nat.le_refl _)) OA.out HST.out.1 (Own.row (E := E1) (Own.below (E := E1) HWD.out hz (Nat.le_refl _))) HIN.out)
      have HEB := hide (fun z (hz : Below wr.heap.size wr z) => rEnd_any B p q B' p' q' b t Ah nh ch u z (HRB.out.below (le_call HBL.out hz) (Nat.le_refl _)) OB.out HST.out.2 (Own.row (E := E1) (Own.below (E := E1) HWD.out hz (Nat.le_refl _))) HIN.out)
      rw [HEN.out.1] at HEA
      rw [HEN.out.2] at HEB
      go_wp2_with fail
      go_region_held_law (fun z => z.cell? ⟨w.heap.size, 0, none⟩ = some (.slice A n c) ∧ z.cell? ⟨w.heap.size, 1, none⟩ = some (.slice A' n' c') ∧ z.cell? ⟨w.heap.size + 1, 0, none⟩ = some (.slice B p q) ∧ z.cell? ⟨w.heap.size + 1, 1, none⟩ = some (.slice B' p' q') ∧ z.cell? ⟨g3, r, none⟩ = some (.slice Ah nh ch))
        (first
          | exact K7.out
          | exact K5.out
          | exact ⟨h0.1.1, h0.1.2.1, h0.1.2.2.1, h0.1.2.2.2, h0.2⟩
          | go_keep)
        (first
          | (have hgd := K5; clear hgd; go_at_call 63; refine (HEB.out w5 B5.out).mono ?_; rintro e7 w7 ⟨rfl, b7⟩; have B7 := hide (le_call B5.out b7); have K7 := hide (show (w7.cell? ⟨w.heap.size, 0, none⟩ = some (.slice A n c) ∧ w7.cell? ⟨w.heap.size, 1, none⟩ = some (.slice A' n' c') ∧ w7.cell? ⟨w.heap.size + 1, 0, none⟩ = some (.slice B p q) ∧ w7.cell? ⟨w.heap.size + 1, 1, none⟩ = some (.slice B' p' q') ∧ w7.cell? ⟨g3, r, none⟩ = some (.slice Ah nh ch)) from ⟨(HSF.out w7 B7.out).1.1, (HSF.out w7 B7.out).1.2.1, (HSF.out w7 B7.out).1.2.2.1, (HSF.out w7 B7.out).1.2.2.2, (HSF.out w7 B7.out).2⟩); clear b7)
          | (go_at_call 63; refine (HEA.out wr.drew d1.out).mono ?_; rintro e5 w5 ⟨rfl, b5⟩; have B5 := hide (le_call d1.out b5); have K5 := hide (show (w5.cell? ⟨w.heap.size, 0, none⟩ = some (.slice A n c) ∧ w5.cell? ⟨w.heap.size, 1, none⟩ = some (.slice A' n' c') ∧ w5.cell? ⟨w.heap.size + 1, 0, none⟩ = some (.slice B p q) ∧ w5.cell? ⟨w.heap.size + 1, 1, none⟩ = some (.slice B' p' q') ∧ w5.cell? ⟨g3, r, none⟩ = some (.slice Ah nh ch)) from ⟨(HSF.out w5 B5.out).1.1, (HSF.out w5 B5.out).1.2.1, (HSF.out w5 B5.out).1.2.2.1, (HSF.out w5 B5.out).1.2.2.2, (HSF.out w5 B5.out).2⟩); clear b5))
      all_goals
        have HB7 := hide (le_call HBL.out B7.out)
        have g7 := HSF.out w7 B7.out
        obtain ⟨ba, oa, hra⟩ := HRA.out.ou
        obtain ⟨bb, ob, hrb⟩ := HRB.out.ou
        obtain ⟨ca, pa, hna⟩ := HRA.out.nx
        obtain ⟨cb, pb, hnb⟩ := HRB.out.nx
        obtain rfl := hra.at_ (by omega)
        obtain rfl := hrb.at_ (by omega)
        have hxn2 : x < n := by rw [HLA.out]; exact hxn
        have hyn2 : y < p := by rw [HLB.out]; exact hyn
        obtain rfl := hna.at_ (by omega)
        obtain rfl := hnb.at_ (by omega)
        have HAN := hide (fun z (hz : Below W0.heap.size W0 z) (j : Nat) (hj : j < 2) => aft_cell (hna.below hz (Nat.le_refl _)) OA.out hxn2 (by rw [HOA.out, HLA.out]) hj)
        have HBN := hide (fun z (hz : Below W0.heap.size W0 z) (j : Nat) (hj : j < 2) => aft_cell (hnb.below hz (Nat.le_refl _)) OB.out hyn2 (by rw [HOB.out, HLB.out]) hj)
        have HAL := hide (fun k => OA.out.aft_lt HX1.out k)
        have HBT := hide (fun k => OB.out.aft_lt HY1.out k)
        have HA6 := hide OA.out.n6
        have HB6 := hide OB.out.n6
        have hca : w7.cell? ⟨ba, oa + x, none⟩ = some (.int .i64 (sgl a x)) := c1 (hra.below HB7.out (Nat.le_refl _)) hxn
        have hcb : w7.cell? ⟨bb, ob + y, none⟩ = some (.int .i64 (sgl b y)) := c1 (hrb.below HB7.out (Nat.le_refl _)) hyn
        clear hra hrb hna hnb
        have ix : (x : Int) < (n' : Int) := by omega
        have iy : (y : Int) < (p' : Int) := by omega
        obtain ⟨⟨g71, g72, g73, g74⟩, g75⟩ := g7
        cases htp : toldP a b (x, y) with
        | true =>
          have HFU := hide (HFW.out htp)
          have hcmp : (sgl a x != sgl b y) = true := htp
          clear htp
          generalize sgl a x = o1 at *
          generalize sgl b y = o2 at *
          go_wp2_with fail
          go_quiet (fail)
          go_wp2_with fail
          go_ret2
          exact ⟨Ah, nh, ch, by rw [HFU.out]; rfl, by rw [HFU.out]; exact Own.more (E := E1) (Own.drewN (E := E1) (Own.below (E := E1) HWD.out B7.out (Nat.le_refl _)) _) HB0.out.size, below_drewN (HB0.out.trans (HB7.out.mono HB0.out.size)) _⟩
        | false =>
          have HJU := hide (HJ2.out htp)
          have hcmp : (sgl a x != sgl b y) = false := htp
          clear htp
          generalize sgl a x = o1 at *
          generalize sgl b y = o2 at *
          go_wp2_with fail
          go_quiet (fail)
          go_wp2_with fail
          have HP7 := hide (HP.out.below (below_drewN B7.out nq) (Nat.le_refl _))
          have HZ7 := hide (HZ.out.keep (below_drewN B7.out nq) HZ.out.in_)
          have HB8 := hide (below_drewN HB7.out nq)
          have HVE := hide (show V = midP (aftP a b) V ((x, y), u) 0 from rfl)
          go_loopw [15, 10] (fun jv o w3 => ∃ (j n3 : Nat) (A4 : Option Addr) (c4 : Nat) (hd4 : List ((Nat × Nat) × Hd)), j ≤ 2 ∧ nn ≤ n3 ∧ jv = .int .i64 j ∧ o = .slice A4 n3 c4 ∧ Hid (Pls (EG ((0, 0) : Nat × Nat)) w3 W0.heap.size 23 A4 n3 c4 hd4 (midP (aftP a b) V ((x, y), u) j)) ∧ Hid (Bk w3 gp 118 (seenA (midP (aftP a b) V ((x, y), u) j))) ∧ Hid (Below W0.heap.size W0 w3)) (fun jv _ _ => 2 - (intOf jv).toNat)
          case atStart => exact ⟨0, nn, _, c3, hd3, by omega, Nat.le_refl _, rfl, rfl, HP7, HZ7, HB8⟩
          case round =>
            obtain ⟨j, n3, A4, c4, hd4, hj, hn3, rfl, rfl, HP4, HZ4, HB4⟩ := hrel
            by_cases hlj : j < 2
            · obtain ⟨g4, rfl, hg4, hg4b, hc4, hc4m⟩ := HP4.out.own.addr (by omega)
              have hc49 : c4 ≤ 9223372036854775807 := hc4m
              clear hc4m
              have hr3 : r < n3 := by omega
              have ir3 : (r : Int) < (n3 : Int) := by omega
              have j2 : (j : Int) < 2 := by omega
              have HN3 := hide (show n3 ≤ 64 from by rw [← HP4.out.len]; exact HB2.out j hj)
              have HWD4 := hide (show WordAt wr W0.heap.size (hd4.getD r (EPl (EG ((0, 0) : Nat × Nat))).d).2 u from by have := HP4.out.wd r hr3; rwa [show (((EG ((0, 0) : Nat × Nat))).d, ([] : List Int)) = ((0, 0), []) from rfl, HGE.out j] at this)
              have HCH4 := hide (fun z (hz : Pls (EG ((0, 0) : Nat × Nat)) z W0.heap.size 23 (some ⟨g4, 0, none⟩) n3 c4 hd4 (midP (aftP a b) V ((x, y), u) j)) => cPlG hz.own.rowAt hr3)
              generalize (hd4.getD r (EPl (EG ((0, 0) : Nat × Nat))).d).2 = hh at *
              obtain ⟨Aw, nw, cw⟩ := hh
              have hnw : nw ≤ 64 := by
                have h1 := HWL.out
                have h2 := Own.len (E := E1) HWD4.out
                simp only at h1 h2
                omega
              have HADD := hide (midP_add (aftP a b) V ((x, y), u) j hlj)
              have hk := HSA.out _ HB4.out
              obtain ⟨k1, k2, k3, k4⟩ := hk
              have m1 := HAN.out _ HB4.out j hlj
              have m2 := HBN.out _ HB4.out j hlj
              have hx6 : aft a x (j : Int) < 6 := by have := HAL.out (j : Int); have := HA6.out; omega
              have hy6 : aft b y (j : Int) < 6 := by have := HBT.out (j : Int); have := HB6.out; omega
              have HFX := hide (show aftP a b (x, y) (j : Int) = (aft a x (j : Int), aft b y (j : Int)) from rfl)
              have ixn : (x : Int) < (n : Int) := by omega
              have iyp : (y : Int) < (p : Int) := by omega
              simp only [HFX.out] at HADD
              generalize aft a x (j : Int) = x' at *
              generalize aft b y (j : Int) = y' at *
              have hs1 : wr.cell? ⟨gp, x' * 6 + y', none⟩ = some (.bool (hasP (midP (aftP a b) V ((x, y), u) j) (x', y'))) := by rw [HZ4.out.at_]; exact seen_get _ hx6 hy6
              have ix6 : (x' : Int) < 6 := by omega
              have iy6 : (y' : Int) < 6 := by omega
              have z1 := HZ4.out.fr (x' * 6 + y')
              cases hh : hasP (midP (aftP a b) V ((x, y), u) j) (x', y') with
              | true =>
                rw [hh] at hs1
                have HHH := hide (show addP (midP (aftP a b) V ((x, y), u) j) (x', y') (u ++ [(j : Int)]) = midP (aftP a b) V ((x, y), u) j from by unfold addP; rw [if_pos hh])
                clear hh
                go_wp2_with fail
                go_quiet (fail)
                go_wp2_with fail
                go_roundw
                case rel => exact ⟨j + 1, n3, _, c4, hd4, by omega, hn3, by go_num, rfl, hide (by rw [HADD.out, HHH.out]; exact HP4.out.below (below_drewN (Below.refl _ _) nq) (Nat.le_refl _)), hide (by rw [HADD.out, HHH.out]; exact HZ4.out.draws nq), hide (below_drewN HB4.out nq)⟩
                case measure => simp [intOf]; omega
              | false =>
                rw [hh] at hs1
                have HHH := hide (show addP (midP (aftP a b) V ((x, y), u) j) (x', y') (u ++ [(j : Int)]) = midP (aftP a b) V ((x, y), u) j ++ [((x', y'), u ++ [(j : Int)])] from by unfold addP; rw [if_neg (by rw [hh]; decide)])
                clear hh
                go_wp2_with fail
                go_quiet (fail)
                go_upto_region 16 with fail
                have HPd := hide (HP4.out.below (below_drewN (Below.refl _ _) nq) (Nat.le_refl _))
                have HZ6 := hide (show Bk ((wr.drewN nq).setCell ⟨gp, x' * 6 + y', none⟩ (.bool true)) gp 118 (seenA (midP (aftP a b) V ((x, y), u) j ++ [((x', y'), u ++ [(j : Int)])])) from by
                  have := (HZ4.out.draws nq).put (x' * 6 + y') (.bool true)
                  rwa [seen_put _ hx6 hy6 (u ++ [(j : Int)])] at this)
                have HP6 := hide (show Pls (EG ((0, 0) : Nat × Nat)) ((wr.drewN nq).setCell ⟨gp, x' * 6 + y', none⟩ (.bool true)) W0.heap.size 23 (some ⟨g4, 0, none⟩) n3 c4 hd4 (midP (aftP a b) V ((x, y), u) j) from
                  ⟨own_put HPd.out.own (HZ4.out.draws nq) (by decide) _ _, HP4.out.len, HP4.out.fst, fun k hk => own_put (E := E1) (HPd.out.wd k hk) (HZ4.out.draws nq) (by decide) _ _⟩)
                have HW6 := hide (show WordAt ((wr.drewN nq).setCell ⟨gp, x' * 6 + y', none⟩ (.bool true)) W0.heap.size (Aw, nw, cw) u from own_put (E := E1) (Own.drewN (E := E1) HWD4.out nq) (HZ4.out.draws nq) (by decide) _ _)
                have HB6b := hide (Below.setCell (below_drewN HB4.out nq) (p := ⟨gp, x' * 6 + y', none⟩) HGS.out (.bool true))
                generalize (wr.drewN nq).setCell ⟨gp, x' * 6 + y', none⟩ (.bool true) = W6 at *
                clear hs1 z1 m1 m2 k1 k2 k3 k4
                have BZ := hide (show Below W6.heap.size W6 (W6.alloc (.cells #[] 3)) from le_two (Below.refl _ _) _)
                have OZ := hide (show Own E1 (W6.alloc (.cells #[] 3)) W6.heap.size 3 (some ⟨W6.heap.size, 0, none⟩) 0 0 [] from Own.lit W6 [] (Nat.le_refl _) (by simp))
                have hcz : (W6.alloc (.cells #[] 3)).cell? ⟨g4, r, none⟩ = some (.slice Aw nw cw) := by have := HCH4.out _ (HP6.out.below BZ.out (Nat.le_refl _)); rwa [Nat.zero_add] at this
                have HWZ := hide (Own.below (E := E1) HW6.out BZ.out (Nat.le_refl _))
                have hs6 := HB6b.out.size
                have HN3' := HN3.out
                go_wp2_with (first
                  | (have hgd := B6; clear hgd; at_builtin; refine wpList_app1 (E := EPl (EG ((0, 0) : Nat × Nat))) w6 (.slice none 0 0) 24 rfl (.tmp 86) (.tmp 96) 61 23 rfl Try.underlying61 info_ints rfl (by decide) (by omega) W0.heap.size n3 c4 (some ⟨g4, 0, none⟩) hd4 ((x', y'), A6, nw + 1, c6) _ rfl rfl rfl (HP6.out.below B6.out (Nat.le_refl _)).own (by omega) (Nat.le_trans hs6 B6.out.size) ?_; intro A9 c9 w9 o9 b9 g9; have O9 := hide o9; have B9 := hide b9; have G9 := hide g9; clear o9 b9 g9)
                  | (have hgd := B5; clear hgd; at_builtin; refine wpList_app1 (E := E1) w5 (.int .i64 0) 8 rfl (.tmp 92) (.tmp 94) 23 3 rfl Try.underlying23 info_int rfl (by decide) (by omega) W6.heap.size nw c5 A5 u (j : Int) _ rfl rfl rfl O5.out (by omega) B5.out.size ?_; intro A6 c6 w6 o6 b6 _; have O6 := hide o6; have B6 := hide (B5.out.trans b6); clear o6 b6)
                  | (at_builtin; refine wpList_appG (E := E1) (W6.alloc (.cells #[] 3)) (.int .i64 0) 8 rfl (.tmp 87) (.tmp 91) 23 3 rfl Try.underlying23 info_int rfl (by decide) (by omega) W6.heap.size 0 0 (some ⟨W6.heap.size, 0, none⟩) [] Aw nw cw u rfl rfl OZ.out (Own.row (E := E1) HWZ.out) (by omega) (by omega) BZ.out.size ?_; intro A5 c5 w5 o5 b5 _ _; rw [Nat.zero_add] at o5 ⊢; have O5 := hide (show Own E1 w5 W6.heap.size 3 A5 nw c5 u from o5); have B5 := hide (BZ.out.trans b5); clear o5 b5))
                go_roundw
                case rel => exact ⟨j + 1, n3 + 1, _, c9, _, by omega, by omega, by go_num, rfl, hide (by rw [HADD.out, HHH.out]; exact (HP6.out.below B6.out (Nat.le_refl _)).add (by decide) O9.out G9.out (show WordAt w6 W0.heap.size (A6, nw + 1, c6) (u ++ [(j : Int)]) from O6.out.more hs6)), hide (by rw [HADD.out, HHH.out]; exact gb_bkO (HP6.out.below B6.out (Nat.le_refl _)).own G9.out (HZ6.out.keep B6.out HZ6.out.in_) (by decide)), hide ((le_call HB6b.out B6.out).trans B9.out)⟩
                case measure => simp [intOf]; omega
            · obtain rfl : j = 2 := by omega
              go_wp2_with fail
              go_roundw
              case rel => exact ⟨r + 1, n3, A4, c4, hd4, by omega, by go_num, rfl, by rw [HE.out]; exact HP4, by rw [HE.out]; exact HZ4, hide HJU.out, HB4⟩
              case measure => have := HN.out; simp [intOf]; omega
    · obtain rfl : r = nn := by omega
      have HEND := hide (plN_end (f := aftP a b) (x0 := (s, t)) (r := r) (N := 64) (by rw [HP.out.len]; exact Nat.le_refl _) HN.out)
      have HNO := hide (show tellV a b s t = none from by
        rcases idx_cases (prsV a b s t) (toldP a b) (0, 0) with ⟨k, hk, h1, h2⟩ | ⟨_, h2, _⟩
        · have hk2 : k < r := by
            have : (prsV a b s t).length = r := by rw [prsV, HEND.out, HP.out.len]
            omega
          have h3 := List.find?_some h2
          have h4 := HJ.out k hk2
          rw [prsV, HEND.out] at h3
          try simp only at h3
          rw [h4] at h3; cases h3
        · rw [tellV, firstW, h2]; rfl)
      go_wp2_with fail
      go_ret2
      exact ⟨none, 0, 0, by rw [HNO.out]; rfl, by rw [HNO.out]; exact Own.nil _ _ _ _, HB0.out.trans (HBL.out.mono HB0.out.size)⟩
end Go.Proofs.Ytkjnhdkbojcojaa
