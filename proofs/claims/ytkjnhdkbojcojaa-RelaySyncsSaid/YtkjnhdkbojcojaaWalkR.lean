/- Walks: a copy of a box; the box with exchanged inputs, and with other signals. -/
import Derived.Test.YtkjnhdkbojcojaaWalkQ
import Derived.Test.YtkjnhdkbojcojaaRow
namespace Go.Proofs.Ytkjnhdkbojcojaa
open Go.RowKit Go.Shelf
attribute [local go_sem] Oper.semAt_some

/-- A box in rows of the call's own. -/
def OwnBox (w : World) (B : Nat) (A : Option Addr) (n c : Nat) (A' : Option Addr) (n' c' : Nat) (b : Bx) : Prop := Own EN w B 59 A n c b.1 ∧ Own E1 w B 3 A' n' c' b.2
theorem OwnBox.row {w : World} {B : Nat} {A : Option Addr} {n c : Nat} {A' : Option Addr} {n' c' : Nat} {b : Bx} (h : OwnBox w B A n c A' n' c' b) : BxR w A n c A' n' c' b := ⟨h.1.row, h.2.row⟩
theorem OwnBox.below {w w' : World} {B B' : Nat} {A : Option Addr} {n c : Nat} {A' : Option Addr} {n' c' : Nat} {b : Bx} (h : OwnBox w B A n c A' n' c' b) (hb : Below B' w w') (hB : w.heap.size ≤ B') : OwnBox w' B A n c A' n' c' b := ⟨h.1.below hb hB, h.2.below hb hB⟩
theorem OwnBox.more {w : World} {B B' : Nat} {A : Option Addr} {n c : Nat} {A' : Option Addr} {n' c' : Nat} {b : Bx} (h : OwnBox w B A n c A' n' c' b) (hB : B' ≤ B) : OwnBox w B' A n c A' n' c' b := ⟨h.1.more hB, h.2.more hB⟩
def CopyPost (b : Bx) (n n' : Nat) (w : World) (e : Ending) (w' : World) : Prop :=
  ∃ A1 c1 A2 c2, e = .returned (bV A1 n c1 A2 n' c2) ∧ OwnBox w' w.heap.size A1 n c1 A2 n' c2 b ∧ Below w.heap.size w w'
set_option maxRecDepth 100000 in
set_option maxHeartbeats 4000000 in
theorem copyOf_any (A : Option Addr) (n c : Nat) (A' : Option Addr) (n' c' : Nat) (b : Bx) (w : World) (h : BxR w A n c A' n' c' b) (hn : n ≤ 1000) (hn' : n' ≤ 1000) :
    Calls Try.prog 92 #[bV A n c A' n' c'] w (CopyPost b n n' w) := by
  have HB0 := hide (show Below w.heap.size w ((w.alloc (.cells #[.slice A n c, .slice A' n' c'] 25)).alloc (.cells #[.slice none 0 0, .slice none 0 0] 25)) from le_two (le_two (Below.refl _ _) _) _)
  have HK1 := hide ((Bk.born w 25 #[.slice A n c, .slice A' n' c']).more (.cells #[.slice none 0 0, .slice none 0 0] 25))
  have HK2 := hide (Bk.born (w.alloc (.cells #[.slice A n c, .slice A' n' c'] 25)) 25 #[.slice none 0 0, .slice none 0 0])
  rw [show (w.alloc (.cells #[.slice A n c, .slice A' n' c'] 25)).heap.size = w.heap.size + 1 from by simp] at HK2
  have HR := hide (h.below HB0.out (Nat.le_refl _))
  clear h
  go_enter Try.func92, Try.ntmps92
  go_wp2_with fail
  generalize (w.alloc (.cells #[.slice A n c, .slice A' n' c'] 25)).alloc (.cells #[.slice none 0 0, .slice none 0 0] 25) = W2 at *
  have HS := hide (fun x (hx : Below W2.heap.size W2 x) => bk_two (HK1.out.keep hx HK1.out.in_))
  have h0 := HS.out W2 (Below.refl _ _)
  have d1 := hide (show Below W2.heap.size W2 W2.drew from below_drewN (Below.refl _ _) 1)
  have hs2 := HB0.out.size
  have HCN := hide (CloneN_any A n c b.1 W2.drew (HR.out.nx.below d1.out (Nat.le_refl _)) hn)
  have HCI := hide (fun x (hx : Below W2.heap.size W2 x) => CloneI_any A' n' c' b.2 x (HR.out.ou.below hx (Nat.le_refl _)) hn')
  have f0 := HK2.out.fr 0
  have f1 := HK2.out.fr 1
  have g0 := bk_two HK2.out
  go_region_held_law (fun w' => w'.cell? ⟨w.heap.size, 0, none⟩ = some (.slice A n c) ∧ w'.cell? ⟨w.heap.size, 1, none⟩ = some (.slice A' n' c'))
    (first
      | exact K6.out
      | exact K5.out
      | exact ⟨h0.1, h0.2⟩
      | go_keep)
    (first
      | (have hgd := K5; clear hgd; go_at_call 97; refine (HCI.out _ B5.out).mono ?_; rintro e6 w6 ⟨A6, c6, rfl, o6, b6⟩; have O6 := hide (o6.more B5.out.size); have B6 := hide (le_call B5.out b6); have O56 := hide (O5.out.below b6 (Nat.le_refl _)); have K6 := hide (HS.out w6 B6.out); have KR := hide (HK2.out.keep B6.out HK2.out.in_); have m0 := KR.out.fr 0; have m1 := KR.out.fr 1; have m2 := bk_two KR.out; clear o6 b6)
      | (go_at_call 109; refine HCN.out.mono ?_; rintro e5 w5 ⟨A5, c5, rfl, o5, b5⟩; have O5 := hide (show Own EN w5 W2.heap.size 59 A5 n c5 b.1 from o5); have B5 := hide (le_call d1.out b5); have K5 := hide (HS.out w5 B5.out); clear o5 b5))
  all_goals
    go_wp2_with fail
    have HF := hide ((KR.out.put 0 (.slice A5 n c5)).put 1 (.slice A6 n' c6))
    have hf := bk_two HF.out
    have hin := HK2.out.in_
    have OA := hide (own_other (own_other O56.out hin 0 (.slice A5 n c5)) hin 1 (.slice A6 n' c6))
    have OB := hide (own_other (own_other O6.out hin 0 (.slice A5 n c5)) hin 1 (.slice A6 n' c6))
    have hb6 := HB0.out.trans (B6.out.mono hs2)
    refine bodyPost_ret (v := bV A5 n c5 A6 n' c6) (by simp [results, Try.results92, go_sem, hf]) rfl ⟨A5, c5, A6, c6, rfl, ⟨OA.out.more hs2, OB.out.more hs2⟩, Below.setCell (Below.setCell hb6 (by simp) _) (by simp) _⟩
/-- The box with exchanged inputs. -/
def turnB (b : Bx) : Bx := (b.1.map fun p => (p.2, p.1), b.2)
/-- .. of the first k states. -/
def turnTo (b : Bx) (k : Nat) : Bx := ((List.range b.1.length).map (fun i => if i < k then ((b.1.getD i (0, 0)).2, (b.1.getD i (0, 0)).1) else b.1.getD i (0, 0)), b.2)
theorem turnTo_len (b : Bx) (k : Nat) : (turnTo b k).1.length = b.1.length := by simp [turnTo]
theorem turnTo_zero (b : Bx) : (turnTo b 0).1 = b.1 := by
  apply List.ext_getElem (turnTo_len b 0)
  intro i h1 h2
  simp [turnTo, h2]
theorem turnTo_all (b : Bx) : (turnTo b b.1.length).1 = (turnB b).1 := by
  apply List.ext_getElem (by simp [turnTo, turnB])
  intro i h1 h2
  have h3 : i < b.1.length := by simpa [turnTo] using h1
  simp [turnTo, turnB, h3]
theorem turnTo_get {b : Bx} {k : Nat} (h : k < b.1.length) : (turnTo b k).1.getD k (0, 0) = b.1.getD k (0, 0) := by
  rw [List.getD_eq_getElem?_getD]
  simp [turnTo, h]
theorem turnTo_set {b : Bx} {k : Nat} (h : k < b.1.length) : (turnTo b k).1.set k ((b.1.getD k (0, 0)).2, (b.1.getD k (0, 0)).1) = (turnTo b (k + 1)).1 := by
  apply List.ext_getElem (by simp [turnTo])
  intro i h1 h2
  have h3 : i < b.1.length := by simpa [turnTo] using h2
  rw [List.getElem_set]
  by_cases e : k = i
  · subst e
    simp [turnTo, h3]
  · rw [if_neg e]
    have e2 : (i < k + 1) ↔ (i < k) := by omega
    simp [turnTo, h3, e2]
theorem own2 {w : World} {B n c g : Nat} {e : TypeId} {L : List (Int × Int)} (h : Own EN w B e (some ⟨g, 0, none⟩) n c L) {k : Nat} (hk : k < n) : w.cell? ⟨g, k * 2, none⟩ = some (.int .i64 (L.getD k (0, 0)).1) ∧ w.cell? ⟨g, k * 2 + 1, none⟩ = some (.int .i64 (L.getD k (0, 0)).2) :=
  ⟨h.cell (j := 0) hk (show 0 < 2 by decide), h.cell (j := 1) hk (show 1 < 2 by decide)⟩
theorem Own.stored2 {w : World} {B n c g : Nat} {e : TypeId} {L : List (Int × Int)} (h : Own EN w B e (some ⟨g, 0, none⟩) n c L) {k : Nat} (hk : k < n) (x y : Int) :
    Own EN ((w.setCell ⟨g, k * 2, none⟩ (.int .i64 x)).setCell ⟨g, k * 2 + 1, none⟩ (.int .i64 y)) B e (some ⟨g, 0, none⟩) n c (L.set k (x, y)) := by
  have hl := h.len
  have h1 := h.stored (j := 0) hk (show 0 < 2 by decide) (.int .i64 x) (x, (L.getD k (0, 0)).2) rfl
  have e1 : (L.set k (x, (L.getD k (0, 0)).2)).getD k (0, 0) = (x, (L.getD k (0, 0)).2) := by
    rw [List.getD_eq_getElem?_getD, List.getElem?_set]; simp [hl, hk]
  have h2 := h1.stored (j := 1) hk (show 1 < 2 by decide) (.int .i64 y) (x, y) (by show _ = (EN.enc ((L.set k (x, (L.getD k (0, 0)).2)).getD k (0, 0))).set 1 _; rw [e1]; rfl)
  rw [List.set_set] at h2
  exact h2
def turnF (b : Bx) : Bx := if errX b = 0 then turnB b else ([], [])
theorem turnF_ok {b : Bx} (h : errX b = 0) : turnF b = turnB b := if_pos h
theorem turnF_no {b : Bx} (h : ¬ errX b = 0) : turnF b = ([], []) := if_neg h
/-- A box of the call's own, and an error. -/
def BoxPost (er : Int) (b : Bx) (w : World) (e : Ending) (w' : World) : Prop :=
  ∃ A n c A' n' c', e = .returned (.tuple #[bV A n c A' n' c', .int .i64 er]) ∧ OwnBox w' w.heap.size A n c A' n' c' b ∧ Below w.heap.size w w'
theorem OwnBox.nil (w : World) (B : Nat) : OwnBox w B none 0 0 none 0 0 ([], []) := ⟨Own.nil _ _ _ _, Own.nil _ _ _ _⟩
set_option maxRecDepth 100000 in
set_option maxHeartbeats 8000000 in
theorem Turn_any (A : Option Addr) (n c : Nat) (A' : Option Addr) (n' c' : Nat) (b : Bx) (w : World) (h : BxR w A n c A' n' c' b) :
    Calls Try.prog 54 #[bV A n c A' n' c'] w (BoxPost (errX b) (turnF b) w) := by
  have HB0 := hide (show Below w.heap.size w ((w.alloc (.cells #[.slice A n c, .slice A' n' c'] 25)).alloc (.cells #[.slice none 0 0, .slice none 0 0] 25)) from le_two (le_two (Below.refl _ _) _) _)
  have HK1 := hide ((Bk.born w 25 #[.slice A n c, .slice A' n' c']).more (.cells #[.slice none 0 0, .slice none 0 0] 25))
  have HK2 := hide (Bk.born (w.alloc (.cells #[.slice A n c, .slice A' n' c'] 25)) 25 #[.slice none 0 0, .slice none 0 0])
  rw [show (w.alloc (.cells #[.slice A n c, .slice A' n' c'] 25)).heap.size = w.heap.size + 1 from by simp] at HK2
  have HR := hide (h.below HB0.out (Nat.le_refl _))
  have HNL := hide h.nx.length
  have HOL := hide h.ou.length
  clear h
  by_cases he : errX b = 0
  · have hee : (errX b != 0) = false := by simp [he]
    have HE := hide he
    have hok := okx_of he
    have hn6 : n ≤ 6 := by rw [← HNL.out, hok.len]; exact hok.n6
    have hn6' : n' ≤ 6 := by rw [← HOL.out]; exact hok.n6
    clear he hok
    go_enter Try.func54, Try.ntmps54
    go_wp2_with (first
      | (go_at_call 25; refine (Validate_any _ _ _ _ _ _ b _ HR.out).mono ?_; rintro e w1 ⟨rfl, b1⟩; have f1 := bk_two (HK1.out.keep b1 HK1.out.in_); have B1 := hide b1; clear b1)
      | (go_at_call 92; refine (copyOf_any _ n _ _ n' _ b _ (HR.out.below B1.out (Nat.le_refl _)) (by omega) (by omega)).mono ?_; rintro e w3 ⟨A1, c1, A2, c2, rfl, o3, b3⟩; have O3 := hide o3; have B3 := hide b3; clear o3 b3))
    have HS1 := hide (le_call HB0.out B1.out)
    have HK21 := hide (HK2.out.keep B1.out HK2.out.in_)
    have HP0 := hide (Bk.born w3 25 #[.slice A1 n c1, .slice A2 n' c2])
    have HO0 := hide (O3.out.below (le_two (Below.refl _ _) (.cells #[.slice A1 n c1, .slice A2 n' c2] 25)) (Nat.le_refl _))
    have HL0 := hide (show Below w1.heap.size w1 (w3.alloc (.cells #[.slice A1 n c1, .slice A2 n' c2] 25)) from le_two B3.out _)
    generalize w3.alloc (.cells #[.slice A1 n c1, .slice A2 n' c2] 25) = W4 at *
    clear f1
    go_loopw [19] (fun i wr => ∃ k : Nat, k ≤ n ∧ i = .int .i64 k ∧ Hid (Own EN wr w1.heap.size 59 A1 n c1 (turnTo b k).1) ∧ Hid (Own E1 wr w1.heap.size 3 A2 n' c2 b.2) ∧ Hid (Bk wr w3.heap.size 25 #[.slice A1 n c1, .slice A2 n' c2]) ∧ Hid (Below w1.heap.size w1 wr)) (fun i _ => n - (intOf i).toNat)
    case atStart => exact ⟨0, Nat.zero_le _, rfl, hide (by rw [turnTo_zero]; exact HO0.out.1), hide HO0.out.2, HP0, HL0⟩
    case round =>
      obtain ⟨k, hk, rfl, HN, HI, HP, HL⟩ := hrel
      have hcp := bk_two HP.out
      by_cases hlt : k < n
      · obtain ⟨g1, rfl, hg1, _⟩ := HN.out.addr (by omega)
        have hgl : g1 < w3.heap.size := by
          rcases O3.out.1.form with ⟨hh, _⟩ | ⟨g', hA, _, hlt', _⟩
          · cases hh
          · injection hA with hA; injection hA with hA; omega
        have HGL := hide hgl
        have HG1 := hide hg1
        have hcn := own2 HN.out hlt
        have hf := HN.out.frozen (k * 2)
        have hf2 := HN.out.frozen (k * 2 + 1)
        have HTG := hide (turnTo_get (b := b) (k := k) (by rw [HNL.out]; exact hlt))
        have HTS := hide (turnTo_set (b := b) (k := k) (by rw [HNL.out]; exact hlt))
        rw [HTG.out] at hcn
        have HST := hide (fun o x y => (HN.out.stored2 hlt x y).alloc o)
        have i1 : (k : Int) < (n : Int) := by omega
        generalize (b.1.getD k (0, 0)).1 = x at *
        generalize (b.1.getD k (0, 0)).2 = y at *
        clear hgl hg1
        have hpl := HP.out.in_
        have hgl := gtl HN.out
        go_wp2_with fail
        have HGB := hide (show wr.grownBy (((wr.setCell ⟨g1, k * 2, none⟩ (.int .i64 y)).setCell ⟨g1, k * 2 + 1, none⟩ (.int .i64 x)).alloc (.cells #[.int .i64 x, .int .i64 y] 59)) (some g1) from gb_alloc (gb_set (gb_set (gb_refl wr (some g1)) _ _) _ _) _)
        go_roundw
        case rel =>
          refine ⟨k + 1, by omega, by go_num, hide (by rw [← HTS.out]; exact HST.out _ y x), hide (HI.out.kept HGB.out (own_ne HI.out HN.out (by decide))), hide (gb_bk HGB.out HP.out (by have := HGL.out; omega)), hide (le_two (Below.setCell (Below.setCell HL.out (p := ⟨g1, k * 2, none⟩) HG1.out _) (p := ⟨g1, k * 2 + 1, none⟩) HG1.out _) _)⟩
        case measure => simp [intOf]; omega
      · obtain rfl : k = n := by omega
        have HK2r := hide (HK21.out.keep HL.out HK21.out.in_)
        have hk2 := bk_two HK2r.out
        have hf0 := HK2r.out.fr 0
        have hf1 := HK2r.out.fr 1
        go_wp2_with fail
        have HF := hide ((HK2r.out.put 0 (.slice A1 k c1)).put 1 (.slice A2 n' c2))
        have hf := bk_two HF.out
        have hin := HK21.out.in_
        have OA := hide (own_other (own_other HN.out hin 0 (.slice A1 k c1)) hin 1 (.slice A2 n' c2))
        have OB := hide (own_other (own_other HI.out hin 0 (.slice A1 k c1)) hin 1 (.slice A2 n' c2))
        have hbl := HS1.out.trans (HL.out.mono HS1.out.size)
        rw [turnF_ok HE.out, HE.out]
        refine bodyPost_ret (v := .tuple #[bV A1 k c1 A2 n' c2, .int .i64 0]) (by simp [results, Try.results54, go_sem, hf]) rfl ⟨A1, k, c1, A2, n', c2, rfl, ⟨by rw [← turnTo_all, HNL.out]; exact OA.out.more HS1.out.size, OB.out.more HS1.out.size⟩, Below.setCell (Below.setCell hbl (by simp) _) (by simp) _⟩
  · have hee : (errX b != 0) = true := by simp [he]
    have HE := hide (turnF_no he)
    clear he
    go_enter Try.func54, Try.ntmps54
    go_wp2_with (go_at_call 25; refine (Validate_any _ _ _ _ _ _ b _ HR.out).mono ?_; rintro e w1 ⟨rfl, b1⟩; have B1 := hide b1; have HK2r := hide (HK2.out.keep b1 HK2.out.in_); have hk2 := bk_two HK2r.out; have hf0 := HK2r.out.fr 0; have hf1 := HK2r.out.fr 1; clear b1)
    have HF := hide ((HK2r.out.put 0 (.slice none 0 0)).put 1 (.slice none 0 0))
    have hf := bk_two HF.out
    have hbl := le_call HB0.out B1.out
    rw [HE.out]
    refine bodyPost_ret (v := .tuple #[bV none 0 0 none 0 0, .int .i64 (errX b)]) (by simp [results, Try.results54, go_sem, hf]) rfl ⟨none, 0, 0, none, 0, 0, rfl, OwnBox.nil _ _, Below.setCell (Below.setCell hbl (by simp) _) (by simp) _⟩
end Go.Proofs.Ytkjnhdkbojcojaa
