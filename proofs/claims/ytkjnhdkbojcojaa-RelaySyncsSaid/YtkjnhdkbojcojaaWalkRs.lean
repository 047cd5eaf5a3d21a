/- Walks of the document's side: the first one of the shortest words that lead to one and the same state. -/
import Derived.Test.YtkjnhdkbojcojaaGh
import Derived.Test.YtkjnhdkbojcojaaMY
import Derived.Test.YtkjnhdkbojcojaaWalkD
import Derived.Test.YtkjnhdkbojcojaaWalkLb
import Derived.Test.YtkjnhdkbojcojaaWalkN
import Derived.Deep.RegionHeldLaw
namespace Go.Proofs.Ytkjnhdkbojcojaa
open Go.RowKit Go.Shelf
attribute [local go_sem] Oper.semAt_some

theorem bits_orZ (a b : Nat) (ha : a < 4611686018427387904) (hb : b < 4611686018427387904) : bits BinOp.or IntKind.i64 (a : Int) (b : Int) = ((a ||| b : Nat) : Int) := by
  have h1 : (BitVec.ofInt 64 (a : Int)).toNat = a := by
    rw [BitVec.ofInt_natCast, BitVec.toNat_ofNat]
    exact Nat.mod_eq_of_lt (by omega)
  have h2 : (BitVec.ofInt 64 (b : Int)).toNat = b := by
    rw [BitVec.ofInt_natCast, BitVec.toNat_ofNat]
    exact Nat.mod_eq_of_lt (by omega)
  have h3 : a ||| b < 2 ^ 62 := Nat.or_lt_two_pow (by omega) (by omega)
  show IntKind.i64.wrap ((BitVec.ofInt 64 (a : Int) ||| BitVec.ofInt 64 (b : Int)).toNat : Int) = _
  rw [BitVec.toNat_or, h1, h2]
  exact IntWalk.i64_in _ (by omega)
theorem bits_andZ (a b : Nat) (ha : a < 4611686018427387904) (hb : b < 4611686018427387904) : bits BinOp.and IntKind.i64 (a : Int) (b : Int) = ((a &&& b : Nat) : Int) := by
  have h1 : (BitVec.ofInt 64 (a : Int)).toNat = a := by
    rw [BitVec.ofInt_natCast, BitVec.toNat_ofNat]
    exact Nat.mod_eq_of_lt (by omega)
  have h2 : (BitVec.ofInt 64 (b : Int)).toNat = b := by
    rw [BitVec.ofInt_natCast, BitVec.toNat_ofNat]
    exact Nat.mod_eq_of_lt (by omega)
  have h3 : a &&& b ≤ a := Nat.and_le_left
  show IntKind.i64.wrap ((BitVec.ofInt 64 (a : Int) &&& BitVec.ofInt 64 (b : Int)).toNat : Int) = _
  rw [BitVec.toNat_and, h1, h2]
  exact IntWalk.i64_in _ (by omega)
/-- Which sets were seen. -/
def se64 (V : Pl Nat) : Array Value := ((List.range 64).map fun j => Value.bool (hasP V j)).toArray
theorem se64_get (V : Pl Nat) {x : Nat} (hx : x < 64) : (se64 V)[x]? = some (.bool (hasP V x)) := by
  unfold se64
  rw [List.getElem?_toArray, List.getElem?_map, List.getElem?_range hx]; rfl
theorem se64_size (V : Pl Nat) : (se64 V).size = 64 := by simp [se64]
theorem se64_put (V : Pl Nat) {x : Nat} (hx : x < 64) (w : List Int) : (se64 V).setIfInBounds x (.bool true) = se64 (V ++ [(x, w)]) := by
  apply Array.ext (by simp [se64])
  intro i h1 h2
  have hi : i < 64 := by rw [se64_size] at h2; exact h2
  rw [Array.getElem_setIfInBounds (by simpa [se64] using hi)]
  by_cases e : x = i
  · rw [if_pos e]; subst e; simp [se64, has_app]
  · rw [if_neg e]
    simp only [se64, List.getElem_toArray, List.getElem_map, List.getElem_range, has_app, decide_eq_false e, Bool.or_false]
theorem se64_skip (V : Pl Nat) {x : Nat} (h : hasP V x = true) (w : List Int) : se64 (V ++ [(x, w)]) = se64 V := by
  unfold se64
  congr 1
  apply List.map_congr_left
  intro j _
  rw [has_app]
  by_cases e : x = j
  · subst e; rw [h]; rfl
  · simp [e]
theorem se64_nil : se64 [] = #[.bool false, .bool false, .bool false, .bool false, .bool false, .bool false, .bool false, .bool false, .bool false, .bool false, .bool false, .bool false, .bool false, .bool false, .bool false, .bool false, .bool false, .bool false, .bool false, .bool false, .bool false, .bool false, .bool false, .bool false, .bool false, .bool false, .bool false, .bool false, .bool false, .bool false, .bool false, .bool false, .bool false, .bool false, .bool false, .bool false, .bool false, .bool false, .bool false, .bool false, .bool false, .bool false, .bool false, .bool false, .bool false, .bool false, .bool false, .bool false, .bool false, .bool false, .bool false, .bool false, .bool false, .bool false, .bool false, .bool false, .bool false, .bool false, .bool false, .bool false, .bool false, .bool false, .bool false, .bool false] := rfl
theorem seN_le {b : Bx} (hb : Okx b) (r : Nat) : seN (aftS b) (allS b.2.length) r ≤ 64 := by
  have hl : (allS b.2.length) < 2 ^ b.2.length := allS_lt (Nat.le_refl _)
  have h1 := plN_bound (f := (aftS b)) (P := fun m => m < 2 ^ b.2.length) (x0 := (allS b.2.length)) (fun m => m) (N := 64) hl (fun x k hx => aftTo_lt hb k hx 6) (fun x hx => lt64 hx hb.n6) (fun x y _ _ e => e) (seN (aftS b) (allS b.2.length) r)
  rw [← (q_inv (allS b.2.length) r).dd] at h1
  obtain ⟨N, hN⟩ := dd_pre ((quN (aftS b) (allS b.2.length) r).take r) ((quN (aftS b) (allS b.2.length) r).drop r)
  rw [List.take_append_drop] at hN
  rw [hN, List.length_append] at h1
  unfold seN
  omega
theorem q_wlen (b : Bx) (x0 : Nat) : ∀ r, ∀ e ∈ quN (aftS b) x0 r, e.2.length ≤ r
  | 0, e, he => by simp [quN] at he; subst he; simp
  | r + 1, e, he => by
    have ih := q_wlen b x0 r
    cases h : (quN (aftS b) x0 r)[r]? with
    | none => rw [quN_none h] at he; have := ih e he; omega
    | some e0 =>
      rw [quN_some h] at he
      have h0 := ih e0 (List.mem_of_getElem? h)
      split at he
      · have := ih e he; omega
      · rcases List.mem_append.1 he with h1 | h1
        · have := ih e h1; omega
        · simp at h1
          rcases h1 with rfl | rfl <;> (simp; omega)
/-- The two that follow. -/
def twoW (b : Bx) (x : Nat) (u : List Int) : Nat → Pl Nat
  | 0 => []
  | 1 => [(aftS b x 0, u ++ [0])]
  | _ => [(aftS b x 0, u ++ [0]), (aftS b x 1, u ++ [1])]
theorem twoW_succ (b : Bx) (x : Nat) (u : List Int) (V : Pl Nat) (j : Nat) (h : j < 2) : V ++ twoW b x u j ++ [(aftS b x (j : Int), u ++ [(j : Int)])] = V ++ twoW b x u (j + 1) := by
  obtain rfl | rfl : j = 0 ∨ j = 1 := by omega
  · simp [twoW]
  · simp [twoW]
theorem twoW_len (b : Bx) (x : Nat) (u : List Int) (j : Nat) : (twoW b x u j).length ≤ 2 := by
  unfold twoW; split <;> simp
theorem pls_own {α : Type} {EE : Enc α} {w : World} {B n c : Nat} {e : TypeId} {A : Option Addr} {hs : List (α × Hd)} {V : Pl α} (h : Pls EE w B e A n c hs V) {g : Nat} {t : TypeId} {cs : Array Value} (hb : Bk w g t cs) (ht : t ≠ e) (hi : t ≠ 3) (i : Nat) (v : Value) : Pls EE (w.setCell ⟨g, i, none⟩ v) B e A n c hs V :=
  ⟨own_put h.own hb ht _ _, h.len, h.fst, fun k hk => own_put (E := E1) (h.wd k hk) hb hi _ _⟩
set_option maxRecDepth 100000 in
set_option maxHeartbeats 8000000 in
theorem rSync_any (A : Option Addr) (n c : Nat) (A' : Option Addr) (n' c' : Nat) (b : Bx) (w : World) (h : BxR w A n c A' n' c' b) :
    Calls Try.prog 44 #[bV A n c A' n' c'] w (FindPost (errX b) (syncF b) w) := by
  have HB0 := hide ((Below.refl w.heap.size w).alloc (Nat.le_refl _) (.cells #[.slice A n c, .slice A' n' c'] 25))
  have HK0 := hide (Bk.born w 25 #[.slice A n c, .slice A' n' c'])
  have HR := hide (h.below HB0.out (Nat.le_refl _))
  have HOL := hide h.ou.length
  clear h
  by_cases he : errX b = 0
  · have hee : (errX b != 0) = false := by simp [he]
    have HE := hide he
    have HOK := hide (okx_of he)
    have ok := okx_of he
    have HSY := hide (syncF_ok he)
    have hn6 : n' ≤ 6 := by rw [← HOL.out]; exact ok.n6
    have HN1 := hide (show 1 ≤ n' by rw [← HOL.out]; exact ok.n1)
    have HSE := hide (seN_le ok)
    clear he ok
    go_enter Try.func44, Try.ntmps44
    go_upto_region 5 with (go_at_call 26; refine (rValidate_any A n c A' n' c' b _ HR.out).mono ?_; rintro e w1 ⟨rfl, b1⟩; have B1 := hide b1; have f1 := bk_two (HK0.out.keep b1 HK0.out.in_); clear b1)
    have HSA := hide (fun x (hx : Below w1.heap.size w1 x) => bk_two ((HK0.out.keep B1.out HK0.out.in_).keep hx (Nat.lt_of_lt_of_le HK0.out.in_ B1.out.size)))
    have HP0 := hide (show Pls (EG (0 : Nat)) (w1.alloc (.cells #[.slice none 0 0] 23)) w1.heap.size 23 (some ⟨w1.heap.size, 0, none⟩) 1 1 [((allS b.2.length), none, 0, 0)] (quN (aftS b) (allS b.2.length) 0) from by
      have h1 := Own.lit (E := EPl (EG (0 : Nat))) (B := w1.heap.size) (e := 23) w1 [((allS b.2.length), none, 0, 0)] (Nat.le_refl _) (by simp [maxLen])
      refine ⟨h1, rfl, rfl, fun k hk => ?_⟩
      obtain rfl : k = 0 := by omega
      exact Own.nil _ _ _ _)
    have HW2 := hide (show Below w1.heap.size w1 (w1.alloc (.cells #[.slice none 0 0] 23)) from le_two (Below.refl _ _) _)
    have HZ0 := hide (Bk.born (w1.alloc (.cells #[.slice none 0 0] 23)) 101 (se64 []))
    rw [show (w1.alloc (.cells #[.slice none 0 0] 23)).heap.size = w1.heap.size + 1 from by simp] at HZ0
    have HP1 := hide (HP0.out.below (le_two (Below.refl _ _) (.cells (se64 []) 101)) (Nat.le_refl _))
    have HW3 := hide (le_two HW2.out (.cells (se64 []) 101))
    go_wp2_with fail
    rw [← se64_nil]
    generalize (w1.alloc (.cells #[.slice none 0 0] 23)).alloc (.cells (se64 []) 101) = W3 at *
    have HGS := hide (show w1.heap.size ≤ w1.heap.size + 1 by omega)
    generalize w1.heap.size + 1 = gp at *
    clear HP0 HW2 f1
    go_loopw [8, 6] (fun iv o wr => ∃ (r nn : Nat) (A3 : Option Addr) (c3 : Nat) (hd3 : List (Nat × Hd)), r ≤ nn ∧ iv = .int .i64 r ∧ o = .slice A3 nn c3 ∧ Hid (Pls (EG (0 : Nat)) wr w1.heap.size 23 A3 nn c3 hd3 (quN (aftS b) (allS b.2.length) r)) ∧ Hid (Bk wr gp 101 (se64 ((quN (aftS b) (allS b.2.length) r).take r))) ∧ Hid (∀ y ∈ (quN (aftS b) (allS b.2.length) r).take r, oneS y.1 = false) ∧ Hid (Below w1.heap.size w1 wr)) (fun iv _ _ => 200 - (intOf iv).toNat)
    case atStart => exact ⟨0, 1, _, 1, _, by omega, rfl, rfl, HP1, HZ0, hide (fun y hy => by cases hy), HW3⟩
    case round =>
      obtain ⟨r, nn, A3, c3, hd3, hrn, rfl, rfl, HP, HZ, HJ, HBL⟩ := hrel
      have HN := hide (show nn ≤ 129 from by have h1 := HP.out.len; have h2 := (q_inv (f := (aftS b)) (allS b.2.length) r).len; have h3 := HSE.out r; omega)
      have hn64 : nn ≤ 129 := HN.out
      by_cases hlt : r < nn
      · have i1 : (r : Int) < (nn : Int) := by omega
        have HLV := hide HP.out.len
        have HGET := hide (show (quN (aftS b) (allS b.2.length) r)[r]? = some ((quN (aftS b) (allS b.2.length) r).getD r (0, [])) from by
          have h1 := HLV.out
          rw [List.getD_eq_getElem?_getD, List.getElem?_eq_getElem (by omega)]; rfl)
        have HMEM := hide (show (quN (aftS b) (allS b.2.length) r).getD r (0, []) ∈ (quN (aftS b) (allS b.2.length) r) from List.mem_of_getElem? HGET.out)
        have HLD := hide (q_leads (allS b.2.length) r _ HMEM.out)
        have HWD := hide (HP.out.wd r hlt)
        have HTK := hide (take_get HGET.out)
        have HWL := hide (q_wlen b (allS b.2.length) r _ HMEM.out)
        have HFW := hide (fun (hp : oneS ((quN (aftS b) (allS b.2.length) r).getD r (0, [])).1 = true) => (show syncW b = some ((quN (aftS b) (allS b.2.length) r).getD r (0, [])).2 from q_first HGET.out hp HJ.out (HSE.out r)))
        have HSK := hide (fun (hs : hasP ((quN (aftS b) (allS b.2.length) r).take r) ((quN (aftS b) (allS b.2.length) r).getD r (0, [])).1 = true) => (q_skip HGET.out hs).1)
        have HNW := hide (fun (hs : hasP ((quN (aftS b) (allS b.2.length) r).take r) ((quN (aftS b) (allS b.2.length) r).getD r (0, [])).1 = false) => (q_new HGET.out hs).1)
        have HTA := hide (fun M => (show ((quN (aftS b) (allS b.2.length) r) ++ M).take (r + 1) = (quN (aftS b) (allS b.2.length) r).take (r + 1) from List.take_append_of_le_length (by have := HLV.out; omega)))
        obtain ⟨g3, rfl, hg3, hg3b, hc3, hc3m⟩ := HP.out.own.addr (by omega)
        have hc9 : c3 ≤ 9223372036854775807 := hc3m
        clear hc3m
        have HCH := hide (fun x (hx : Below wr.heap.size wr x) => cPlG (HP.out.own.rowAt.below hx (Nat.le_refl _)) hlt)
        rw [show (((EG (0 : Nat))).d, ([] : List Int)) = (0, []) from rfl] at HWD
        generalize (quN (aftS b) (allS b.2.length) r).getD r (0, []) = e0 at *
        generalize HVQ : (quN (aftS b) (allS b.2.length) r) = V at *
        clear HVQ
        generalize (hd3.getD r (EPl (EG (0 : Nat))).d).2 = hd at *
        obtain ⟨Ah, nh, ch⟩ := hd
        obtain ⟨x, u⟩ := e0
        have HEQ := hide (show x = orTo b u b.2.length ∧ x < 2 ^ b.2.length from by
          have h1 := HLD.out.1
          have h2 := fold_or HOK.out _ u rfl
          simp only at h1
          rw [h1]; exact h2)
        have HX64 := hide (show x < 64 from lt64 HEQ.out.2 HOK.out.n6)
        have HUL := hide (fun (z : Nat) (hz : u.length = z) => (show z ≤ 1000 from by have h1 := HWL.out; simp only at h1; omega))
        have HIN := hide (show ∀ i, i < u.length → inpB (u.getD i 0) = true from fun i hi => by
          rw [List.getD_eq_getElem?_getD, List.getElem?_eq_getElem hi]
          rcases HLD.out.2 _ (List.getElem_mem hi) with e | e <;> (simp only [Option.getD_some]; rw [e]; decide))
        go_wp2_with fail
        generalize wr = wo at *
        have HSF := hide (fun y (hy : Below wo.heap.size wo y) => (show (y.cell? ⟨w.heap.size, 0, none⟩ = some (.slice A n c) ∧ y.cell? ⟨w.heap.size, 1, none⟩ = some (.slice A' n' c') ∧ y.cell? ⟨g3, r, none⟩ = some (.slice Ah nh ch)) from ⟨(HSA.out y (le_call HBL.out hy)).1, (HSA.out y (le_call HBL.out hy)).2, by have := HCH.out y hy; rwa [Nat.zero_add] at this⟩))
        have HEA := hide (fun k (hk : k < b.2.length) y (hy : Below wo.heap.size wo y) => rEnd_any A n c A' n' c' b k Ah nh ch u y ((HR.out.below B1.out (Nat.le_refl _)).below (le_call HBL.out hy) (Nat.le_refl _)) HOK.out hk (Own.row (E := E1) (Own.below (E := E1) HWD.out hy (Nat.le_refl _))) HIN.out)
        go_loopw [10, 9] (fun kv sv w3 => ∃ k : Nat, k ≤ n' ∧ kv = .int .i64 k ∧ sv = .int .i64 ((orTo b u k : Nat) : Int) ∧ Hid (Below wo.heap.size wo w3)) (fun kv _ _ => n' - (intOf kv).toNat)
        case atStart => exact ⟨0, Nat.zero_le _, rfl, rfl, hide (Below.refl _ _)⟩
        case round =>
          obtain ⟨k, hk, rfl, rfl, HB3⟩ := hrel
          have d1 := hide (below_drewN HB3.out 1)
          have h00 := HSF.out _ HB3.out
          have h0 := HSF.out wr.drew d1.out
          have k1 := h00.1
          have k2 := h00.2.1
          by_cases hlk : k < n'
          · have ik : (k : Int) < (n' : Int) := by omega
            have HKB := hide (show k < b.2.length by rw [HOL.out]; exact hlk)
            have HY := hide (show endV b k u < 6 from by have := HOK.out.end_lt u HKB.out; have := HOK.out.n6; omega)
            have HM := hide (show orTo b u (k + 1) = orTo b u k ||| 2 ^ endV b k u from by rw [orTo, Nat.one_shiftLeft])
            have HML := hide (orTo_lt HOK.out u k (by have := HKB.out; omega))
            have HEK := hide (HEA.out k HKB.out wr.drew d1.out)
            generalize endV b k u = y at *
            generalize orTo b u k = m at *
            have hy := HY.out
            have hm := HML.out
            have p4 : 2 ^ y ≤ 2 ^ 6 := Nat.pow_le_pow_right (n := 2) (by omega) (show y ≤ 6 by omega)
            have wp0 : ∀ q : Nat, q ≤ 2 ^ 6 → IntKind.i64.wrap (q : Int) = q := fun q hq => IntWalk.i64_in _ (by omega)
            have wq : IntKind.u64.wrap (y : Int) = y := IntWalk.u64_in _ (by omega)
            have wm : min y 64 = y := by omega
            have wp : IntKind.i64.wrap ((2 : Int) ^ y) = ((2 ^ y : Nat) : Int) := by rw [show ((2 : Int) ^ y) = ((2 ^ y : Nat) : Int) by simp]; exact wp0 _ p4
            have HBO := hide (show bits BinOp.or IntKind.i64 (m : Int) ((2 : Int) ^ y) = ((m ||| 2 ^ y : Nat) : Int) by rw [show ((2 : Int) ^ y) = ((2 ^ y : Nat) : Int) by simp]; exact bits_orZ _ _ (by omega) (by omega))
            clear hy hm p4 wp0
            go_wp2_with fail
            go_region_held_law (fun y => y.cell? ⟨w.heap.size, 0, none⟩ = some (.slice A n c) ∧ y.cell? ⟨w.heap.size, 1, none⟩ = some (.slice A' n' c') ∧ y.cell? ⟨g3, r, none⟩ = some (.slice Ah nh ch))
              (first
                | exact K5.out
                | exact ⟨h0.1, h0.2.1, h0.2.2⟩
                | go_keep)
              (first
                | (go_at_call 63; refine HEK.out.mono ?_; rintro e5 w5 ⟨rfl, b5⟩; have B5 := hide (le_call d1.out b5); have K5 := hide (show (w5.cell? ⟨w.heap.size, 0, none⟩ = some (.slice A n c) ∧ w5.cell? ⟨w.heap.size, 1, none⟩ = some (.slice A' n' c') ∧ w5.cell? ⟨g3, r, none⟩ = some (.slice Ah nh ch)) from HSF.out w5 B5.out); clear b5))
            all_goals
              go_wp2_with fail
              go_roundw
              case rel => exact ⟨k + 1, by omega, by go_num, by rw [HM.out]; first | rfl | rw [← HBO.out], B5⟩
              case measure => simp [intOf]; omega
          · obtain rfl : k = n' := by omega
            have HO1 := hide (show orTo b u k = x from by rw [HEQ.out.1, HOL.out])
            have hx1 : 1 ≤ x := by
              have h1 : bt (orTo b u b.2.length) (endV b 0 u) = true := (orTo_bit b u _ _).2 ⟨0, HOK.out.n1, rfl⟩
              rw [← HEQ.out.1] at h1
              rcases Nat.eq_zero_or_pos x with e | e
              · rw [e] at h1; simp [bt] at h1
              · exact e
            have hx64 := HX64.out
            have HZX := hide (HZ.out.keep HB3.out HZ.out.in_)
            have HPX := hide (HP.out.below HB3.out (Nat.le_refl _))
            have HBX := hide (le_call HBL.out HB3.out)
            have HWX := hide (Own.below (E := E1) HWD.out HB3.out (Nat.le_refl _))
            have hone : oneS x = ((x &&& (x - 1)) == 0) := (oneS_and x hx64).resolve_left (by omega)
            have wx : IntKind.i64.wrap ((x : Int) - 1) = (x : Int) - 1 := IntWalk.i64_in _ (by omega)
            have hba : bits BinOp.and IntKind.i64 (x : Int) ((x : Int) - 1) = ((x &&& (x - 1) : Nat) : Int) := by
              rw [show (x : Int) - 1 = ((x - 1 : Nat) : Int) by omega]; exact bits_andZ _ _ (by omega) (by omega)
            have hzz : ((((x &&& (x - 1)) : Nat) : Int) == 0) = oneS x := by
              rw [hone, Bool.eq_iff_iff, beq_iff_eq, beq_iff_eq]; omega
            have ix64 : (x : Int) < 64 := by omega
            have ix0 : (0 : Int) ≤ (x : Int) := by omega
            have hsx : wr.cell? ⟨gp, x, none⟩ = some (.bool (hasP (V.take r) x)) := by rw [HZX.out.at_]; exact se64_get _ hx64
            have zfr := HZX.out.fr x
            have hch : wr.cell? ⟨g3, r, none⟩ = some (.slice Ah nh ch) := h00.2.2
            clear hone h0
            rw [HO1.out]
            generalize x &&& (x - 1) = zz at *
            cases hone : oneS x with
            | true =>
              rw [hone] at hzz
              have HFU := hide (HFW.out hone)
              clear hone
              go_wp2_with fail
              have ht := le_call HB0.out B1.out
              rw [HSY.out, HFU.out, HE.out]
              refine bodyPost_ret (v := .tuple #[.slice Ah nh ch, .bool true, .int .i64 0]) (by simp [results, Try.results44, go_sem]) rfl ?_
              exact ⟨Ah, nh, ch, rfl, Own.more (E := E1) HWX.out ht.size, ht.trans (HBX.out.mono ht.size)⟩
            | false =>
              rw [hone] at hzz
              have HJN := hide (show ∀ y ∈ V.take r ++ [(x, u)], oneS y.1 = false from fun y hy => by
                rcases List.mem_append.1 hy with h1 | h1
                · exact HJ.out y h1
                · rw [List.mem_singleton] at h1; rw [h1]; exact hone)
              clear hone
              cases hse : hasP (V.take r) x with
              | true =>
                rw [hse] at hsx
                have HQ := hide (HSK.out hse)
                have HZS := hide (se64_skip (V.take r) hse u)
                clear hse
                go_wp2_with fail
                go_roundw
                case rel => exact ⟨r + 1, nn, _, c3, hd3, by omega, by go_num, rfl, hide (by rw [HQ.out]; exact HPX.out), hide (by rw [HQ.out, HTK.out, HZS.out]; exact HZX.out), hide (by rw [HQ.out, HTK.out]; exact HJN.out), HBX⟩
                case measure => have := HN.out; simp [intOf]; omega
              | false =>
                rw [hse] at hsx
                have HQ := hide (HNW.out hse)
                clear hse
                go_wp2_with fail
                have HP5 := hide (pls_own HPX.out HZX.out (by decide) (by decide) x (.bool true))
                have HZ5 := hide (show Bk (wr.setCell ⟨gp, x, none⟩ (.bool true)) gp 101 (se64 (V.take r ++ [(x, u)])) from by
                  have := HZX.out.put x (.bool true)
                  rwa [se64_put _ hx64 u] at this)
                have HB5 := hide (Below.setCell HBX.out (p := ⟨gp, x, none⟩) HGS.out (.bool true))
                have HV0 := hide (show V = V ++ twoW b x u 0 from by simp [twoW])
                generalize wr.setCell ⟨gp, x, none⟩ (.bool true) = W5 at *
                clear hsx zfr hch h00 k1 k2
                go_loopw [11, 6] (fun jv o w3 => ∃ (j n3 : Nat) (A4 : Option Addr) (c4 : Nat) (hd4 : List (Nat × Hd)), j ≤ 2 ∧ nn ≤ n3 ∧ jv = .int .i64 j ∧ o = .slice A4 n3 c4 ∧ Hid (Pls (EG (0 : Nat)) w3 w1.heap.size 23 A4 n3 c4 hd4 (V ++ twoW b x u j)) ∧ Hid (Bk w3 gp 101 (se64 (V.take r ++ [(x, u)]))) ∧ Hid (Below w1.heap.size w1 w3)) (fun jv _ _ => 2 - (intOf jv).toNat)
                case atStart => exact ⟨0, nn, _, c3, hd3, by omega, Nat.le_refl _, rfl, rfl, hide (by rw [← HV0.out]; exact HP5.out), HZ5, HB5⟩
                case round =>
                  obtain ⟨j, n3, A4, c4, hd4, hj, hn3, rfl, rfl, HP4, HZ4, HB4⟩ := hrel
                  by_cases hlj : j < 2
                  · obtain ⟨g4, rfl, hg4, hg4b, hc4, hc4m⟩ := HP4.out.own.addr (by omega)
                    have hc49 : c4 ≤ 9223372036854775807 := hc4m
                    clear hc4m
                    have hr3 : r < n3 := by omega
                    have ir3 : (r : Int) < (n3 : Int) := by omega
                    have j2 : (j : Int) < 2 := by omega
                    have hn3b : n3 ≤ 131 := by
                      have h1 := HP4.out.len
                      have h2 := twoW_len b x u j
                      have h3 := HLV.out
                      rw [List.length_append] at h1
                      omega
                    have HGU := hide (show (V ++ twoW b x u j).getD r (0, []) = (x, u) from by
                      rw [List.getD_eq_getElem?_getD, List.getElem?_append_left (by have := HLV.out; omega), HGET.out]; rfl)
                    have HWD4 := hide (show WordAt wr w1.heap.size (hd4.getD r (EPl (EG (0 : Nat))).d).2 u from by have := HP4.out.wd r hr3; rwa [show (((EG (0 : Nat))).d, ([] : List Int)) = (0, []) from rfl, HGU.out] at this)
                    have HCH4 := hide (fun y (hy : Pls (EG (0 : Nat)) y w1.heap.size 23 (some ⟨g4, 0, none⟩) n3 c4 hd4 (V ++ twoW b x u j)) => cPlG hy.own.rowAt hr3)
                    generalize (hd4.getD r (EPl (EG (0 : Nat))).d).2 = hh at *
                    obtain ⟨Aw, nw, cw⟩ := hh
                    have hnw : nw ≤ 1000 := HUL.out _ (Own.len (E := E1) HWD4.out)
                    have HTW := hide (twoW_succ b x u V j hlj)
                    have BZ := hide (show Below wr.heap.size wr (wr.alloc (.cells #[] 3)) from le_two (Below.refl _ _) _)
                    have OZ := hide (show Own E1 (wr.alloc (.cells #[] 3)) wr.heap.size 3 (some ⟨wr.heap.size, 0, none⟩) 0 0 [] from Own.lit wr [] (Nat.le_refl _) (by simp))
                    have hcz : (wr.alloc (.cells #[] 3)).cell? ⟨g4, r, none⟩ = some (.slice Aw nw cw) := by have := HCH4.out _ (HP4.out.below BZ.out (Nat.le_refl _)); rwa [Nat.zero_add] at this
                    have HWZ := hide (Own.below (E := E1) HWD4.out BZ.out (Nat.le_refl _))
                    have hs6 := HB4.out.size
                    go_wp2_with (first
                      | (have hgd := B6; clear hgd; at_builtin; refine wpList_app1 (E := EPl (EG (0 : Nat))) w6 (.slice none 0 0) 24 rfl (.tmp 60) (.tmp 70) 61 23 rfl Try.underlying61 info_ints rfl (by decide) (by omega) w1.heap.size n3 c4 (some ⟨g4, 0, none⟩) hd4 (aftS b x (j : Int), A6, nw + 1, c6) _ rfl rfl rfl (HP4.out.below B6.out (Nat.le_refl _)).own (by omega) (Nat.le_trans hs6 B6.out.size) ?_; intro A9 c9 w9 o9 b9 g9; have O9 := hide o9; have B9 := hide b9; have G9 := hide g9; clear o9 b9 g9)
                      | (have hgd := BQ; clear hgd; at_builtin; refine wpList_app1 (E := E1) wq (.int .i64 0) 8 rfl (.tmp 66) (.tmp 68) 23 3 rfl Try.underlying23 info_int rfl (by decide) (by omega) wr.heap.size nw c5 A5 u (j : Int) _ rfl rfl rfl OQ.out (by omega) BQ.out.size ?_; intro A6 c6 w6 o6 b6 _; have O6 := hide o6; have B6 := hide (BQ.out.trans b6); clear o6 b6)
                      | (at_builtin; refine wpList_appG (E := E1) (wr.alloc (.cells #[] 3)) (.int .i64 0) 8 rfl (.tmp 61) (.tmp 65) 23 3 rfl Try.underlying23 info_int rfl (by decide) (by omega) wr.heap.size 0 0 (some ⟨wr.heap.size, 0, none⟩) [] Aw nw cw u rfl rfl OZ.out (Own.row (E := E1) HWZ.out) (by omega) (by omega) BZ.out.size ?_; intro A5 c5 wq o5 b5 _ _; rw [Nat.zero_add] at o5 ⊢; have OQ := hide (show Own E1 wq wr.heap.size 3 A5 nw c5 u from o5); have BQ := hide (BZ.out.trans b5); clear o5 b5))
                    go_roundw
                    case rel => exact ⟨j + 1, n3 + 1, _, c9, _, by omega, by omega, by go_num, rfl, hide (by rw [← HTW.out]; exact (HP4.out.below B6.out (Nat.le_refl _)).add (by decide) O9.out G9.out (show WordAt w6 w1.heap.size (A6, nw + 1, c6) (u ++ [(j : Int)]) from O6.out.more hs6)), hide (gb_bkO (HP4.out.below B6.out (Nat.le_refl _)).own G9.out (HZ4.out.keep B6.out HZ4.out.in_) (by decide)), hide ((le_call HB4.out B6.out).trans B9.out)⟩
                    case measure => simp [intOf]; omega
                  · obtain rfl : j = 2 := by omega
                    have HQ2 := hide (show quN (aftS b) (allS b.2.length) (r + 1) = V ++ twoW b x u 2 from HQ.out)
                    have HTT := hide (show (quN (aftS b) (allS b.2.length) (r + 1)).take (r + 1) = V.take r ++ [(x, u)] from by rw [HQ2.out, HTA.out, HTK.out])
                    go_wp2_with fail
                    go_roundw
                    case rel => exact ⟨r + 1, n3, A4, c4, hd4, by omega, by go_num, rfl, by rw [HQ2.out]; exact HP4, by rw [HTT.out]; exact HZ4, by rw [HTT.out]; exact HJN, HB4⟩
                    case measure => have := HN.out; simp [intOf]; omega
      · obtain rfl : r = nn := by omega
        have HNO := hide (show syncW b = none from q_none (r := r) (by rw [HP.out.len]; exact Nat.le_refl _) HJ.out (HSE.out r))
        go_wp2_with fail
        have ht := le_call HB0.out B1.out
        rw [HSY.out, HNO.out, HE.out]
        refine bodyPost_ret (v := .tuple #[.slice none 0 0, .bool false, .int .i64 0]) (by simp [results, Try.results44, go_sem]) rfl ?_
        exact ⟨none, 0, 0, rfl, Own.nil _ _ _ _, ht.trans (HBL.out.mono ht.size)⟩
  · have hee : (errX b != 0) = true := by simp [he]
    have HE := hide (syncF_no he)
    clear he
    go_enter Try.func44, Try.ntmps44
    go_wp2_with (go_at_call 26; refine (rValidate_any A n c A' n' c' b _ HR.out).mono ?_; rintro e w1 ⟨rfl, b1⟩; have B1 := hide b1; have f1 := bk_two (HK0.out.keep b1 HK0.out.in_); clear b1)
    rw [HE.out]
    refine bodyPost_ret (v := .tuple #[.slice none 0 0, .bool false, .int .i64 (errX b)]) (by simp [results, Try.results44, go_sem]) rfl ?_
    exact ⟨none, 0, 0, rfl, Own.nil _ _ _ _, le_call HB0.out B1.out⟩
end Go.Proofs.Ytkjnhdkbojcojaa
