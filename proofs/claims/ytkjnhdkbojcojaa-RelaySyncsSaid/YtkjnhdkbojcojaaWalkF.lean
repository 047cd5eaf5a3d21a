/- Walks: the marks of states, and whether they tell two apart. -/
import Derived.Test.YtkjnhdkbojcojaaWalkB
import Derived.Test.YtkjnhdkbojcojaaMK
import Derived.Deep.RegionHeldLaw
namespace Go.Proofs.Ytkjnhdkbojcojaa
open Go.RowKit Go.Shelf
attribute [local go_sem] Oper.semAt_some

def kI (ks : List Nat) : List Int := ks.map fun (k : Nat) => (k : Int)
theorem kI_len (ks : List Nat) : (kI ks).length = ks.length := by simp [kI]
theorem kI_get (ks : List Nat) (k : Nat) : (kI ks).getD k 0 = ((ks.getD k 0 : Nat) : Int) := by
  unfold kI
  rw [List.getD_eq_getElem?_getD, List.getD_eq_getElem?_getD, List.getElem?_map]
  cases ks[k]? <;> rfl
/-- Numbers of kinds that lie behind a pointer. -/
structure KAt (w : World) (p : Nat) (ks : List Nat) (A : Option Addr) (n c : Nat) : Prop where
  bk : Bk w p 23 #[.slice A n c]
  row : R E1 w A n c (kI ks)
theorem KAt.below {w w' : World} {p : Nat} {ks : List Nat} {A : Option Addr} {n c B : Nat} (h : KAt w p ks A n c) (hb : Below B w w') (hB : w.heap.size ≤ B) : KAt w' p ks A n c := ⟨h.bk.keep hb (Nat.lt_of_lt_of_le h.bk.in_ hB), h.row.below hb hB⟩
set_option maxRecDepth 100000 in
set_option maxHeartbeats 2000000 in
theorem mark1_any (g : Nat) (b : Bx) (s p : Nat) (ks : List Nat) (A : Option Addr) (n c : Nat) (w : World) (h : BoxAt w g b) (hb : Okx b) (hs : s < b.2.length) (hk : KAt w p ks A n c) (hl : ks.length = b.2.length) :
    Calls Try.prog 122 #[sV g s, .pointer (some ⟨p, 0, none⟩)] w fun e w' => e = .returned (.int .i64 (mkK b ks 0 s : Nat)) ∧ Below w.heap.size w w' := by
  have HB0 := hide ((Below.refl w.heap.size w).alloc (Nat.le_refl _) (.cells #[.pointer (some ⟨g, 0, none⟩), .int .i64 (s : Int)] 68))
  have HKS := hide (Bk.born w 68 #[.pointer (some ⟨g, 0, none⟩), .int .i64 (s : Int)])
  have HX := hide (h.below HB0.out (Nat.le_refl _))
  have HKA := hide (hk.below HB0.out (Nat.le_refl _))
  have HOK := hide hb
  have HS := hide hs
  have HT := hide (hb.aft_lt hs 0)
  have hlen := hk.row.length
  rw [kI_len, hl] at hlen
  have HN := hide hlen
  obtain ⟨b2, o2, hr2⟩ := HKA.out.row
  obtain rfl := hr2.at_ (by have := hb.n1; omega)
  have HAN := hide (show aft b s 0 < n by rw [← HN.out]; exact HT.out)
  have HV := hide (show (kI ks).getD (aft b s 0) 0 = (mkK b ks 0 s : Nat) from kI_get ks _)
  have HC := hide (fun x (hx : Below (w.alloc (.cells #[.pointer (some ⟨g, 0, none⟩), .int .i64 (s : Int)] 68)).heap.size (w.alloc (.cells #[.pointer (some ⟨g, 0, none⟩), .int .i64 (s : Int)] 68)) x) =>
    (show _ ∧ _ ∧ _ ∧ _ from ⟨(HKA.out.bk.keep hx HKA.out.bk.in_).at_ 0, (bk_two (HKS.out.keep hx HKS.out.in_)).1, (bk_two (HKS.out.keep hx HKS.out.in_)).2, c1 (hr2.below hx (Nat.le_refl _)) HAN.out⟩))
  rw [HV.out] at HC
  have hAN : (aft b s 0 : Int) < (n : Int) := by have := HAN.out; omega
  have HCA := hide (fun x => after_any g b s 0 x)
  clear hr2 hlen h hb hs hk hl
  generalize mkK b ks 0 s = v at *
  generalize aft b s 0 = t at *
  go_enter Try.func122, Try.ntmps122
  go_wp2_with fail
  generalize w.alloc (.cells #[.pointer (some ⟨g, 0, none⟩), .int .i64 (s : Int)] 68) = W1 at *
  have H0 := HC.out W1 (Below.refl _ _)
  have xf : ∀ w, (Instr.field 68 (.agg #[.pointer (some ⟨g, 0, none⟩), .int .i64 (t : Int)]) 1).run Try.prog w = .ok (.int .i64 (t : Int)) w := fun _ => by kernel_rfl
  go_region_held_law (fun w' => w'.cell? ⟨p, 0, none⟩ = some (.slice (some ⟨b2, o2, none⟩) n c) ∧ w'.cell? ⟨w.heap.size, 0, none⟩ = some (.pointer (some ⟨g, 0, none⟩)) ∧ w'.cell? ⟨w.heap.size, 1, none⟩ = some (.int .i64 (s : Int)) ∧ w'.cell? ⟨b2, o2 + t, none⟩ = some (.int .i64 (v : Int)))
    (first
      | exact K5.out
      | exact ⟨H0.1, H0.2.1, H0.2.2.1, H0.2.2.2⟩
      | go_keep)
    (first
      | (go_at_call 74; refine (HCA.out W1.drew (HX.out.below (below_drewN (Below.refl _ _) 1) (Nat.le_refl _)) HOK.out HS.out (by decide)).mono ?_; rintro e5 w5 ⟨he5, b5⟩; have he5' : e5 = .returned (.agg #[.pointer (some ⟨g, 0, none⟩), .int .i64 (t : Int)]) := he5; clear he5; subst he5'; have B5 := hide (show Below W1.heap.size W1 w5 from (below_drewN (Below.refl _ _) 1).trans b5); have K5 := hide (HC.out w5 B5.out); clear b5))
  go_wp2_with fail
  go_ret
  exact ⟨rfl, HB0.out.trans (B5.out.mono HB0.out.size)⟩
set_option maxRecDepth 100000 in
set_option maxHeartbeats 2000000 in
theorem mark2_any (g : Nat) (b : Bx) (s p : Nat) (ks : List Nat) (A : Option Addr) (n c : Nat) (w : World) (h : BoxAt w g b) (hb : Okx b) (hs : s < b.2.length) (hk : KAt w p ks A n c) (hl : ks.length = b.2.length) :
    Calls Try.prog 123 #[sV g s, .pointer (some ⟨p, 0, none⟩)] w fun e w' => e = .returned (.int .i64 (mkK b ks 1 s : Nat)) ∧ Below w.heap.size w w' := by
  have HB0 := hide ((Below.refl w.heap.size w).alloc (Nat.le_refl _) (.cells #[.pointer (some ⟨g, 0, none⟩), .int .i64 (s : Int)] 68))
  have HKS := hide (Bk.born w 68 #[.pointer (some ⟨g, 0, none⟩), .int .i64 (s : Int)])
  have HX := hide (h.below HB0.out (Nat.le_refl _))
  have HKA := hide (hk.below HB0.out (Nat.le_refl _))
  have HOK := hide hb
  have HS := hide hs
  have HT := hide (hb.aft_lt hs 1)
  have hlen := hk.row.length
  rw [kI_len, hl] at hlen
  have HN := hide hlen
  obtain ⟨b2, o2, hr2⟩ := HKA.out.row
  obtain rfl := hr2.at_ (by have := hb.n1; omega)
  have HAN := hide (show aft b s 1 < n by rw [← HN.out]; exact HT.out)
  have HV := hide (show (kI ks).getD (aft b s 1) 0 = (mkK b ks 1 s : Nat) from kI_get ks _)
  have HC := hide (fun x (hx : Below (w.alloc (.cells #[.pointer (some ⟨g, 0, none⟩), .int .i64 (s : Int)] 68)).heap.size (w.alloc (.cells #[.pointer (some ⟨g, 0, none⟩), .int .i64 (s : Int)] 68)) x) =>
    (show _ ∧ _ ∧ _ ∧ _ from ⟨(HKA.out.bk.keep hx HKA.out.bk.in_).at_ 0, (bk_two (HKS.out.keep hx HKS.out.in_)).1, (bk_two (HKS.out.keep hx HKS.out.in_)).2, c1 (hr2.below hx (Nat.le_refl _)) HAN.out⟩))
  rw [HV.out] at HC
  have hAN : (aft b s 1 : Int) < (n : Int) := by have := HAN.out; omega
  have HCA := hide (fun x => after_any g b s 1 x)
  clear hr2 hlen h hb hs hk hl
  generalize mkK b ks 1 s = v at *
  generalize aft b s 1 = t at *
  go_enter Try.func123, Try.ntmps123
  go_wp2_with fail
  generalize w.alloc (.cells #[.pointer (some ⟨g, 0, none⟩), .int .i64 (s : Int)] 68) = W1 at *
  have H0 := HC.out W1 (Below.refl _ _)
  have xf : ∀ w, (Instr.field 68 (.agg #[.pointer (some ⟨g, 0, none⟩), .int .i64 (t : Int)]) 1).run Try.prog w = .ok (.int .i64 (t : Int)) w := fun _ => by kernel_rfl
  go_region_held_law (fun w' => w'.cell? ⟨p, 0, none⟩ = some (.slice (some ⟨b2, o2, none⟩) n c) ∧ w'.cell? ⟨w.heap.size, 0, none⟩ = some (.pointer (some ⟨g, 0, none⟩)) ∧ w'.cell? ⟨w.heap.size, 1, none⟩ = some (.int .i64 (s : Int)) ∧ w'.cell? ⟨b2, o2 + t, none⟩ = some (.int .i64 (v : Int)))
    (first
      | exact K5.out
      | exact ⟨H0.1, H0.2.1, H0.2.2.1, H0.2.2.2⟩
      | go_keep)
    (first
      | (go_at_call 74; refine (HCA.out W1.drew (HX.out.below (below_drewN (Below.refl _ _) 1) (Nat.le_refl _)) HOK.out HS.out (by decide)).mono ?_; rintro e5 w5 ⟨he5, b5⟩; have he5' : e5 = .returned (.agg #[.pointer (some ⟨g, 0, none⟩), .int .i64 (t : Int)]) := he5; clear he5; subst he5'; have B5 := hide (show Below W1.heap.size W1 w5 from (below_drewN (Below.refl _ _) 1).trans b5); have K5 := hide (HC.out w5 B5.out); clear b5))
  go_wp2_with fail
  go_ret
  exact ⟨rfl, HB0.out.trans (B5.out.mono HB0.out.size)⟩
/-- The marks as function values. -/
abbrev mF0 : Value := .func (.func 61) #[] #[]
abbrev mF1 (p : Nat) : Value := .func (.func 122) #[] #[.pointer (some ⟨p, 0, none⟩)]
abbrev mF2 (p : Nat) : Value := .func (.func 123) #[] #[.pointer (some ⟨p, 0, none⟩)]
set_option maxRecDepth 100000 in
set_option maxHeartbeats 1000000 in
theorem marks_any (A : Option Addr) (n c : Nat) (w : World) :
    Calls Try.prog 96 #[.slice A n c] w fun e w' => e = .returned (.slice (some ⟨w.heap.size + 1, 0, none⟩) 3 3) ∧ w' = (w.alloc (.cells #[.slice A n c] 23)).alloc (.cells #[mF0, mF1 w.heap.size, mF2 w.heap.size] 147) := by
  go_enter Try.func96, Try.ntmps96
  go_wp2_with fail
  go_ret
  exact ⟨rfl, rfl⟩
abbrev pV (g s h t : Nat) : Value := .agg #[.pointer (some ⟨g, 0, none⟩), .int .i64 (s : Int), .pointer (some ⟨h, 0, none⟩), .int .i64 (t : Int)]
theorem bk_four {w : World} {g : Nat} {T : TypeId} {a b c d : Value} (h : Bk w g T #[a, b, c, d]) : w.cell? ⟨g, 0, none⟩ = some a ∧ w.cell? ⟨g, 1, none⟩ = some b ∧ w.cell? ⟨g, 2, none⟩ = some c ∧ w.cell? ⟨g, 3, none⟩ = some d := ⟨h.at_ 0, h.at_ 1, h.at_ 2, h.at_ 3⟩
theorem bne_cast (a b : Nat) : ((a : Int) != (b : Int)) = !(a == b) := by
  by_cases h : a = b
  · subst h; simp
  · have : (a : Int) ≠ b := by omega
    rw [show ((a : Int) != (b : Int)) = true from bne_iff_ne.2 this, show (a == b) = false from beq_eq_false_iff_ne.2 h]; rfl
set_option maxRecDepth 100000 in
set_option maxHeartbeats 2000000 in
theorem told0_any (g : Nat) (b : Bx) (s t p q : Nat) (ks : List Nat) (A : Option Addr) (n c : Nat) (w : World) (h : BoxAt w g b) (hb : Okx b) (hs : s < b.2.length) (ht : t < b.2.length) (hk : KAt w p ks A n c) (hl : ks.length = b.2.length) (hq : Bk w q 91 #[.pointer (some ⟨g, 0, none⟩), .int .i64 (s : Int), .pointer (some ⟨g, 0, none⟩), .int .i64 (t : Int)]) :
    Calls Try.prog 136 #[.agg #[mF0], .pointer (some ⟨q, 0, none⟩)] w fun e w' => e = .returned (.bool (!(sgl b s == sgl b t))) ∧ Below w.heap.size w w' := by
  have HB0 := hide ((Below.refl w.heap.size w).alloc (Nat.le_refl _) (.cells #[mF0] 147))
  have HC0 := hide (Bk.born w 147 #[mF0])
  have HX := hide (h.below HB0.out (Nat.le_refl _))
  have HKA := hide (hk.below HB0.out (Nat.le_refl _))
  have HQ := hide (hq.keep HB0.out hq.in_)
  have HM := hide (fun u (hu : u < b.2.length) x (hx : Below (w.alloc (.cells #[mF0] 147)).heap.size (w.alloc (.cells #[mF0] 147)) x) => signal_any g b u x (HX.out.below hx (Nat.le_refl _)) hb hu)
  have HC := hide (fun x (hx : Below (w.alloc (.cells #[mF0] 147)).heap.size (w.alloc (.cells #[mF0] 147)) x) =>
    (show _ ∧ _ ∧ _ ∧ _ ∧ _ from ⟨(HC0.out.keep hx HC0.out.in_).at_ 0, bk_four (HQ.out.keep hx HQ.out.in_)⟩))
  have HS := hide hs
  have HT := hide ht
  clear h hb hs ht hk hl hq
  go_enter Try.func136, Try.ntmps136
  go_wp2_with fail
  generalize w.alloc (.cells #[mF0] 147) = W1 at *
  have H0 := HC.out W1 (Below.refl _ _)
  go_region_held_law (fun w' => w'.cell? ⟨w.heap.size, 0, none⟩ = some (mF0) ∧ w'.cell? ⟨q, 0, none⟩ = some (.pointer (some ⟨g, 0, none⟩)) ∧ w'.cell? ⟨q, 1, none⟩ = some (.int .i64 (s : Int)) ∧ w'.cell? ⟨q, 2, none⟩ = some (.pointer (some ⟨g, 0, none⟩)) ∧ w'.cell? ⟨q, 3, none⟩ = some (.int .i64 (t : Int)))
    (first
      | exact K7.out
      | exact K5.out
      | exact ⟨H0.1, H0.2.1, H0.2.2.1, H0.2.2.2.1, H0.2.2.2.2⟩
      | go_keep)
    (first
      | (have hgd := K5; clear hgd; go_at_call 61; refine (HM.out t HT.out w5 B5.out).mono ?_; rintro e7 w7 ⟨rfl, b7⟩; have B7 := hide (B5.out.trans (b7.mono B5.out.size)); have K7 := hide (HC.out w7 B7.out); clear b7)
      | (go_at_call 61; refine (HM.out s HS.out W1.drew (below_drewN (Below.refl _ _) 1)).mono ?_; rintro e5 w5 ⟨rfl, b5⟩; have B5 := hide (show Below W1.heap.size W1 w5 from (below_drewN (Below.refl _ _) 1).trans b5); have K5 := hide (HC.out w5 B5.out); clear b5))
  go_wp2_with fail
  go_ret
  exact ⟨ret_bool (rfl), HB0.out.trans (B7.out.mono HB0.out.size)⟩
set_option maxRecDepth 100000 in
set_option maxHeartbeats 2000000 in
theorem told1_any (g : Nat) (b : Bx) (s t p q : Nat) (ks : List Nat) (A : Option Addr) (n c : Nat) (w : World) (h : BoxAt w g b) (hb : Okx b) (hs : s < b.2.length) (ht : t < b.2.length) (hk : KAt w p ks A n c) (hl : ks.length = b.2.length) (hq : Bk w q 91 #[.pointer (some ⟨g, 0, none⟩), .int .i64 (s : Int), .pointer (some ⟨g, 0, none⟩), .int .i64 (t : Int)]) :
    Calls Try.prog 136 #[.agg #[mF1 p], .pointer (some ⟨q, 0, none⟩)] w fun e w' => e = .returned (.bool (!(mkK b ks 0 s == mkK b ks 0 t))) ∧ Below w.heap.size w w' := by
  have HB0 := hide ((Below.refl w.heap.size w).alloc (Nat.le_refl _) (.cells #[mF1 p] 147))
  have HC0 := hide (Bk.born w 147 #[mF1 p])
  have HX := hide (h.below HB0.out (Nat.le_refl _))
  have HKA := hide (hk.below HB0.out (Nat.le_refl _))
  have HQ := hide (hq.keep HB0.out hq.in_)
  have HM := hide (fun u (hu : u < b.2.length) x (hx : Below (w.alloc (.cells #[mF1 p] 147)).heap.size (w.alloc (.cells #[mF1 p] 147)) x) => mark1_any g b u p ks A n c x (HX.out.below hx (Nat.le_refl _)) hb hu (HKA.out.below hx (Nat.le_refl _)) hl)
  have HC := hide (fun x (hx : Below (w.alloc (.cells #[mF1 p] 147)).heap.size (w.alloc (.cells #[mF1 p] 147)) x) =>
    (show _ ∧ _ ∧ _ ∧ _ ∧ _ from ⟨(HC0.out.keep hx HC0.out.in_).at_ 0, bk_four (HQ.out.keep hx HQ.out.in_)⟩))
  have HS := hide hs
  have HT := hide ht
  clear h hb hs ht hk hl hq
  go_enter Try.func136, Try.ntmps136
  go_wp2_with fail
  generalize w.alloc (.cells #[mF1 p] 147) = W1 at *
  have H0 := HC.out W1 (Below.refl _ _)
  go_region_held_law (fun w' => w'.cell? ⟨w.heap.size, 0, none⟩ = some (mF1 p) ∧ w'.cell? ⟨q, 0, none⟩ = some (.pointer (some ⟨g, 0, none⟩)) ∧ w'.cell? ⟨q, 1, none⟩ = some (.int .i64 (s : Int)) ∧ w'.cell? ⟨q, 2, none⟩ = some (.pointer (some ⟨g, 0, none⟩)) ∧ w'.cell? ⟨q, 3, none⟩ = some (.int .i64 (t : Int)))
    (first
      | exact K7.out
      | exact K5.out
      | exact ⟨H0.1, H0.2.1, H0.2.2.1, H0.2.2.2.1, H0.2.2.2.2⟩
      | go_keep)
    (first
      | (have hgd := K5; clear hgd; go_at_call 122; refine (HM.out t HT.out w5 B5.out).mono ?_; rintro e7 w7 ⟨rfl, b7⟩; have B7 := hide (B5.out.trans (b7.mono B5.out.size)); have K7 := hide (HC.out w7 B7.out); clear b7)
      | (go_at_call 122; refine (HM.out s HS.out W1.drew (below_drewN (Below.refl _ _) 1)).mono ?_; rintro e5 w5 ⟨rfl, b5⟩; have B5 := hide (show Below W1.heap.size W1 w5 from (below_drewN (Below.refl _ _) 1).trans b5); have K5 := hide (HC.out w5 B5.out); clear b5))
  go_wp2_with fail
  go_ret
  exact ⟨ret_bool (bne_cast _ _), HB0.out.trans (B7.out.mono HB0.out.size)⟩
set_option maxRecDepth 100000 in
set_option maxHeartbeats 2000000 in
theorem told2_any (g : Nat) (b : Bx) (s t p q : Nat) (ks : List Nat) (A : Option Addr) (n c : Nat) (w : World) (h : BoxAt w g b) (hb : Okx b) (hs : s < b.2.length) (ht : t < b.2.length) (hk : KAt w p ks A n c) (hl : ks.length = b.2.length) (hq : Bk w q 91 #[.pointer (some ⟨g, 0, none⟩), .int .i64 (s : Int), .pointer (some ⟨g, 0, none⟩), .int .i64 (t : Int)]) :
    Calls Try.prog 136 #[.agg #[mF2 p], .pointer (some ⟨q, 0, none⟩)] w fun e w' => e = .returned (.bool (!(mkK b ks 1 s == mkK b ks 1 t))) ∧ Below w.heap.size w w' := by
  have HB0 := hide ((Below.refl w.heap.size w).alloc (Nat.le_refl _) (.cells #[mF2 p] 147))
  have HC0 := hide (Bk.born w 147 #[mF2 p])
  have HX := hide (h.below HB0.out (Nat.le_refl _))
  have HKA := hide (hk.below HB0.out (Nat.le_refl _))
  have HQ := hide (hq.keep HB0.out hq.in_)
  have HM := hide (fun u (hu : u < b.2.length) x (hx : Below (w.alloc (.cells #[mF2 p] 147)).heap.size (w.alloc (.cells #[mF2 p] 147)) x) => mark2_any g b u p ks A n c x (HX.out.below hx (Nat.le_refl _)) hb hu (HKA.out.below hx (Nat.le_refl _)) hl)
  have HC := hide (fun x (hx : Below (w.alloc (.cells #[mF2 p] 147)).heap.size (w.alloc (.cells #[mF2 p] 147)) x) =>
    (show _ ∧ _ ∧ _ ∧ _ ∧ _ from ⟨(HC0.out.keep hx HC0.out.in_).at_ 0, bk_four (HQ.out.keep hx HQ.out.in_)⟩))
  have HS := hide hs
  have HT := hide ht
  clear h hb hs ht hk hl hq
  go_enter Try.func136, Try.ntmps136
  go_wp2_with fail
  generalize w.alloc (.cells #[mF2 p] 147) = W1 at *
  have H0 := HC.out W1 (Below.refl _ _)
  go_region_held_law (fun w' => w'.cell? ⟨w.heap.size, 0, none⟩ = some (mF2 p) ∧ w'.cell? ⟨q, 0, none⟩ = some (.pointer (some ⟨g, 0, none⟩)) ∧ w'.cell? ⟨q, 1, none⟩ = some (.int .i64 (s : Int)) ∧ w'.cell? ⟨q, 2, none⟩ = some (.pointer (some ⟨g, 0, none⟩)) ∧ w'.cell? ⟨q, 3, none⟩ = some (.int .i64 (t : Int)))
    (first
      | exact K7.out
      | exact K5.out
      | exact ⟨H0.1, H0.2.1, H0.2.2.1, H0.2.2.2.1, H0.2.2.2.2⟩
      | go_keep)
    (first
      | (have hgd := K5; clear hgd; go_at_call 123; refine (HM.out t HT.out w5 B5.out).mono ?_; rintro e7 w7 ⟨rfl, b7⟩; have B7 := hide (B5.out.trans (b7.mono B5.out.size)); have K7 := hide (HC.out w7 B7.out); clear b7)
      | (go_at_call 123; refine (HM.out s HS.out W1.drew (below_drewN (Below.refl _ _) 1)).mono ?_; rintro e5 w5 ⟨rfl, b5⟩; have B5 := hide (show Below W1.heap.size W1 w5 from (below_drewN (Below.refl _ _) 1).trans b5); have K5 := hide (HC.out w5 B5.out); clear b5))
  go_wp2_with fail
  go_ret
  exact ⟨ret_bool (bne_cast _ _), HB0.out.trans (B7.out.mono HB0.out.size)⟩
end Go.Proofs.Ytkjnhdkbojcojaa
