/- Walks: a set among places; the word of the first place that is wanted. -/
import Derived.Test.YtkjnhdkbojcojaaWalkK
namespace Go.Proofs.Ytkjnhdkbojcojaa
open Go.RowKit Go.Shelf
attribute [local go_sem] Oper.semAt_some

set_option maxRecDepth 100000 in
set_option maxHeartbeats 4000000 in
theorem findS_any (g t : Nat) {w : World} {B n c : Nat} {A : Option Addr} {hs : List (Nat × Hd)} {V : Pl Nat} (h : Pls (ESet g) w B 127 A n c hs V) (hn : n ≤ 1000) (hP : ∀ k, k < n → (V.getD k (0, [])).1 < 64) (ht : t < 64) :
    Calls Try.prog 106 #[.slice A n c, setV g t] w fun e w' => e = .returned (.int .i64 (idxP V fun m => m == t)) ∧ Below w.heap.size w w' := by
  have HB0 := hide ((Below.refl w.heap.size w).alloc (Nat.le_refl _) (.cells (setA g t) 94))
  have HK := hide (Bk.born w 94 (setA g t))
  have HI := hide (idxS_find g w.heap.size (fun m => m == t) (fun m => m < 64) (h.below HB0.out (Nat.le_refl _)) hn hP (fun x hd w' hx hw => findS1_any g x w.heap.size t hd w' hx ht (HK.out.keep hw (by simp))))
  clear h hP
  generalize idxP V (fun m => m == t) = v at *
  go_enter Try.func106, Try.ntmps106
  go_wp2_with (go_at_call 104; refine HI.out.mono ?_; rintro e w5 ⟨rfl, b5⟩)
  go_ret
  exact ⟨rfl, le_call HB0.out b5⟩
set_option maxRecDepth 100000 in
set_option maxHeartbeats 4000000 in
theorem firstS1_any (g m q : Nat) (hd : Hd) (w : World) (h : Bk w q 100 #[.func (.func 84) #[] #[]]) :
    Calls Try.prog 105 #[.agg (placeA g m hd), .pointer (some ⟨q, 0, none⟩)] w fun e w' => e = .returned (.bool (oneS m)) ∧ Below w.heap.size w w' := by
  have HB0 := hide ((Below.refl w.heap.size w).alloc (Nat.le_refl _) (.cells (placeA g m hd) 127))
  have hcq : (w.alloc (.cells (placeA g m hd) 127)).cell? ⟨q, 0, none⟩ = some (.func (.func 84) #[] #[]) := (h.keep HB0.out h.in_).at_ 0
  have hq := h.in_
  clear h
  go_enter Try.func105, Try.ntmps105
  go_wp2_with (go_at_call 84; refine (isOne_any g m _).mono ?_; rintro e w5 ⟨rfl, b5⟩)
  go_ret
  exact ⟨rfl, le_call HB0.out b5⟩
/-- The word of the first place that is wanted, and whether there is one. -/
def FirstPost (r : Option (List Int)) (B : Nat) (w : World) (e : Ending) (w' : World) : Prop :=
  ∃ A n c, e = .returned (.tuple #[.slice A n c, .bool r.isSome]) ∧ Own E1 w' B 3 A n c (r.getD []) ∧ Below w.heap.size w w'
set_option maxRecDepth 100000 in
set_option maxHeartbeats 4000000 in
theorem firstS_any (g : Nat) {w : World} {B n c : Nat} {A : Option Addr} {hs : List (Nat × Hd)} {V : Pl Nat} (h : Pls (ESet g) w B 127 A n c hs V) (hn : n ≤ 1000) :
    Calls Try.prog 81 #[.slice A n c, .func (.func 84) #[] #[]] w (FirstPost (firstW V oneS) B w) := by
  have HB0 := hide ((Below.refl w.heap.size w).alloc (Nat.le_refl _) (.cells #[.func (.func 84) #[] #[]] 100))
  have HK := hide (Bk.born w 100 #[.func (.func 84) #[] #[]])
  have HI := hide (idxS_first g w.heap.size oneS (fun _ => True) (h.below HB0.out (Nat.le_refl _)) hn (fun _ _ => trivial) (fun x hd w' _ hw => firstS1_any g x w.heap.size hd w' (HK.out.keep hw (by simp))))
  have HH := hide (h.below HB0.out (Nat.le_refl _))
  have hl := h.len
  clear h
  rcases idx_cases V oneS 0 with ⟨k, hk, hi, hf⟩ | ⟨hi, hf, _⟩
  · rw [hi] at HI
    have hk' : k < n := by omega
    obtain ⟨g0, rfl, _, _, hc1, hc2⟩ := HH.out.own.addr (by omega)
    have hc3 : c ≤ 9223372036854775807 := hc2
    clear hc2
    have HCS := hide (fun x (hx : Below (w.alloc (.cells #[.func (.func 84) #[] #[]] 100)).heap.size (w.alloc (.cells #[.func (.func 84) #[] #[]] 100)) x) => cPlS (HH.out.own.rowAt.below hx (Nat.le_refl _)) hk')
    have HWD := hide (HH.out.wd k hk')
    have HR := hide (show firstW V oneS = some (V.getD k ((ESet g).d, [])).2 from by rw [firstW, hf]; rfl)
    have i0 : (0 : Int) ≤ (k : Int) := by omega
    have i1 : (k : Int) < (n : Int) := by omega
    clear hi hf
    go_enter Try.func81, Try.ntmps81
    go_wp2_with (go_at_call 104; refine HI.out.mono ?_; rintro e w5 ⟨rfl, b5⟩; have hcs := HCS.out w5 b5; simp only [Nat.zero_add] at hcs)
    go_ret2
    exact ⟨_, _, _, by rw [HR.out]; rfl, by rw [HR.out]; exact Own.below (E := E1) HWD.out b5 (Nat.le_refl _), le_call HB0.out b5⟩
  · rw [hi] at HI
    have HR := hide (show firstW V oneS = none from by rw [firstW, hf]; rfl)
    clear hi hf
    go_enter Try.func81, Try.ntmps81
    go_wp2_with (go_at_call 104; refine HI.out.mono ?_; rintro e w5 ⟨rfl, b5⟩)
    go_ret2
    exact ⟨none, 0, 0, by rw [HR.out]; rfl, by rw [HR.out]; exact Own.nil _ _ _ _, le_call HB0.out b5⟩
end Go.Proofs.Ytkjnhdkbojcojaa
