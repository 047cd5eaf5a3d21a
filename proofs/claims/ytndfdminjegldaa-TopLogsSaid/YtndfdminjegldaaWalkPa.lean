/- Walks: the first longest part, the program. -/
import Derived.Test.YtndfdminjegldaaWalkM
import Derived.Test.YtndfdminjegldaaMM
import Derived.Ground.NamesProg
import Derived.Shelf.Slices.Turned
namespace Go.Proofs.Ytndfdminjegldaa
open Go.RowKit Go.Shelf
attribute [local go_sem] Oper.semAt_some

def idxRen : Go.Shelf.Ren := ⟨fun | 108 => 88 | n => n, fun | 28 => 22 | 3 => 3 | 4 => 4 | 0 => 0 | n => n, fun | n => n⟩
theorem idxLays : Lays.n108 Try.prog idxRen where
  mixed := by kernel_rfl
  f108 := Try.func88.trans (congrArg some (by kernel_rfl))
  t0 := Try.underlying0
  a0 := Try.isAgg0
  z0 := Try.sizeOf0
  v0 := Try.zeroValue0
  t3 := Try.underlying3
  a3 := Try.isAgg3
  z3 := Try.sizeOf3
  v3 := Try.zeroValue3
  t4 := Try.underlying4
  a4 := Try.isAgg4
  z4 := Try.sizeOf4
  v4 := Try.zeroValue4
  t28 := Try.underlying22
  a28 := Try.isAgg22
  z28 := Try.sizeOf22
  v28 := Try.zeroValue22
theorem aft_idx (s : Int) : ∀ (l : List Int) (i : Nat), (∃ k : Nat, Lib.idxFrom l s i = ((i + k : Nat) : Int) ∧ k < l.length ∧ aft s l = some (l.drop (k + 1))) ∨ (Lib.idxFrom l s i = -1 ∧ aft s l = none)
  | [], i => .inr ⟨rfl, rfl⟩
  | x :: l, i => by
    by_cases e : x = s
    · left
      exact ⟨0, by rw [Lib.idxFrom, if_pos e]; rfl, by simp, by rw [aft, if_pos e]; rfl⟩
    · rcases aft_idx s l (i + 1) with ⟨k, h1, h2, h3⟩ | ⟨h1, h2⟩
      · left
        exact ⟨k + 1, by rw [Lib.idxFrom, if_neg e, h1]; congr 1; omega, by simp; omega, by rw [aft, if_neg e, h3]; rfl⟩
      · right
        exact ⟨by rw [Lib.idxFrom, if_neg e, h1], by rw [aft, if_neg e, h2]⟩
theorem Index_any (A : Option Addr) (n c : Nat) (xs : List Int) (s : Int) (w : World) (h : R E1 w A n c xs) :
    Calls Try.prog 88 #[.slice A n c, .int .i64 s] w fun e w' => e = .returned (.int .i64 (Lib.idxOf xs s)) ∧ w' = w := by
  by_cases hn : 0 < n
  · obtain ⟨b, off, hr⟩ := h
    obtain rfl := hr.at_ hn
    have hl := hr.len
    have hc := hr.cap
    have hm := hr.max
    have := Any.slices_Index_int idxLays b off n c xs s w (by omega) (by omega) (fun j hj => c1 hr (by omega))
    rwa [List.take_of_length_le (by omega)] at this
  · obtain rfl : n = 0 := by omega
    have hx := h.zero rfl
    subst hx
    exact Any.slices_Index_int_empty idxLays A c s w
set_option maxRecDepth 100000 in
set_option maxHeartbeats 1000000 in
theorem after_none (A : Option Addr) (n c : Nat) (xs : List Int) (s : Int) (w : World) (h : R E1 w A n c xs) (ha : aft s xs = none) :
    Calls Try.prog 76 #[.slice A n c, .int .i64 s] w fun e w' => e = .returned (.tuple #[.slice none 0 0, .bool false]) ∧ w = w' := by
  have H := hide h
  have HI := hide (show Lib.idxOf xs s = -1 from by
    rcases aft_idx s xs 0 with ⟨k, _, _, h3⟩ | ⟨h1, _⟩
    · rw [ha] at h3; cases h3
    · exact h1)
  clear h ha
  go_enter Try.func76, Try.ntmps76
  go_wp2_with (go_at_call 88; refine (Index_any A n c xs s _ H.out).mono ?_; rw [HI.out]; rintro e w1 ⟨rfl, rfl⟩)
  go_ret2
  exact ⟨rfl, rfl⟩
theorem r_suffix {w : World} {b off n c k : Nat} {xs : List Int} (h : R E1 w (some ⟨b, off, none⟩) n c xs) (hk : k < n) : R E1 w (some ⟨b, off + (k + 1), none⟩) (n - (k + 1)) (c - (k + 1)) (xs.drop (k + 1)) := by
  obtain ⟨b', off', hr⟩ := h
  have e := hr.at_ (by omega)
  simp only [Option.some.injEq, Addr.mk.injEq] at e
  obtain ⟨rfl, rfl, _⟩ := e
  have hl := hr.len
  have := hr.sub (i := k + 1) (m := n - (k + 1)) (by omega)
  rw [List.take_of_length_le (by rw [List.length_drop]; omega), show off + (k + 1) * E1.size = off + (k + 1) from by show off + (k + 1) * 1 = _; omega] at this
  exact this
set_option maxRecDepth 100000 in
set_option maxHeartbeats 1000000 in
theorem after_some (A : Option Addr) (n c : Nat) (xs : List Int) (s : Int) (r : List Int) (w : World) (h : R E1 w A n c xs) (hn : n ≤ 1000) (ha : aft s xs = some r) :
    Calls Try.prog 76 #[.slice A n c, .int .i64 s] w fun e w' => (∃ A' n' c', e = .returned (.tuple #[.slice A' n' c', .bool true]) ∧ ∀ W, R E1 W A n c xs → R E1 W A' n' c' r) ∧ w = w' := by
  have H := hide h
  obtain ⟨k, h1, h2, h3⟩ : ∃ k : Nat, Lib.idxOf xs s = (k : Int) ∧ k < xs.length ∧ aft s xs = some (xs.drop (k + 1)) := by
    rcases aft_idx s xs 0 with ⟨k, h1, h2, h3⟩ | ⟨_, h2⟩
    · exact ⟨k, by rw [Nat.zero_add] at h1; exact h1, h2, h3⟩
    · rw [ha] at h2; cases h2
  rw [ha] at h3
  injection h3 with h3
  subst h3
  have HI := hide h1
  have hl := h.length
  rw [hl] at h2
  obtain ⟨b, off, hr⟩ := h
  obtain rfl := hr.at_ (by omega)
  have hcn := hr.cap
  have hcm := hr.max
  have HL := hide hl
  have i1 : IntKind.i64.wrap ((k : Int) + 1) = (k : Int) + 1 := IntWalk.i64_in _ (by omega)
  have i2 : ((k : Int) + 1).toNat = k + 1 := by omega
  have i3 : (0 : Int) ≤ (k : Int) + 1 := by omega
  have i4 : (k : Int) + 1 ≤ (n : Int) := by omega
  have i5 : k + 1 ≤ n := by omega
  have i6 : k < n := by omega
  have i7 : (k : Int) < (n : Int) := by omega
  clear hr h1 hl ha
  by_cases hck : c = k + 1
  · have hnk : n = k + 1 := by omega
    subst hck
    subst hnk
    have HNI := hide (show xs.drop (k + 1) = [] from List.drop_eq_nil_of_le (by rw [HL.out]; exact Nat.le_refl _))
    have hz : k + 1 - (k + 1) = 0 := by omega
    go_enter Try.func76, Try.ntmps76
    go_wp2_with (go_at_call 88; refine (Index_any _ _ _ xs s _ H.out).mono ?_; rw [HI.out]; rintro e w1 ⟨rfl, rfl⟩)
    go_ret2
    exact ⟨⟨_, _, _, rfl, fun W _ => by rw [HNI.out]; exact R.none _ _ (by omega)⟩, rfl⟩
  · have hck1 : ¬ c - (k + 1) = 0 := by omega
    have hck2 : ¬ c ≤ k + 1 := by omega
    go_enter Try.func76, Try.ntmps76
    go_wp2_with (go_at_call 88; refine (Index_any _ n c xs s _ H.out).mono ?_; rw [HI.out]; rintro e w1 ⟨rfl, rfl⟩)
    go_ret2
    exact ⟨⟨_, _, _, rfl, fun W hW => r_suffix hW i6⟩, rfl⟩
end Go.Proofs.Ytndfdminjegldaa
