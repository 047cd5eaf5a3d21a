/- Posts and Moments. -/
import Derived.Test.YtpkjgnllkaafkaaWalkMm
namespace Go.Proofs.Ytpkjgnllkaafkaa
open Go.RowKit

def PsPost (xs : Ls) (w : World) (e : Ending) (w' : World) : Prop :=
  ∃ (A : Option Addr) (n c : Nat) (l : List Pst), e = .returned (.tuple #[.slice A n c, .int .i64 (errV xs)]) ∧ (errV xs = 0 → PstsOf xs l) ∧ (errV xs ≠ 0 → l = []) ∧ Own E2 w' w.heap.size 92 A n c l ∧ Below w.heap.size w w'
set_option maxHeartbeats 1000000 in
theorem Posts_any (A : Option Addr) (n c : Nat) (xs : Ls) (w : World) (h : R E3 w A n c xs) (hn : n ≤ 1000) :
    Calls Try.prog 44 #[.slice A n c] w (PsPost xs w) := by
  by_cases he : errV xs = 0
  · have HE := hide he
    have HX := hide h
    clear he h
    go_enter Try.func44, Try.ntmps44
    go_wp2_with (first
        | (go_at_call 23; refine (Validate_any _ _ _ xs _ HX.out hn).mono ?_; rintro e w1 ⟨rfl, b1⟩; rw [HE.out]; have B1 := hide b1; clear b1)
        | (go_at_call 83; refine (posts_any _ _ _ xs _ (HX.out.below B1.out (Nat.le_refl _)) HE.out).mono ?_; rintro e w2 ⟨A2, n2, c2, l2, rfl, hl2, o2, b2⟩; have H2 := hide hl2; have O2 := hide o2; clear hl2 o2; have B2 := hide (B1.out.trans (b2.mono B1.out.size)); clear b2))
    go_ret2
    exact ⟨A2, n2, c2, l2, by rw [HE.out]; rfl, fun _ => H2.out, fun h => absurd HE.out h, O2.out.more B1.out.size, B2.out⟩
  · have HE := hide he
    have hne : (errV xs != 0) = true := by simpa using he
    clear he
    go_enter Try.func44, Try.ntmps44
    go_wp2_with (first
        | (go_at_call 23; refine (Validate_any _ _ _ xs _ h hn).mono ?_; rintro e w1 ⟨rfl, b1⟩))
    go_ret2
    exact ⟨none, 0, 0, [], rfl, fun h => absurd h HE.out, fun _ => rfl, Own.nil _ _ _ _, b1⟩
def momTo (ps : List Pst) (k : Nat) : List Int := (ps.take k).map (·.1)
theorem momTo_zero (ps : List Pst) : momTo ps 0 = [] := rfl
theorem momTo_succ {ps : List Pst} {k : Nat} (h : k < ps.length) : momTo ps (k + 1) = momTo ps k ++ [(pa ps k).1] := by
  unfold momTo
  rw [takeP h, List.map_append]
  rfl
theorem momTo_all {ps : List Pst} {n : Nat} (h : ps.length = n) : momTo ps n = ps.map (·.1) := by unfold momTo; rw [List.take_of_length_le (by omega)]
def MmPost (xs : Ls) (w : World) (e : Ending) (w' : World) : Prop :=
  ∃ (A : Option Addr) (n c : Nat) (I : List Int), e = .returned (.tuple #[.slice A n c, .int .i64 (errV xs)]) ∧ (errV xs = 0 → ∃ l, PstsOf (ones xs) l ∧ I = l.map (·.1)) ∧ (errV xs ≠ 0 → I = []) ∧ Own E1 w' w.heap.size 3 A n c I ∧ Below w.heap.size w w'
theorem psts_len {xs : Ls} (he : errV xs = 0) {l : List Pst} (h : PstsOf xs l) : l.length ≤ xs.length ∧ ∀ p ∈ l, pOk p = true := by
  obtain ⟨L, hL, rfl⟩ := h
  have hb := rsts_bd (L := L) fun s hs => shift_ok he hL hs
  refine ⟨by rw [List.length_map, ← hL.len]; exact hb.2, fun p hp => ?_⟩
  obtain ⟨b, hb', rfl⟩ := List.mem_map.1 hp
  have h1 := hb.1 b hb'
  have ho := shift_ok he hL h1.2.2
  unfold okN at ho
  rw [pOk_iff]
  simp only [pstOf]
  omega
theorem own2 {w : World} {B n c g : Nat} {e : TypeId} {L : List Pst} (h : Own E2 w B e (some ⟨g, 0, none⟩) n c L) {k : Nat} (hk : k < n) : w.cell? ⟨g, k * 2, none⟩ = some (.int .i64 (pa L k).1) ∧ w.cell? ⟨g, k * 2 + 1, none⟩ = some (.int .i64 (pa L k).2) :=
  ⟨h.cell (j := 0) hk (by decide), h.cell (j := 1) hk (by decide)⟩
set_option maxHeartbeats 2000000 in
theorem Moments_any (A : Option Addr) (n c : Nat) (xs : Ls) (w : World) (h : R E3 w A n c xs) (hn : n ≤ 1000) :
    Calls Try.prog 41 #[.slice A n c] w (MmPost xs w) := by
  by_cases he : errV xs = 0
  · have HE := hide he
    have HE1 := hide (errV_ones he)
    have hn12 : n ≤ 12 := by have := errV_le he; have := h.length; omega
    have HLX := hide h.length
    have HX := hide h
    clear he h
    go_enter Try.func41, Try.ntmps41
    go_wp2_with (first
        | (go_at_call 23; refine (Validate_any _ _ _ xs _ HX.out hn).mono ?_; rintro e w1 ⟨rfl, b1⟩; rw [HE.out]; have B1 := hide b1; clear b1)
        | (go_at_call 78; refine (paidAlike_any _ _ _ xs _ (HX.out.below B1.out (Nat.le_refl _)) hn).mono ?_; rintro e w2 ⟨A2, c2, rfl, o2, b2⟩; have O2 := hide o2; clear o2; have B2 := hide (B1.out.trans (b2.mono B1.out.size)); clear b2)
        | (go_at_call 83; refine (posts_any _ _ _ (ones xs) _ O2.out.row HE1.out).mono ?_; rintro e w3 ⟨A3, n3, c3, l3, rfl, hl3, o3, b3⟩; have H3 := hide hl3; have O3 := hide o3; clear hl3 o3; have B3 := hide (B2.out.trans (b3.mono B2.out.size)); clear b3))
    have hn3 : n3 ≤ 12 := by have h1 := O3.out.len; have h2 := (psts_len HE1.out H3.out).1; have h3 := HLX.out; rw [ones_len] at h2; omega
    have HL3 := hide O3.out.len
    have hs3 := B3.out.size
    go_loopw [5, 17] (fun v i wr => ∃ (k : Nat) (Ap : Option Addr) (q : Nat), k ≤ n3 ∧ i = .int .i64 k ∧ v = .slice Ap k q ∧ Hid (Own E1 wr w3.heap.size 3 Ap k q (momTo l3 k)) ∧ Hid (Below w3.heap.size w3 wr)) (fun _ i _ => n3 - (intOf i).toNat)
    case atStart => exact ⟨0, none, 0, Nat.zero_le _, rfl, rfl, hide (Own.nil E1 _ _ _), hide (Below.refl _ _)⟩
    case round =>
      obtain ⟨k, Ap, q, hk, rfl, rfl, HOP, HB⟩ := hrel
      by_cases hlt : k < n3
      · obtain ⟨g, rfl, hg1, hg2, hg3, hg4⟩ := O3.out.addr (by omega)
        have hg4' : c3 ≤ 9223372036854775807 := hg4
        obtain ⟨a1, a2⟩ := own2 (O3.out.below HB.out (Nat.le_refl _)) hlt
        have HMS := hide (@momTo_succ l3 k (by rw [HL3.out]; exact hlt))
        have hsz := HB.out.size
        generalize pa l3 k = y at *
        obtain ⟨y1, y2⟩ := y
        dsimp only at *
        clear hg4
        have hgr : g < wr.heap.size := by omega
        go_wp2_with (at_builtin; refine wpList_app1 (E := E1) _ (.int .i64 0) 8 rfl (.tmp 21) (.tmp 24) 30 3 rfl Try.underlying30 info_int rfl (by decide) (by omega) w3.heap.size _ _ _ _ (y1 : Int) _ rfl rfl (by show Value.slice (some ⟨wr.heap.size + 1, 0, none⟩) 1 1 = _; rw [World.size_alloc]) (HOP.out.alloc (.cells #[.int .i64 y1, .int .i64 y2] 92)) (by omega) (by simp; omega) ?_; intro A5 c5 w5 o5 b5 g5)
        go_roundw
        case rel => exact ⟨k + 1, A5, c5, by omega, by go_num, rfl, hide (by rw [HMS.out]; exact o5), hide ((HB.out.alloc hsz _).trans b5)⟩
        case measure => simp [intOf]; omega
      · obtain rfl : k = n3 := by omega
        have HA := hide (momTo_all HL3.out)
        go_wp2_with fail
        go_ret2
        exact ⟨Ap, k, q, _, by rw [HE.out]; rfl, fun _ => ⟨l3, H3.out, HA.out⟩, fun h => absurd HE.out h, HOP.out.more hs3, B3.out.trans (HB.out.mono hs3)⟩
  · have HE := hide he
    have hne : (errV xs != 0) = true := by simpa using he
    clear he
    go_enter Try.func41, Try.ntmps41
    go_wp2_with (first
        | (go_at_call 23; refine (Validate_any _ _ _ xs _ h hn).mono ?_; rintro e w1 ⟨rfl, b1⟩))
    go_ret2
    exact ⟨none, 0, 0, [], rfl, fun h => absurd h HE.out, fun _ => rfl, Own.nil _ _ _ _, b1⟩
end Go.Proofs.Ytpkjgnllkaafkaa
