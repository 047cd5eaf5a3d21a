/- Walks: Listen, both sides; Gcd; ToneAgrees. -/
import Derived.Test.YtbadihbcjdibeaaWalkSh
import Derived.Test.YtbadihbcjdibeaaMathW
namespace Go.Proofs.Ytbadihbcjdibeaa
open Go.RowKit

theorem fill_getD {xs : List Int} {i : Int} {N m k : Nat} (h : k < m) : (fillTo xs i N m).getD k 0 = sec xs (i + (k : Int)) := by
  unfold fillTo
  rw [List.getD_eq_getElem?_getD, List.getElem?_append_left (by rw [pieceL_length]; exact h), ← List.getD_eq_getElem?_getD, pieceL_getD h]
theorem fill_eq_iff {xs ys : List Int} {i j : Int} {m : Nat} : fillTo xs i 60 m = fillTo ys j 60 m ↔ ∀ k : Nat, k < m → sec xs (i + (k : Int)) = sec ys (j + (k : Int)) := by
  constructor
  · intro e k hk
    rw [← fill_getD (N := 60) hk, e, fill_getD hk]
  · intro e
    unfold fillTo
    congr 1
    unfold pieceL
    exact List.map_congr_left fun k hk => e k (List.mem_range.1 hk)
theorem pcs_mem {xs : List Int} {m : Nat} : ∀ {k : Nat} {y : List Int}, y ∈ pcs xs m k ↔ ∃ a : Nat, a < k ∧ y = fillTo xs (a : Int) 60 m := by
  intro k
  induction k with
  | zero => intro y; simp [pcs]
  | succ k ih =>
    intro y
    show y ∈ addK (pcs xs m k) _ ↔ _
    rw [addK_mem, ih]
    constructor
    · rintro (⟨a, h1, h2⟩ | h)
      · exact ⟨a, by omega, h2⟩
      · exact ⟨k, by omega, h⟩
    · rintro ⟨a, h1, h2⟩
      by_cases e : a = k
      · subst e; exact .inr h2
      · exact .inl ⟨a, by omega, h2⟩
theorem fill_emod {xs : List Int} (h : 1 ≤ xs.length) (i : Int) (m : Nat) : fillTo xs (((i % (per xs : Int)).toNat : Nat) : Int) 60 m = fillTo xs i 60 m := by
  obtain ⟨s1, s2, _, _⟩ := per_spec h
  have e2 := Int.emod_nonneg i (show (per xs : Int) ≠ 0 by omega)
  unfold fillTo
  rw [Int.toNat_of_nonneg e2, piece_emod h]
def shareP (xs ys : List Int) (n : Nat) : Bool := shareB (pcs xs n (per xs)) (pcs ys n (per ys))
theorem shareP_iff {xs ys : List Int} {n : Nat} (h : 1 ≤ xs.length) (h' : 1 ≤ ys.length) : shareP xs ys n = true ↔ Shr xs ys n := by
  obtain ⟨s1, s2, _, _⟩ := per_spec h
  obtain ⟨t1, t2, _, _⟩ := per_spec h'
  unfold shareP shareB
  rw [List.any_eq_true]
  constructor
  · rintro ⟨p, hp, hm⟩
    unfold memB at hm
    obtain ⟨a, _, e1⟩ := pcs_mem.1 hp
    obtain ⟨b, _, e2⟩ := pcs_mem.1 (of_decide_eq_true hm)
    exact ⟨a, b, fill_eq_iff.1 (by rw [← e1, e2])⟩
  · rintro ⟨i, j, e⟩
    have a1 := Int.emod_lt_of_pos i (show (0 : Int) < per xs by omega)
    have a2 := Int.emod_nonneg i (show (per xs : Int) ≠ 0 by omega)
    have b1 := Int.emod_lt_of_pos j (show (0 : Int) < per ys by omega)
    have b2 := Int.emod_nonneg j (show (per ys : Int) ≠ 0 by omega)
    refine ⟨fillTo xs i 60 n, pcs_mem.2 ⟨(i % (per xs : Int)).toNat, by omega, (fill_emod h i n).symm⟩, ?_⟩
    unfold memB
    exact decide_eq_true (pcs_mem.2 ⟨(j % (per ys : Int)).toNat, by omega, by rw [fill_emod h']; exact fill_eq_iff.2 e⟩)

def lisO (xs ys : List Int) : Option Nat := if eqL (nameL xs) (nameL ys) then none else (List.range 61).find? fun n => !shareP xs ys n
theorem lis_spec {xs ys : List Int} (h : 1 ≤ xs.length) (h' : 1 ≤ ys.length) (hl : xs.length ≤ 24) (hl' : ys.length ≤ 24) (hne : eqL (nameL xs) (nameL ys) = false) :
    ∃ d : Nat, lisO xs ys = some d ∧ 1 ≤ d ∧ d ≤ most (per xs) (per ys) ∧ d ≤ 47 ∧ shareP xs ys d = false ∧ ∀ n, n < d → shareP xs ys n = true := by
  obtain ⟨_, s2, s3, _⟩ := per_spec h
  obtain ⟨_, t2, t3, _⟩ := per_spec h'
  obtain ⟨m1, m2, m3, m4, m5⟩ := most_bd s2 t2
  have hno : ¬ Shr xs ys (most (per xs) (per ys)) := fun g => by
    have := (name_alike h h').2 (shr_alike h h' g)
    rw [this] at hne; cases hne
  have hsp : shareP xs ys (most (per xs) (per ys)) = false := by
    cases g : shareP xs ys (most (per xs) (per ys)) with
    | false => rfl
    | true => exact absurd ((shareP_iff h h').1 g) hno
  cases hf : (List.range 61).find? (fun n => !shareP xs ys n) with
  | none =>
    rw [List.find?_eq_none] at hf
    have := hf _ (List.mem_range.2 (show most (per xs) (per ys) < 61 by omega))
    rw [hsp] at this; simp at this
  | some d =>
    have hlis : lisO xs ys = some d := by unfold lisO; rw [hne]; exact hf
    rw [List.find?_range_eq_some] at hf
    obtain ⟨g1, g2, g3⟩ := hf
    have hd : shareP xs ys d = false := by simpa using g1
    have hall : ∀ n, n < d → shareP xs ys n = true := fun n hn => by simpa using g3 n hn
    refine ⟨d, hlis, ?_, ?_, ?_, hd, hall⟩
    · rcases Nat.eq_zero_or_pos d with e | e
      · subst e; rw [(shareP_iff h h').2 (shr_zero xs ys)] at hd; cases hd
      · exact e
    · rcases Nat.lt_or_ge (most (per xs) (per ys)) d with g | g
      · rw [hall _ g] at hsp; cases hsp
      · exact g
    · have : d ≤ most (per xs) (per ys) := by
        rcases Nat.lt_or_ge (most (per xs) (per ys)) d with g | g
        · rw [hall _ g] at hsp; cases hsp
        · exact g
      omega
theorem lis_none {xs ys : List Int} (he : eqL (nameL xs) (nameL ys) = true) : lisO xs ys = none := by unfold lisO; rw [if_pos he]

set_option maxHeartbeats 1000000 in
theorem listen_any (A : Option Addr) (n c : Nat) (xs : List Int) (A' : Option Addr) (n' c' : Nat) (ys : List Int) (w : World) (h : Row w A n c xs) (h' : Row w A' n' c' ys) (hn1 : 1 ≤ n) (hn : n ≤ 24) (hn1' : 1 ≤ n') (hn' : n' ≤ 24) :
    Calls Try.prog 37 #[.slice A n c, .slice A' n' c'] w fun e w' => e = .returned (.tuple #[.int .i64 (((lisO xs ys).getD 0 : Nat) : Int), .bool (lisO xs ys).isSome]) ∧ Below w.heap.size w w' := by
  have HR := hide h
  have HR' := hide h'
  have l1 := h.length
  have l2 := h'.length
  cases hne : eqL (nameL xs) (nameL ys) with
  | true =>
    have HN := hide (lis_none hne)
    clear h h' l1 l2
    go_enter Try.func37, Try.ntmps37
    go_wp2_with fail
    refine (alike_any _ _ _ xs _ _ _ ys _ HR.out HR'.out (by omega) (by omega) (by omega) (by omega)).mono ?_
    rintro e w1 ⟨rfl, hb⟩
    rw [hne]
    go_wp2
    go_ret2
    exact ⟨by rw [HN.out]; rfl, hb⟩
  | false =>
    obtain ⟨d, q1, q2, q3, q4, q5, q6⟩ := lis_spec (xs := xs) (ys := ys) (by omega) (by omega) (by omega) (by omega) hne
    have HQ1 := hide q1
    have HQ5 := hide q5
    have HQ6 := hide q6
    clear h h' l1 l2 q1 q3 q5 q6
    go_enter Try.func37, Try.ntmps37
    go_wp2_with fail
    refine (alike_any _ _ _ xs _ _ _ ys _ HR.out HR'.out (by omega) (by omega) (by omega) (by omega)).mono ?_
    rintro e w1 ⟨rfl, hb⟩
    rw [hne]
    go_wp2
    go_loopw [6] (fun i wr => ∃ k : Nat, k ≤ d ∧ i = .int .i64 k ∧ Below w.heap.size w wr) (fun i _ => d - (intOf i).toNat)
    case atStart => exact ⟨0, by omega, rfl, hb⟩
    case round =>
      obtain ⟨k, hk, rfl, hbr⟩ := hrel
      have hz := hbr.size
      cases hs : shareP xs ys k with
      | true =>
        have hlt : k < d := by
          rcases Nat.lt_or_ge k d with g | g
          · exact g
          · have : k = d := by omega
            subst this; rw [HQ5.out] at hs; cases hs
        unfold shareP at hs
        go_wp2_with fail
        refine (piecesOf_any _ _ _ xs k _ (HR.out.below hbr (Nat.le_refl _)) (by omega) (by omega) (by omega)).mono ?_
        rintro e w2 ⟨r2, rfl, hr2, hs2, hb2⟩
        have B2 := hbr.trans (hb2.mono hz)
        have z2 := hb2.size
        go_wp2_with fail
        refine (piecesOf_any _ _ _ ys k _ (HR'.out.below B2 (Nat.le_refl _)) (by omega) (by omega) (by omega)).mono ?_
        rintro e w3 ⟨r3, rfl, hr3, hs3, hb3⟩
        have B3 := B2.trans (hb3.mono (by omega))
        have z3 := hb3.size
        go_wp2_with fail
        refine (shareOne_any _ _ _ _ _ (hs2.below hb3 hs2.lt) hs3).mono ?_
        rintro e w4 ⟨rfl, hb4⟩
        rw [hs]
        go_wp2
        go_roundw
        case rel => exact ⟨k + 1, by omega, by go_num, B3.trans (hb4.mono (by omega))⟩
        case measure => simp [intOf]; omega
      | false =>
        have hkd : k = d := by
          rcases Nat.lt_or_ge k d with g | g
          · rw [HQ6.out k g] at hs; cases hs
          · omega
        have HKD := hide hkd
        clear hkd
        unfold shareP at hs
        go_wp2_with fail
        refine (piecesOf_any _ _ _ xs k _ (HR.out.below hbr (Nat.le_refl _)) (by omega) (by omega) (by omega)).mono ?_
        rintro e w2 ⟨r2, rfl, hr2, hs2, hb2⟩
        have B2 := hbr.trans (hb2.mono hz)
        have z2 := hb2.size
        go_wp2_with fail
        refine (piecesOf_any _ _ _ ys k _ (HR'.out.below B2 (Nat.le_refl _)) (by omega) (by omega) (by omega)).mono ?_
        rintro e w3 ⟨r3, rfl, hr3, hs3, hb3⟩
        have B3 := B2.trans (hb3.mono (by omega))
        have z3 := hb3.size
        go_wp2_with fail
        refine (shareOne_any _ _ _ _ _ (hs2.below hb3 hs2.lt) hs3).mono ?_
        rintro e w4 ⟨rfl, hb4⟩
        rw [hs]
        go_wp2
        go_ret2
        exact ⟨by rw [HQ1.out, ← HKD.out]; rfl, B3.trans (hb4.mono (by omega))⟩


end Go.Proofs.Ytbadihbcjdibeaa
