/- Walks: the other side's shared, listen, Listen, Gcd; Listen of the program. -/
import Derived.Test.YtbadihbcjdibeaaWalkL
namespace Go.Proofs.Ytbadihbcjdibeaa
open Go.RowKit

def IsRun (xs ys : List Int) (i j m r : Nat) : Prop := r ≤ m ∧ (∀ k : Nat, k < r → sec xs ((i : Int) + (k : Int)) = sec ys ((j : Int) + (k : Int))) ∧ (r = m ∨ sec xs ((i : Int) + (r : Int)) ≠ sec ys ((j : Int) + (r : Int)))
def Eqs (xs ys : List Int) (i j k : Nat) : Prop := ∀ a : Nat, a < k → sec xs ((i : Int) + (a : Int)) = sec ys ((j : Int) + (a : Int))
theorem eqs_zero (xs ys : List Int) (i j : Nat) : Eqs xs ys i j 0 := fun a h => by omega
theorem eqs_succ {xs ys : List Int} {i j k : Nat} (h : Eqs xs ys i j k) (he : sec xs ((i : Int) + (k : Int)) = sec ys ((j : Int) + (k : Int))) : Eqs xs ys i j (k + 1) := by
  intro a ha
  rcases Nat.lt_or_ge a k with g | g
  · exact h a g
  · obtain rfl : a = k := by omega
    exact he

/-- The longest piece so far: `b` bounds every run of the places done, and some run is as long. -/
def Best (xs ys : List Int) (m n' i0 j0 b : Nat) : Prop :=
  b ≤ m ∧ Shr xs ys b ∧ ∀ i j r : Nat, (i < i0 ∧ j < n' ∨ i = i0 ∧ j < j0) → r ≤ m → Eqs xs ys i j r → r ≤ b
theorem best_zero (xs ys : List Int) (m n' : Nat) : Best xs ys m n' 0 0 0 :=
  ⟨Nat.zero_le _, shr_zero xs ys, fun i j r h => by omega⟩
theorem best_next {xs ys : List Int} {m n' i b : Nat} (h : Best xs ys m n' i n' b) : Best xs ys m n' (i + 1) 0 b :=
  ⟨h.1, h.2.1, fun a j r g => h.2.2 a j r (by omega)⟩
theorem best_step {xs ys : List Int} {m n' i j b r b' : Nat} (h : Best xs ys m n' i j b) (hr : IsRun xs ys i j m r) (e : b' = b ∨ b' = r) (h1 : b ≤ b') (h2 : r ≤ b') : Best xs ys m n' i (j + 1) b' := by
  refine ⟨?_, ?_, ?_⟩
  · rcases e with rfl | rfl
    · exact h.1
    · exact hr.1
  · rcases e with rfl | rfl
    · exact h.2.1
    · exact ⟨i, j, hr.2.1⟩
  · intro a d q g hq hE
    by_cases hc : a = i ∧ d = j
    · obtain ⟨rfl, rfl⟩ := hc
      rcases Nat.lt_or_ge r q with g2 | g2
      · rcases hr.2.2 with g3 | g3
        · omega
        · exact absurd (hE r g2) g3
      · omega
    · have := h.2.2 a d q (by omega) hq hE
      omega
theorem best_done {xs ys : List Int} {m n n' b d : Nat} (hx : n = xs.length) (hy : n' = ys.length) (h1 : 1 ≤ n) (h1' : 1 ≤ n') (hm : m = n + n') (h : Best xs ys m n' n 0 b)
    (q2 : 1 ≤ d) (q3 : d ≤ most (per xs) (per ys)) (q5 : shareP xs ys d = false) (q6 : ∀ k, k < d → shareP xs ys k = true) : b + 1 = d := by
  subst hx; subst hy
  obtain ⟨_, s2, s3, _⟩ := per_spec h1
  obtain ⟨_, t2, t3, _⟩ := per_spec h1'
  obtain ⟨_, _, m3, _, _⟩ := most_bd s2 t2
  have g1 : b < d := by
    rcases Nat.lt_or_ge b d with g | g
    · exact g
    · rw [(shareP_iff h1 h1').2 (shr_mono g h.2.1)] at q5; cases q5
  have g2 : d - 1 ≤ b := by
    obtain ⟨i, j, e⟩ := (shareP_iff h1 h1').1 (q6 (d - 1) (by omega))
    have a1 := Int.emod_lt_of_pos i (show (0 : Int) < xs.length by omega)
    have a2 := Int.emod_nonneg i (show (xs.length : Int) ≠ 0 by omega)
    have b1 := Int.emod_lt_of_pos j (show (0 : Int) < ys.length by omega)
    have b2 := Int.emod_nonneg j (show (ys.length : Int) ≠ 0 by omega)
    refine h.2.2 (i % (xs.length : Int)).toNat (j % (ys.length : Int)).toNat (d - 1) (.inl ⟨by omega, by omega⟩) (by omega) ?_
    intro k hk
    rw [Int.toNat_of_nonneg a2, Int.toNat_of_nonneg b2, sec_congr (Int.emod_add_emod ..), sec_congr (xs := ys) (Int.emod_add_emod ..)]
    exact e k hk
  omega

set_option maxHeartbeats 400000 in
theorem shared_any (A : Option Addr) (n c : Nat) (xs : List Int) (A' : Option Addr) (n' c' : Nat) (ys : List Int) (i j m : Nat) (w : World) (h : Row w A n c xs) (h' : Row w A' n' c' ys) (hn1 : 1 ≤ n) (hn : n ≤ 1000) (hn1' : 1 ≤ n') (hn' : n' ≤ 1000) (hi : i ≤ 1000) (hj : j ≤ 1000) (hm : m ≤ 10000) :
    Calls Try.prog 58 #[.slice A n c, .slice A' n' c', .int .i64 i, .int .i64 j, .int .i64 m] w fun e w' => (∃ r : Nat, IsRun xs ys i j m r ∧ e = .returned (.int .i64 r)) ∧ w = w' := by
  have HR := hide h
  have HR' := hide h'
  clear h h'
  go_enter Try.func58, Try.ntmps58
  go_wp2
  go_loop [11] (fun i' => ∃ k : Nat, k ≤ m ∧ i' = .int .i64 k ∧ Eqs xs ys i j k) (fun i => m - (intOf i).toNat)
  case atStart => exact ⟨0, by omega, rfl, eqs_zero _ _ _ _⟩
  case round =>
    obtain ⟨k, hk, rfl, hE⟩ := hrel
    by_cases hlt : k < m
    · cases hc : (sec xs ((i : Int) + (k : Int)) == sec ys ((j : Int) + (k : Int))) with
      | true =>
        have HC := hide (eqs_succ hE (by simpa using hc))
        clear hE
        go_wp2_with fail
        refine (rat_any _ _ _ xs _ _ HR.out (by omega) (by omega)).mono ?_
        rintro e w' ⟨rfl, rfl⟩
        go_wp2_with fail
        refine (rat_any _ _ _ ys _ _ HR'.out (by omega) (by omega)).mono ?_
        rintro e w' ⟨rfl, rfl⟩
        go_wp2
        go_round
        case rel => exact ⟨k + 1, by omega, by go_num, HC.out⟩
        case measure => simp [intOf]; omega
      | false =>
        have HC := hide (show IsRun xs ys i j m k from ⟨by omega, hE, .inr (by simpa using hc)⟩)
        clear hE
        go_wp2_with fail
        refine (rat_any _ _ _ xs _ _ HR.out (by omega) (by omega)).mono ?_
        rintro e w' ⟨rfl, rfl⟩
        go_wp2_with fail
        refine (rat_any _ _ _ ys _ _ HR'.out (by omega) (by omega)).mono ?_
        rintro e w' ⟨rfl, rfl⟩
        go_wp2
        go_ret
        exact ⟨⟨k, HC.out, rfl⟩, rfl⟩
    · have HC := hide (show IsRun xs ys i j m k from ⟨by omega, hE, .inl (by omega)⟩)
      clear hE
      go_wp2
      go_ret
      exact ⟨⟨k, HC.out, rfl⟩, rfl⟩

set_option maxHeartbeats 1000000 in
theorem rlisten_any (A : Option Addr) (n c : Nat) (xs : List Int) (A' : Option Addr) (n' c' : Nat) (ys : List Int) (w : World) (h : Row w A n c xs) (h' : Row w A' n' c' ys) (hn1 : 1 ≤ n) (hn : n ≤ 24) (hn1' : 1 ≤ n') (hn' : n' ≤ 24) (hne : eqL (nameL xs) (nameL ys) = false) :
    Calls Try.prog 39 #[.slice A n c, .slice A' n' c'] w fun e w' => e = .returned (.int .i64 (((lisO xs ys).getD 0 : Nat) : Int)) ∧ w = w' := by
  have HR := hide h
  have HR' := hide h'
  have l1 := h.length
  have l2 := h'.length
  obtain ⟨d, q1, q2, q3, q4, q5, q6⟩ := lis_spec (xs := xs) (ys := ys) (by omega) (by omega) (by omega) (by omega) hne
  have HD := hide (fun b (hB : Best xs ys (n + n') n' n 0 b) => best_done l1.symm l2.symm hn1 hn1' rfl hB q2 q3 q5 q6)
  have HQ1 := hide q1
  clear h h' l1 l2 q1 q2 q3 q4 q5 q6 hne
  go_enter Try.func39, Try.ntmps39
  go_wp2
  go_loop [5, 6] (fun s i => ∃ a b : Nat, a ≤ n ∧ b ≤ n + n' ∧ i = .int .i64 a ∧ s = .int .i64 b ∧ Best xs ys (n + n') n' a 0 b) (fun _ i => n - (intOf i).toNat)
  case atStart => exact ⟨0, 0, by omega, by omega, rfl, rfl, best_zero _ _ _ _⟩
  case round =>
    obtain ⟨a, b, ha, hb, rfl, rfl, hB⟩ := hrel
    by_cases hlt : a < n
    · go_wp2
      go_loop [5, 7] (fun s i => ∃ a' b : Nat, a' ≤ n' ∧ b ≤ n + n' ∧ i = .int .i64 a' ∧ s = .int .i64 b ∧ Best xs ys (n + n') n' a a' b) (fun _ i => n' - (intOf i).toNat)
      case atStart => exact ⟨0, b, by omega, hb, rfl, rfl, hB⟩
      case round =>
        obtain ⟨a', b, ha', hb, rfl, rfl, hB⟩ := hrel
        by_cases hlt' : a' < n'
        · go_wp2_with fail
          rw [show ((n : Int) + (n' : Int)) = ((n + n' : Nat) : Int) by omega]
          refine (shared_any _ _ _ xs _ _ _ ys a a' (n + n') _ HR.out HR'.out (by omega) (by omega) (by omega) (by omega) (by omega) (by omega) (by omega)).mono ?_
          rintro e w' ⟨⟨r, hr, rfl⟩, rfl⟩
          have hrm := hr.1
          by_cases hbr : b < r
          · have HB := hide (best_step hB hr (.inr rfl) (by omega) (by omega))
            clear hB hr
            go_wp2
            go_round
            case rel => exact ⟨a' + 1, r, by omega, by omega, by go_num, by go_num, HB.out⟩
            case measure => simp [intOf]; omega
          · have HB := hide (best_step hB hr (.inl rfl) (by omega) (by omega))
            clear hB hr
            go_wp2
            go_round
            case rel => exact ⟨a' + 1, b, by omega, by omega, by go_num, by go_num, HB.out⟩
            case measure => simp [intOf]; omega
        · obtain rfl : a' = n' := by omega
          have HB := hide (best_next hB)
          clear hB
          go_wp2
          go_round
          case rel => exact ⟨a + 1, b, by omega, by omega, by go_num, by go_num, HB.out⟩
          case measure => simp [intOf]; omega
    · obtain rfl : a = n := by omega
      have HB := hide (HD.out b hB)
      clear hB HD
      go_wp2
      go_ret
      exact ⟨ret_i64 (by rw [HQ1.out, ← HB.out]; simp), rfl⟩

set_option maxHeartbeats 400000 in
theorem rGcd_any (p q : Nat) (w : World) (hp : p ≤ 100000) (hq : q ≤ 100000) :
    Calls Try.prog 22 #[.int .i64 p, .int .i64 q] w fun e w' => e = .returned (.int .i64 (Nat.gcd p q)) ∧ Below w.heap.size w w' := by
  go_enter Try.func22, Try.ntmps22
  go_wp2
  go_loopw [0, 1] (fun s t wr => ∃ a b : Nat, a ≤ 100000 ∧ b ≤ 100000 ∧ s = .int .i64 a ∧ t = .int .i64 b ∧ Nat.gcd a b = Nat.gcd p q ∧ Below w.heap.size w wr) (fun _ t _ => (intOf t).toNat)
  case atStart => exact ⟨p, q, hp, hq, rfl, rfl, rfl, Below.refl _ _⟩
  case round =>
    obtain ⟨a, b, ha, hb, rfl, rfl, hg, hbel⟩ := hrel
    have HG := hide hg
    clear hg
    by_cases hz : b = 0
    · subst hz
      go_wp2
      go_ret
      exact ⟨ret_i64 (by rw [← HG.out, Nat.gcd_zero_right]), hbel⟩
    · have hb1 : 1 ≤ b := by omega
      have hbz : (((b : Int)) == 0) = false := by simp; omega
      have hl := Nat.mod_lt a hb1
      go_wp2
      go_region
      go_wp2
      go_roundw
      case rel => exact ⟨b, a % b, by omega, by omega, by go_num, by rw [Int.natCast_emod], by rw [← HG.out, Nat.gcd_comm b, ← Nat.gcd_rec, Nat.gcd_comm], hbel.drew⟩
      case measure => rw [← Int.natCast_emod]; simp [intOf]; omega

set_option maxHeartbeats 400000 in
theorem Listen_any (A : Option Addr) (n c : Nat) (xs : List Int) (A' : Option Addr) (n' c' : Nat) (ys : List Int) (w : World) (h : Row w A n c xs) (h' : Row w A' n' c' ys) (hn : n ≤ 1000) (hn' : n' ≤ 1000) :
    Calls Try.prog 20 #[.slice A n c, .slice A' n' c'] w fun e w' => e = .returned (.tuple #[.int .i64 (okv (err2 xs ys) (((lisO xs ys).getD 0 : Nat) : Int)), .bool (okb (err2 xs ys) (lisO xs ys).isSome), .int .i64 (err2 xs ys)]) ∧ Below w.heap.size w w' := by
  have HR := hide h
  have HR' := hide h'
  have l1 := h.length
  have l2 := h'.length
  by_cases he : err2 xs ys = 0
  · have HE := hide he
    obtain ⟨e1, e2⟩ := err2_zero he
    have k1 := errOf_zero e1
    have k2 := errOf_zero e2
    have j1 : 1 ≤ n := by omega
    have j2 : 1 ≤ n' := by omega
    have j3 : n ≤ 24 := by omega
    have j4 : n' ≤ 24 := by omega
    clear h h' he e1 e2 l1 l2 k1 k2
    go_enter Try.func20, Try.ntmps20
    go_wp2_with fail
    refine (validateBoth_any _ _ _ xs _ _ _ ys _ HR.out HR'.out (by omega) (by omega)).mono ?_
    rintro e w' ⟨rfl, rfl⟩
    rw [HE.out]
    go_wp2_with fail
    refine (listen_any _ _ _ xs _ _ _ ys _ HR.out HR'.out (by omega) (by omega) (by omega) (by omega)).mono ?_
    rintro e w1 ⟨rfl, hb⟩
    go_wp2
    go_ret3
    exact ⟨ret3_ibi (okv_zero HE.out _).symm (okb_zero HE.out _).symm HE.out.symm, hb⟩
  · have he' : (err2 xs ys != 0) = true := by simp [he]
    have HE := hide he
    clear h h' l1 l2 he
    go_enter Try.func20, Try.ntmps20
    go_wp2_with fail
    refine (validateBoth_any _ _ _ xs _ _ _ ys _ HR.out HR'.out (by omega) (by omega)).mono ?_
    rintro e w' ⟨rfl, rfl⟩
    go_wp2
    go_ret3
    exact ⟨ret3_ibi (okv_ne HE.out _).symm (okb_ne HE.out _).symm rfl, Below.refl _ _⟩

end Go.Proofs.Ytbadihbcjdibeaa
