/- Walks: math/bits.Mul at small numbers, slices.Repeat. -/
import Derived.Test.YtbadihbcjdibeaaLawTurns
import Derived.Lib.Mul64
import Derived.Laws.Bits64b
import Derived.Laws.CopyOwn
import Derived.Deep.RegionLaw
import Derived.StillTailTactics
namespace Go.Proofs.Ytbadihbcjdibeaa
open Go.RowKit Go.Lib

namespace MulSmall
theorem maskN (a : Nat) (ha : a < 18446744073709551616) : bits .and .u64 (a : Int) 4294967295 = ((a % 4294967296 : Nat) : Int) := by
  have h := bits_and_u64_nat a 4294967295 ha (by omega)
  have e : a &&& 4294967295 = a % 4294967296 := Nat.and_two_pow_sub_one_eq_mod a 32
  rw [e] at h
  exact h
theorem divN (a : Nat) : (a : Int) / 4294967296 = ((a / 4294967296 : Nat) : Int) := by omega
theorem mulN (a b : Nat) : (a : Int) * (b : Int) = ((a * b : Nat) : Int) := (Int.natCast_mul a b).symm
theorem addN (a b : Nat) : (a : Int) + (b : Int) = ((a + b : Nat) : Int) := (Int.natCast_add a b).symm
theorem wrapN (a : Nat) (ha : a < 18446744073709551616) : IntKind.u64.wrap (a : Int) = (a : Int) := by rw [IntKind.wrap_u64]; omega
theorem wrapM (a : Nat) : IntKind.u64.wrap (a : Int) = ((a % 18446744073709551616 : Nat) : Int) := by rw [IntKind.wrap_u64]; omega
end MulSmall
open MulSmall in
set_option maxHeartbeats 1000000 in
theorem Mul64_any (x y : Nat) (hx : x < 18446744073709551616) (hy : y < 18446744073709551616) (w : World) :
    Calls Try.prog 66 #[.int .u64 x, .int .u64 y] w fun e w' => e = .returned (.tuple #[.int .u64 ((x * y / 18446744073709551616 : Nat) : Int), .int .u64 ((x * y % 18446744073709551616 : Nat) : Int)]) ∧ w' = w := by
  obtain ⟨bd, bt, bw, hhi⟩ := Lib.mul64_hi x y hx hy
  have ba := Lib.half_mul_le (a := x / 4294967296) (b := y / 4294967296) (by omega) (by omega)
  have bb := Lib.half_mul_le (a := x / 4294967296) (b := y % 4294967296) (by omega) (by omega)
  have bc := Lib.half_mul_le (a := x % 4294967296) (b := y / 4294967296) (by omega) (by omega)
  have ba' : x / 4294967296 * (y / 4294967296) < 18446744073709551616 := by omega
  have bb' : x / 4294967296 * (y % 4294967296) < 18446744073709551616 := by omega
  have bc' : x % 4294967296 * (y / 4294967296) < 18446744073709551616 := by omega
  have bh1 : x / 4294967296 * (y / 4294967296) + (x / 4294967296 * (y % 4294967296) + x % 4294967296 * (y % 4294967296) / 4294967296) / 4294967296 < 18446744073709551616 := by omega
  have bh : x / 4294967296 * (y / 4294967296) + (x / 4294967296 * (y % 4294967296) + x % 4294967296 * (y % 4294967296) / 4294967296) / 4294967296 + ((x / 4294967296 * (y % 4294967296) + x % 4294967296 * (y % 4294967296) / 4294967296) % 4294967296 + x % 4294967296 * (y / 4294967296)) / 4294967296 < 18446744073709551616 := by omega
  go_enter Try.func66, Try.ntmps66
  go_wp2
  simp only [maskN x hx, maskN y hy, divN, mulN, addN, wrapN _ bd, wrapN _ bb', wrapN _ bt, maskN _ bt, wrapN _ bc', wrapN _ bw, wrapN _ ba', wrapN _ bh1, wrapN _ bh, wrapM (x * y)]
  rw [hhi]
  go_ret2
  exact ⟨rfl, rfl⟩

set_option maxHeartbeats 1000000 in
theorem Mul_small (x y : Nat) (h : x * y ≤ 1000000) (hx : x ≤ 1000000) (hy : y ≤ 1000000) (w : World) :
    Calls Try.prog 60 #[.int .u64 x, .int .u64 y] w fun e w' => e = .returned (.tuple #[.int .u64 0, .int .u64 ((x * y : Nat) : Int)]) ∧ w = w' := by
  have h1 : x * y / 18446744073709551616 = 0 := Nat.div_eq_of_lt (by omega)
  have h2 : x * y % 18446744073709551616 = x * y := Nat.mod_eq_of_lt (by omega)
  have c := Mul64_any x y (by omega) (by omega) w
  rw [h1, h2] at c
  have C := hide c
  have HX := hide hx
  have HY := hide hy
  clear c h1 h2 h hx hy
  generalize x * y = z at *
  go_enter Try.func60, Try.ntmps60
  go_wp2_with (go_at_call 66; refine C.out.mono ?_; rintro e w' ⟨rfl, rfl⟩)
  go_ret2
  exact ⟨rfl, rfl⟩

theorem size_int : (Try.prog.info? 3).map (·.size) = some 1 := by kernel_rfl
theorem Own.full {w : World} {B n g : Nat} {xs : List Int} (h : Own w B (some ⟨g, 0, none⟩) n n xs) : w.heap[g]? = some (.cells (ints xs).toArray 3 (0, 0)) := by
  rcases h.2 with ⟨h', _⟩ | ⟨g', cap, cur, h', _, hg, _, _, hs, ht⟩
  · simp at h'
  · simp only [Value.slice.injEq, Option.some.injEq, Addr.mk.injEq, and_true, true_and] at h'
    obtain ⟨rfl, rfl⟩ := h'
    rw [List.take_of_length_le (by rw [Array.length_toList]; omega)] at ht
    rw [hg, ← ht]
theorem Own.of_full {w : World} {B n g : Nat} {xs : List Int} (hg : w.heap[g]? = some (.cells (ints xs).toArray 3 (0, 0))) (hB : B ≤ g) (hn : n ≤ maxLen) (hl : xs.length = n) : Own w B (some ⟨g, 0, none⟩) n n xs := by
  refine ⟨by rw [ints_length]; omega, .inr ⟨g, n, (ints xs).toArray, rfl, hB, hg, Nat.le_refl _, hn, by simp [ints, hl], ?_⟩⟩
  rw [List.take_of_length_le (by simp [ints, hl])]
theorem splice_ints (xs ys : List Int) (off : Nat) : splice (ints xs) off (ints ys) = ints (xs.take off ++ ys ++ xs.drop (off + ys.length)) := by
  unfold splice
  simp [ints]
theorem piece_add {xs : List Int} (i : Int) (k m : Nat) : pieceL xs i (k + m) = pieceL xs i k ++ pieceL xs (i + (k : Int)) m := by
  induction m with
  | zero => simp [pieceL]
  | succ m ih =>
    rw [← Nat.add_assoc, pieceL_succ, ih, pieceL_succ, List.append_assoc]
    congr 3
    congr 1; omega
theorem piece_dvd {xs : List Int} {k : Nat} (h : xs.length ∣ k) (m : Nat) : pieceL xs (k : Int) m = pieceL xs 0 m := by
  refine piece_congr m fun j => sec_congr ?_
  obtain ⟨q, rfl⟩ := h
  rw [Int.zero_add, Int.natCast_mul, Int.add_comm, Int.add_mul_emod_self_left]
theorem fill_copy {xs : List Int} {N k m : Nat} (hd : xs.length ∣ k) (hk : k + m ≤ N) :
    (fillTo xs 0 N k).take k ++ pieceL xs 0 m ++ (fillTo xs 0 N k).drop (k + m) = fillTo xs 0 N (k + m) := by
  have hl := pieceL_length xs 0 k
  unfold fillTo
  rw [List.take_left' hl, piece_add, Int.zero_add, piece_dvd hd]
  congr 1
  rw [List.drop_append, hl, List.drop_of_length_le (by omega), List.nil_append, List.drop_replicate]
  congr 1; omega
theorem fillTo_length (xs : List Int) {N k : Nat} (h : k ≤ N) : (fillTo xs 0 N k).length = N := by
  unfold fillTo; rw [List.length_append, pieceL_length, List.length_replicate]; omega
theorem fillTo_getD {xs : List Int} {N k j : Nat} (h : j < k) : (fillTo xs 0 N k).getD j 0 = sec xs (j : Int) := by
  unfold fillTo
  simp only [List.getD_eq_getElem?_getD]
  rw [List.getElem?_append_left (by rw [pieceL_length]; exact h)]
  have := pieceL_getD (xs := xs) (i := 0) h
  rw [Int.zero_add] at this
  rwa [List.getD_eq_getElem?_getD] at this

theorem Row.src {w : World} {ad : Addr} {n c : Nat} {xs : List Int} (h : Row w (some ad) n c xs) : ∀ j v, (ints xs)[j]? = some v → w.cell? (ad.add j) = some v := by
  intro j u hu
  obtain ⟨b, off, r1, rcap, rmax, r2, r3, r4⟩ := h
  have hj : j < xs.length := by
    have := (List.getElem?_eq_some_iff.1 hu).1
    rwa [ints_length] at this
  have e := r2 (by omega)
  injection e with e
  subst e
  rw [ints_get hj] at hu
  have := r4 j (by omega)
  rw [hu] at this
  unfold Addr.add
  split
  · rename_i h0; subst h0; exact this
  · exact this
theorem own_src {w : World} {B g N k m : Nat} {xs : List Int} (h : Own w B (some ⟨g, 0, none⟩) N N (fillTo xs 0 N k)) (hm : m ≤ k) : ∀ j v, (ints (pieceL xs 0 m))[j]? = some v → w.cell? ((⟨g, 0, none⟩ : Addr).add j) = some v := by
  intro j u hu
  have hj : j < m := by
    have := (List.getElem?_eq_some_iff.1 hu).1
    rwa [ints_length, pieceL_length] at this
  have hN : (fillTo xs 0 N k).length = N := h.len
  have hkN : j < N := by
    have : (fillTo xs 0 N k).length = k + (N - k) := by unfold fillTo; rw [List.length_append, pieceL_length, List.length_replicate]
    omega
  rw [ints_get (by rw [pieceL_length]; exact hj)] at hu
  have := h.cell hkN
  rw [fillTo_getD (by omega)] at this
  rw [pieceL_getD hj, Int.zero_add] at hu
  rw [hu] at this
  unfold Addr.add
  split
  · rename_i h0; subst h0; exact this
  · simpa using this
theorem goInt_ints (xs : List Int) : goInt (ints xs).length = Value.int .i64 (xs.length : Int) := by rw [ints_length]; rfl
theorem copy_n {xs : List Int} {n N : Nat} (h1 : xs.length = n) (h2 : n ≤ N) : (ints xs).length = Nat.min n N := by
  rw [ints_length, h1]; exact (Nat.min_eq_left h2).symm
theorem copy_fit {xs : List Int} {n N : Nat} (h1 : xs.length = n) (h2 : n ≤ N) : 0 + (ints xs).length ≤ (ints (List.replicate N 0)).length := by
  rw [ints_length, ints_length, List.length_replicate]; omega
theorem copy_first {xs : List Int} {n N : Nat} (_h : n ≤ N) (hl : xs.length = n) : (List.replicate N 0).take 0 ++ xs ++ (List.replicate N 0).drop (0 + xs.length) = fillTo xs 0 N n := by
  unfold fillTo
  rw [List.take_zero, List.nil_append, Nat.zero_add, List.drop_replicate, hl, ← take_eq_piece (by omega), List.take_of_length_le (by omega)]

/-- The copy of what stands to what does not: as much as stands, or as there is room for. -/
theorem copy_prefix {w w0 : World} {B g N k : Nat} {xs : List Int} (hown : Own w B (some ⟨g, 0, none⟩) N N (fillTo xs 0 N k)) (hBg : B ≤ g) (hk1 : 1 ≤ k) (hlt : k < N) (hd : xs.length ∣ k) (hb : Below B w0 w) :
    ∃ (m : Nat) (w4 : World), 1 ≤ m ∧ k + m ≤ N ∧ (xs.length ∣ k + m ∨ k + m = N) ∧
      (Builtin.copy_ #[23, 23] 3 #[.slice (some ⟨g, k, none⟩) (N - k) (N - k), .slice (some ⟨g, 0, none⟩) k N]).run Try.prog w.drew = .ok (.int .i64 (m : Int)) w4 ∧
      Own w4 B (some ⟨g, 0, none⟩) N N (fillTo xs 0 N (k + m)) ∧ Below B w0 w4 := by
  have hN : N ≤ maxLen := by
    rcases hown.form with ⟨h0, _⟩ | ⟨_, _, _, _, _, h0⟩
    · cases h0
    · exact h0
  have hfull := hown.full
  have hl : (ints (pieceL xs 0 (min k (N - k)))).length = min k (N - k) := by rw [ints_length, pieceL_length]
  have hrun := run_copy_row (P := Try.prog) w.drew 23 23 3 3 g k (N - k) (N - k) ⟨g, 0, none⟩ k N (ints (fillTo xs 0 N k)).toArray 3 (ints (pieceL xs 0 (min k (N - k))))
    Try.underlying23 size_int hfull (by rw [hl]) (own_src hown (by omega)) (by rw [hl, List.size_toArray, ints_length, fillTo_length xs (by omega)]; omega) (ints_one _)
  refine ⟨min k (N - k), _, by omega, by omega, ?_, by rw [hrun, goInt_ints, pieceL_length], ?_, below_setRow hb.drew hBg _⟩
  · by_cases hk2 : k ≤ N - k
    · left; rw [Nat.min_eq_left hk2]; exact Nat.dvd_add hd hd
    · right; omega
  · refine Own.of_full ?_ hBg hN (fillTo_length xs (by omega))
    rw [setRow_heap w.drew g _ _ 3 _ hfull]
    have e := splice_ints (fillTo xs 0 N k) (pieceL xs 0 (min k (N - k))) k
    rw [pieceL_length, fill_copy hd (by omega)] at e
    unfold splice at e
    rw [← e, List.append_assoc]

set_option maxHeartbeats 1000000 in
theorem slRepeat_any (A : Option Addr) (n c : Nat) (xs : List Int) (t : Nat) (w : World) (h : Row w A n c xs) (hn1 : 1 ≤ n) (hn : n ≤ 1000) (ht1 : 1 ≤ t) (ht : t ≤ 1000) :
    Calls Try.prog 42 #[.slice A n c, .int .i64 t] w fun e w' => ∃ A' c', e = .returned (.slice A' (n * t) c') ∧ Own w' w.heap.size A' (n * t) c' (pieceL xs 0 (n * t)) ∧ Below w.heap.size w w' := by
  have HR := hide h
  have HL := hide h.length
  obtain ⟨b, off, q1, hcap, hmax, q2, q3, q4⟩ := h
  obtain rfl := q2 (by omega)
  have q3' := q3 (by omega)
  have H4 := hide q4
  have hm : n * t ≤ 1000000 := Nat.mul_le_mul hn ht
  have hm2 : n ≤ n * t := Nat.le_mul_of_pos_right n ht1
  have HD := hide (show xs.length ∣ n * t by rw [q1]; exact Nat.dvd_mul_right n t)
  have HM := hide (fun W => Mul_small n t hm (by omega) (by omega) W)
  clear q1 q2 q3 q4
  generalize n * t = N at *
  go_enter Try.func42, Try.ntmps42
  go_wp2_with (first | (go_at_call 60; refine (HM.out _).mono ?_; rintro e w' ⟨rfl, rfl⟩) | (at_make; refine wpList_mk _ rfl (.tmp 29) (.tmp 29) rfl w.heap.size N rfl rfl (by omega) (Nat.le_refl _) ?_; intro w1 hown1 hb1 hsz1) | (with_reducible refine wpList_copy_splice rfl (.tmp 31) (.tmp 32) 23 23 rfl 3 Try.underlying23 size_int (some ⟨w.heap.size, 0, none⟩) (some ⟨b, off, none⟩) N N n c rfl rfl w.heap.size 0 (ints (List.replicate N 0)) 3 hown1.full (ints xs) (copy_n HL.out hm2) (fun _ => ⟨rfl, _, rfl, (HR.out.below hb1 (Nat.le_refl _)).src⟩) (copy_fit HL.out hm2) (ints_one xs) w.heap.size w hb1 (Nat.le_refl _) ?_; intro w2 hg2 hb2; rw [goInt_ints, HL.out]))
  have hg3 := hg2.out
  rw [splice_ints, copy_first hm2 HL.out] at hg3
  have hown2 := Own.of_full (B := w.heap.size) (n := N) hg3 (Nat.le_refl _) (by unfold maxLen; omega) (fillTo_length xs hm2)
  clear hg2 hg3 hown1 hb1 hsz1
  go_loopw [8] (fun i wr => ∃ k : Nat, n ≤ k ∧ k ≤ N ∧ (xs.length ∣ k ∨ k = N) ∧ i = .int .i64 k ∧ Own wr w.heap.size (some ⟨w.heap.size, 0, none⟩) N N (fillTo xs 0 N k) ∧ Below w.heap.size w wr) (fun i _ => N - (intOf i).toNat)
  case atStart => exact ⟨n, Nat.le_refl _, hm2, by left; rw [HL.out]; exact Nat.dvd_refl n, rfl, hown2, hb2⟩
  case round =>
    obtain ⟨k, hk1, hk, hdk, rfl, hown, hb⟩ := hrel
    have HDK := hide hdk
    clear hdk
    by_cases hlt : k < N
    · have hi1 : (k : Int) ≤ (N : Int) := by omega
      have hi2 : (k : Int) < (N : Int) := by omega
      obtain ⟨m, w4, hm1, hmN, hdm, hrun, hown4, hb4⟩ := copy_prefix (B := w.heap.size) (w0 := w) hown (Nat.le_refl _) (by omega) hlt (HDK.out.resolve_right (by omega)) hb
      have hne : ¬ N = k := by omega
      have HDM := hide hdm
      clear hdm
      go_wp2
      go_region
      go_wp2
      go_roundw
      case rel => exact ⟨k + m, by omega, by omega, HDM.out, by go_num, hown4, hb4⟩
      case measure => simp [intOf]; omega
    · obtain rfl : k = N := by omega
      go_wp2
      go_ret
      exact ⟨_, _, rfl, by rw [← fillTo_all]; exact hown, hb⟩

end Go.Proofs.Ytbadihbcjdibeaa
