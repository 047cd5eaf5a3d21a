/- Claimed delays: their error, how many cliffs they are of; all cliffs, the program's. -/
import Derived.Test.YtllfkhcpdgdmnaaSeb
namespace Go.Proofs.Ytllfkhcpdgdmnaa
open Go.RowKit

def dokB (xs : List Int) (i : Nat) : Bool := decide (1 ≤ xs.getD i 0) && decide (xs.getD i 0 ≤ 60) && (decide (i = 0) || decide (xs.getD (i - 1) 0 ≤ xs.getD i 0))
theorem dokB_iff {xs : List Int} {i : Nat} : dokB xs i = true ↔ (1 ≤ xs.getD i 0 ∧ xs.getD i 0 ≤ 60 ∧ (i = 0 ∨ xs.getD (i - 1) 0 ≤ xs.getD i 0)) := by
  simp [dokB, and_assoc]
def DokTo (xs : List Int) (k : Nat) : Prop := ∀ i, i < k → dokB xs i = true
theorem dokTo_zero (xs : List Int) : DokTo xs 0 := fun i h => by omega
theorem dokTo_succ {xs : List Int} {k : Nat} (h : DokTo xs k) (h1 : dokB xs k = true) : DokTo xs (k + 1) := by
  intro i hi
  by_cases e : i = k
  · subst e; exact h1
  · exact h i (by omega)
/-- The error of delays. -/
def errD (xs : List Int) : Int := if 15 < xs.length then 3 else if cwV xs.length ≠ 0 ∧ (List.range xs.length).all (dokB xs) then 0 else 1
theorem errD_large {xs : List Int} (h : 15 < xs.length) : errD xs = 3 := by unfold errD; rw [if_pos h]
theorem errD_fine {xs : List Int} (h1 : xs.length ≤ 15) (h2 : cwV xs.length ≠ 0) (h : DokTo xs xs.length) : errD xs = 0 := by
  unfold errD
  rw [if_neg (by omega), if_pos]
  exact ⟨h2, by rw [List.all_eq_true]; intro i hi; exact h i (List.mem_range.1 hi)⟩
theorem errD_count {xs : List Int} (h1 : xs.length ≤ 15) (h : cwV xs.length = 0) : errD xs = 1 := by
  unfold errD
  rw [if_neg (by omega), if_neg]
  rintro ⟨hh, _⟩
  exact hh h
theorem errD_arg {xs : List Int} (h1 : xs.length ≤ 15) {k : Nat} (hk : k < xs.length) (h : dokB xs k = false) : errD xs = 1 := by
  unfold errD
  rw [if_neg (by omega), if_neg]
  rintro ⟨_, hh⟩
  rw [List.all_eq_true] at hh
  rw [hh k (List.mem_range.2 hk)] at h
  cases h
theorem errD_ok {xs : List Int} : errD xs = 0 ↔ (xs.length ≤ 15 ∧ cwV xs.length ≠ 0 ∧ DokTo xs xs.length) := by
  constructor
  · intro h
    unfold errD at h
    split at h
    · cases h
    · split at h
      · rename_i h1 h2
        exact ⟨by omega, h2.1, fun i hi => (List.all_eq_true.1 h2.2) i (List.mem_range.2 hi)⟩
      · cases h
  · rintro ⟨h1, h2, h3⟩
    exact errD_fine h1 h2 h3
def prevD (xs : List Int) (k : Nat) : Int := if k = 0 then 1 else xs.getD (k - 1) 0
theorem prevD_ge {xs : List Int} {k : Nat} (h : DokTo xs k) : 1 ≤ prevD xs k ∧ prevD xs k ≤ 60 := by
  unfold prevD
  split
  · omega
  · have := dokB_iff.1 (h (k - 1) (by omega))
    omega
theorem dokB_step {xs : List Int} {k : Nat} (h : DokTo xs k) (h1 : prevD xs k ≤ xs.getD k 0) (h2 : xs.getD k 0 ≤ 60) : dokB xs k = true := by
  have h3 := prevD_ge h
  refine dokB_iff.2 ⟨by omega, h2, ?_⟩
  unfold prevD at h1
  split at h1
  · exact .inl (by assumption)
  · exact .inr h1
theorem dokB_fail {xs : List Int} {k : Nat} (h : DokTo xs k) (h1 : xs.getD k 0 < prevD xs k ∨ 60 < xs.getD k 0) : dokB xs k = false := by
  rw [← Bool.not_eq_true]
  intro hh
  have h2 := dokB_iff.1 hh
  unfold prevD at h1
  split at h1
  · omega
  · omega
theorem prevD_succ (xs : List Int) (k : Nat) : prevD xs (k + 1) = xs.getD k 0 := by simp [prevD]

theorem cwV_at {m : Nat} (n : Nat) (h1 : 1 ≤ n) (h6 : n ≤ 6) (h : n * (n - 1) / 2 = m) : cwV m = n := by
  have : n = 1 ∨ n = 2 ∨ n = 3 ∨ n = 4 ∨ n = 5 ∨ n = 6 := by omega
  rcases this with rfl | rfl | rfl | rfl | rfl | rfl <;> (subst h; rfl)
theorem cwV_no {m : Nat} (h : ∀ j, 1 ≤ j → j ≤ 6 → j * (j - 1) / 2 ≠ m) : cwV m = 0 := by
  have h1 := h 1 (by omega) (by omega)
  have h2 := h 2 (by omega) (by omega)
  have h3 := h 3 (by omega) (by omega)
  have h4 := h 4 (by omega) (by omega)
  have h5 := h 5 (by omega) (by omega)
  have h6 := h 6 (by omega) (by omega)
  simp at h1 h2 h3 h4 h5 h6
  unfold cwV
  split
  · omega
  · simp [Ne.symm h2, Ne.symm h3, Ne.symm h4, Ne.symm h5, Ne.symm h6]
theorem cwV_le (m : Nat) : cwV m ≤ 6 := by
  unfold cwV
  repeat' split
  all_goals omega
set_option maxHeartbeats 1000000 in
theorem cliffsWith_any (m : Nat) (hm : m ≤ 100000) (w : World) :
    Calls Try.prog 73 #[.int .i64 m] w fun e w' => e = .returned (.int .i64 (cwV m)) ∧ w = w' := by
  go_enter Try.func73, Try.ntmps73
  go_wp2_with fail
  go_loopw [3] (fun i wr => ∃ n : Nat, 1 ≤ n ∧ n ≤ 7 ∧ i = .int .i64 n ∧ wr = w ∧ Hid (∀ j, 1 ≤ j → j < n → j * (j - 1) / 2 ≠ m)) (fun i _ => 7 - (intOf i).toNat)
  case atStart => exact ⟨1, by omega, by omega, rfl, rfl, hide (fun j h1 h2 => by omega)⟩
  case round =>
    obtain ⟨n, hn1, hn7, rfl, rfl, HS⟩ := hrel
    by_cases hlt : n ≤ 6
    · have hi : (n : Int) ≤ 6 := by omega
      by_cases he : n * (n - 1) / 2 = m
      · have HR := hide (cwV_at n hn1 hlt he)
        have : n = 1 ∨ n = 2 ∨ n = 3 ∨ n = 4 ∨ n = 5 ∨ n = 6 := by omega
        clear hi HS
        rcases this with rfl | rfl | rfl | rfl | rfl | rfl <;> (simp at he; subst he; go_wp2_with fail; go_ret; exact ⟨ret_i64 (by rw [HR.out]), rfl⟩)
      · have HN := hide (fun j (h1 : 1 ≤ j) (h2 : j < n + 1) => (show j * (j - 1) / 2 ≠ m from by
          by_cases e : j = n
          · subst e; exact he
          · exact HS.out j h1 (by omega)))
        have : n = 1 ∨ n = 2 ∨ n = 3 ∨ n = 4 ∨ n = 5 ∨ n = 6 := by omega
        clear hi HS
        rcases this with rfl | rfl | rfl | rfl | rfl | rfl
        · have hb : ((0 : Int) == (m : Int)) = false := by rw [beq_eq_false_iff_ne]; simp at he; omega
          clear he
          go_wp2_with fail
          go_roundw
          case rel => exact ⟨2, by omega, by omega, by go_num, by trivial, HN⟩
          case measure => decide
        · have hb : ((1 : Int) == (m : Int)) = false := by rw [beq_eq_false_iff_ne]; simp at he; omega
          clear he
          go_wp2_with fail
          go_roundw
          case rel => exact ⟨3, by omega, by omega, by go_num, by trivial, HN⟩
          case measure => decide
        · have hb : ((3 : Int) == (m : Int)) = false := by rw [beq_eq_false_iff_ne]; simp at he; omega
          clear he
          go_wp2_with fail
          go_roundw
          case rel => exact ⟨4, by omega, by omega, by go_num, by trivial, HN⟩
          case measure => decide
        · have hb : ((6 : Int) == (m : Int)) = false := by rw [beq_eq_false_iff_ne]; simp at he; omega
          clear he
          go_wp2_with fail
          go_roundw
          case rel => exact ⟨5, by omega, by omega, by go_num, by trivial, HN⟩
          case measure => decide
        · have hb : ((10 : Int) == (m : Int)) = false := by rw [beq_eq_false_iff_ne]; simp at he; omega
          clear he
          go_wp2_with fail
          go_roundw
          case rel => exact ⟨6, by omega, by omega, by go_num, by trivial, HN⟩
          case measure => decide
        · have hb : ((15 : Int) == (m : Int)) = false := by rw [beq_eq_false_iff_ne]; simp at he; omega
          clear he
          go_wp2_with fail
          go_roundw
          case rel => exact ⟨7, by omega, by omega, by go_num, by trivial, HN⟩
          case measure => decide
    · obtain rfl : n = 7 := by omega
      have HN := hide (cwV_no (m := m) (fun j h1 h2 => HS.out j h1 (by omega)))
      clear HS
      go_wp2_with fail
      go_ret
      exact ⟨ret_i64 (by rw [HN.out]; rfl), rfl⟩
set_option maxHeartbeats 1000000 in
theorem cliffs_any (m : Nat) (hm : m ≤ 100000) (w : World) :
    Calls Try.prog 78 #[.int .i64 m] w fun e w' => e = .returned (.int .i64 (cwV m)) ∧ w = w' := by
  go_enter Try.func78, Try.ntmps78
  go_wp2_with fail
  go_loopw [3] (fun i wr => ∃ n : Nat, 1 ≤ n ∧ n ≤ 7 ∧ i = .int .i64 n ∧ wr = w ∧ Hid (∀ j, 1 ≤ j → j < n → j * (j - 1) / 2 ≠ m)) (fun i _ => 7 - (intOf i).toNat)
  case atStart => exact ⟨1, by omega, by omega, rfl, rfl, hide (fun j h1 h2 => by omega)⟩
  case round =>
    obtain ⟨n, hn1, hn7, rfl, rfl, HS⟩ := hrel
    by_cases hlt : n ≤ 6
    · have hi : (n : Int) ≤ 6 := by omega
      by_cases he : n * (n - 1) / 2 = m
      · have HR := hide (cwV_at n hn1 hlt he)
        have : n = 1 ∨ n = 2 ∨ n = 3 ∨ n = 4 ∨ n = 5 ∨ n = 6 := by omega
        clear hi HS
        rcases this with rfl | rfl | rfl | rfl | rfl | rfl <;> (simp at he; subst he; go_wp2_with fail; go_ret; exact ⟨ret_i64 (by rw [HR.out]), rfl⟩)
      · have HN := hide (fun j (h1 : 1 ≤ j) (h2 : j < n + 1) => (show j * (j - 1) / 2 ≠ m from by
          by_cases e : j = n
          · subst e; exact he
          · exact HS.out j h1 (by omega)))
        have : n = 1 ∨ n = 2 ∨ n = 3 ∨ n = 4 ∨ n = 5 ∨ n = 6 := by omega
        clear hi HS
        rcases this with rfl | rfl | rfl | rfl | rfl | rfl
        · have hb : ((0 : Int) == (m : Int)) = false := by rw [beq_eq_false_iff_ne]; simp at he; omega
          clear he
          go_wp2_with fail
          go_roundw
          case rel => exact ⟨2, by omega, by omega, by go_num, by trivial, HN⟩
          case measure => decide
        · have hb : ((1 : Int) == (m : Int)) = false := by rw [beq_eq_false_iff_ne]; simp at he; omega
          clear he
          go_wp2_with fail
          go_roundw
          case rel => exact ⟨3, by omega, by omega, by go_num, by trivial, HN⟩
          case measure => decide
        · have hb : ((3 : Int) == (m : Int)) = false := by rw [beq_eq_false_iff_ne]; simp at he; omega
          clear he
          go_wp2_with fail
          go_roundw
          case rel => exact ⟨4, by omega, by omega, by go_num, by trivial, HN⟩
          case measure => decide
        · have hb : ((6 : Int) == (m : Int)) = false := by rw [beq_eq_false_iff_ne]; simp at he; omega
          clear he
          go_wp2_with fail
          go_roundw
          case rel => exact ⟨5, by omega, by omega, by go_num, by trivial, HN⟩
          case measure => decide
        · have hb : ((10 : Int) == (m : Int)) = false := by rw [beq_eq_false_iff_ne]; simp at he; omega
          clear he
          go_wp2_with fail
          go_roundw
          case rel => exact ⟨6, by omega, by omega, by go_num, by trivial, HN⟩
          case measure => decide
        · have hb : ((15 : Int) == (m : Int)) = false := by rw [beq_eq_false_iff_ne]; simp at he; omega
          clear he
          go_wp2_with fail
          go_roundw
          case rel => exact ⟨7, by omega, by omega, by go_num, by trivial, HN⟩
          case measure => decide
    · obtain rfl : n = 7 := by omega
      have HN := hide (cwV_no (m := m) (fun j h1 h2 => HS.out j h1 (by omega)))
      clear HS
      go_wp2_with fail
      go_ret
      exact ⟨ret_i64 (by rw [HN.out]; rfl), rfl⟩

set_option maxHeartbeats 1000000 in
theorem validateDelays_any (A : Option Addr) (n c : Nat) (xs : List Int) (w : World) (h : R E1 w A n c xs) (hn2 : n ≤ 1000) :
    Calls Try.prog 70 #[.slice A n c] w fun e w' => e = .returned (.int .i64 (errD xs)) ∧ Below w.heap.size w w' := by
  have hl := h.length
  obtain ⟨b, off, hr⟩ := h
  have H1 := hide hl
  by_cases ha : 15 < n
  · go_enter Try.func70, Try.ntmps70
    go_wp2_with fail
    go_ret
    exact ⟨ret_i64 (errD_large (by rw [H1.out]; omega)).symm, Below.refl _ _⟩
  · by_cases hb : cwV n = 0
    · have HB := hide (errD_count (xs := xs) (by rw [H1.out]; omega) (by rw [H1.out]; exact hb))
      have HBz := hide hb
      clear hb hr hl
      go_enter Try.func70, Try.ntmps70
      go_wp2_with (go_at_call 73; refine (cliffsWith_any _ (by omega) _).mono ?_; rintro e w1 ⟨rfl, rfl⟩; rw [HBz.out])
      go_ret
      exact ⟨ret_i64 HB.out.symm, Below.refl _ _⟩
    · have HC := hide hb
      have hcz : ((cwV n : Int) == 0) = false := by rw [beq_eq_false_iff_ne]; omega
      clear hb
      have H4 := hide hr
      have HA0 := hide (fun h0 : 0 < n => hr.at_ h0)
      have HL := hide (fun h0 : 0 < n => hr.lt h0)
      have hcap := hr.cap
      have hmax := hr.max
      clear hr hl
      go_enter Try.func70, Try.ntmps70
      go_wp2_with (go_at_call 73; refine (cliffsWith_any _ (by omega) _).mono ?_; rintro e w1 ⟨rfl, rfl⟩)
      go_loopw [3, 15] (fun last i wr => ∃ k : Nat, k ≤ n ∧ i = .int .i64 k ∧ last = .int .i64 (prevD xs k) ∧ DokTo xs k ∧ Below w.heap.size w wr) (fun _ i _ => n - (intOf i).toNat)
      case atStart => exact ⟨0, Nat.zero_le _, rfl, rfl, dokTo_zero _, Below.refl _ _⟩
      case round =>
        obtain ⟨k, hk, rfl, rfl, hrep, hbel⟩ := hrel
        by_cases hlt : k < n
        · obtain rfl := HA0.out (by omega)
          have hbl := HL.out (by omega)
          have hc1 := c1 (H4.out.under hbel fun _ => hbl) hlt
          have HX := hide (prevD_succ xs k)
          have HF := hide (fun h1 => dokB_fail (xs := xs) (k := k) hrep h1)
          have HS := hide (fun h1 h2 => dokB_step (xs := xs) (k := k) hrep h1 h2)
          have i1 : (k : Int) < (n : Int) := by omega
          generalize hx : xs.getD k 0 = x at hc1 HX HF HS
          generalize hy : prevD xs k = y at HF HS
          clear hx hy
          by_cases hxy : x < y
          · go_wp2_with fail
            go_ret
            exact ⟨ret_i64 (errD_arg (by rw [H1.out]; omega) (k := k) (by rw [H1.out]; exact hlt) (HF.out (.inl hxy))).symm, hbel⟩
          · by_cases hx6 : 60 < x
            · go_wp2_with fail
              go_ret
              exact ⟨ret_i64 (errD_arg (by rw [H1.out]; omega) (k := k) (by rw [H1.out]; exact hlt) (HF.out (.inr hx6))).symm, hbel⟩
            · have HSt := hide (dokTo_succ hrep (HS.out (by omega) (by omega)))
              go_wp2_with fail
              go_roundw
              case rel => exact ⟨k + 1, by omega, by go_num, by rw [HX.out], HSt.out, hbel⟩
              case measure => simp [intOf]; omega
        · obtain rfl : k = n := by omega
          have i1 : ¬ (k : Int) < (k : Int) := by omega
          go_wp2_with fail
          go_ret
          exact ⟨ret_i64 (errD_fine (by rw [H1.out]; omega) (by rw [H1.out]; exact HC.out) (by rw [H1.out]; exact hrep)).symm, hbel⟩

/-- How many rows are visited. -/
theorem visN_len {V : List Int → List Int → List (List Int)} {q : Nat} (hV : ∀ b t, (V b t).length ≤ q) (b t : List Int) (m : Nat) : (visN V b t m).length ≤ m * q := by
  unfold visN
  rw [List.length_flatMap]
  have h1 : ∀ l : List Nat, (l.map fun p => (visP V b t p).length).sum ≤ l.length * q := by
    intro l
    induction l with
    | nil => simp
    | cons x l ih =>
      have : (visP V b t x).length ≤ q := by
        unfold visP
        split
        · exact hV _ _
        · simp
      simp only [List.map_cons, List.sum_cons, List.length_cons, Nat.add_mul]
      omega
  refine Nat.le_trans (h1 _) (Nat.mul_le_mul_right _ ?_)
  refine Nat.le_trans (List.length_filter_le _ _) ?_
  simp
theorem vis_len : ∀ (k : Nat) (b t : List Int), (vis k b t).length ≤ 61 ^ k
  | 0, b, t => by simp [vis]
  | k + 1, b, t => by
    have h := visN_len (V := vis k) (q := 61 ^ k) (fun b t => vis_len k b t) b t 61
    have e : 61 ^ (k + 1) = 61 * 61 ^ k := by rw [Nat.pow_succ, Nat.mul_comm]
    rw [e]
    exact h
/-- All cliffs with these delays, the program's. -/
def allV (xs : List Int) : List (List Int) := if errD xs = 0 then (vis (cwV xs.length - 1) [0] (tal xs)).filter norB else []
/-- Rows of integers of the call's own, and an error. -/
def RowsPost (er : Int) (rows : List (List Int)) (w : World) (e : Ending) (w' : World) : Prop :=
  ∃ (A : Option Addr) (n c : Nat) (hs : List Hd), e = .returned (.tuple #[.slice A n c, .int .i64 er]) ∧ Own EH w' w.heap.size 22 A n c hs ∧ rows.length = n ∧
    (∀ i, i < n → Own E1 w' w.heap.size 3 (hs.getD i EH.d).1 (hs.getD i EH.d).2.1 (hs.getD i EH.d).2.2 (rows.getD i [])) ∧ Below w.heap.size w w'
set_option maxRecDepth 100000 in
set_option maxHeartbeats 2000000 in
theorem All_any (A : Option Addr) (n c : Nat) (xs : List Int) (w : World) (h : R E1 w A n c xs) (hn : n ≤ 1000) :
    Calls Try.prog 37 #[.slice A n c] w (RowsPost (errD xs) (allV xs) w) := by
  have hmf : ∀ (fn : Fn) (first cap : Array Value) (w : World), (Instr.makeFunc fn first cap).run Try.prog w = .ok (.func fn first cap) w := fun _ _ _ _ => rfl
  have HX := hide h
  have HL := hide h.length
  clear h
  by_cases he : errD xs = 0
  · obtain ⟨h15, hcw, hdk⟩ := errD_ok.1 he
    rw [HL.out] at h15 hcw hdk
    have HDK := hide hdk
    have HCW := hide hcw
    have HE := hide he
    have HLE := hide (cwV_le n)
    have HAV := hide (show allV xs = (vis (cwV n - 1) [0] (tal xs)).filter norB from by unfold allV; rw [if_pos he, HL.out])
    have HTL := hide (show Tal (tal xs) from tal_ok (fun k hk => by
      have := dokB_iff.1 (hdk k (by rw [HL.out] at hk; exact hk))
      omega) (by rw [HL.out]; omega))
    have HVL := hide (show (vis (cwV n - 1) [0] (tal xs)).length ≤ 1000000000 from by
      have h1 := vis_len (cwV n - 1) [0] (tal xs)
      have h2 : 61 ^ (cwV n - 1) ≤ 61 ^ 5 := Nat.pow_le_pow_right (by omega) (by have := HLE.out; omega)
      have h3 : (61 : Nat) ^ 5 = 844596301 := by decide
      omega)
    clear he hcw hdk
    go_enter Try.func37, Try.ntmps37
    go_wp2_with (first
      | (go_at_call 70; refine (validateDelays_any _ _ _ xs _ HX.out (by omega)).mono ?_; rintro e w1 ⟨rfl, b1⟩; rw [HE.out]; have B1 := hide b1; have hs1 := b1.size; clear b1)
      | (go_at_call 73; refine (cliffsWith_any _ (by omega) _).mono ?_; rintro e w2 ⟨rfl, rfl⟩)
      | (go_at_call 74; refine (tallied_any _ n c xs _ ((HX.out.below B1.out (Nat.le_refl _)).below (((Below.refl _ w1).alloc (Nat.le_refl _) _).alloc (by simp) _) (Nat.le_refl _)) (by omega) ?_).mono ?_; exact (fun k hk => by have := dokB_iff.1 (HDK.out k hk); omega); rintro e w3 ⟨rfl, b3⟩; have B3 := hide b3; clear b3)
      | (go_at_call 72; refine (?hsearch : Calls _ _ _ _ (SeeAll w.heap.size w1.heap.size (w1.heap.size + 1) 1 1 (fun _ => False) [0] ((vis (cwV n - 1) [0] (tal xs)).filter norB) w3)).mono ?_; rotate_left; rintro e w4 ⟨rfl, o4, a4, _, b4⟩; obtain ⟨A4, n4, c4, hs4, k1, k2, _, _, _, k6, k7⟩ := a4; have m1 := k1.at_ 0; simp at m1; have K2 := hide k2; have K7 := hide k7; have B4 := hide b4; clear o4 k1 k2 k7 b4))
    · go_ret2
      refine ⟨A4, n4, c4, hs4, ?_, K2.out, by rw [HAV.out]; exact k6, fun i hi => by rw [HAV.out]; exact (K7.out i hi).1, ?_⟩
      · rw [HE.out]; rfl
      · exact ((B1.out.alloc hs1 _).alloc (by simp; omega) _).trans ((B3.out.mono (by simp; omega)).trans B4.out)
    · have hs3 := B3.out.size
      simp at hs3
      have ho := Own.lit (E := E1) (B := w.heap.size) (e := 3) (w1.alloc (.cells #[.slice none 0 0] 35)) [0] (by simp; omega) (by decide)
      rw [show (w1.alloc (.cells #[.slice none 0 0] 35)).heap.size = w1.heap.size + 1 by simp] at ho
      have hbk : Bk ((w1.alloc (.cells #[.slice none 0 0] 35)).alloc (.cells #[.int .i64 0] 3)) w1.heap.size 35 #[.slice none 0 0] := (Bk.born w1 _ _).more _
      have hcs := search_all w.heap.size w1.heap.size (cwV n - 1) (w1.heap.size + 1) 1 1 (fun _ => False) [0] (tal xs) [] w3 (ho.below B3.out (Nat.le_refl _))
        ⟨none, 0, 0, [], hbk.keep B3.out (by simp; omega), Own.nil _ _ _ _, hs1, by simp, (fun g hg => by cases hg), rfl, (fun i hi => by omega)⟩
        (fun x hx => hx.elim) (by have := HVL.out; simpa using this) (Nat.le_refl _) (by have := HLE.out; omega) Beg.zero HTL.out (by omega)
      rw [show ((1 + (cwV n - 1) : Nat) : Int) = ((cwV n : Nat) : Int) by have := HCW.out; omega] at hcs
      rw [List.nil_append] at hcs
      exact hcs
  · have HE := hide he
    have hne : (errD xs != 0) = true := by simpa using he
    have HD := hide (show allV xs = [] from if_neg he)
    clear he
    go_enter Try.func37, Try.ntmps37
    go_wp2_with (go_at_call 70; refine (validateDelays_any _ _ _ xs _ HX.out (by omega)).mono ?_; rintro e w1 ⟨rfl, b1⟩; have B1 := hide b1; clear b1)
    go_ret2
    exact ⟨none, 0, 0, [], rfl, Own.nil _ _ _ _, by rw [HD.out]; rfl, fun i hi => by omega, B1.out⟩
end Go.Proofs.Ytllfkhcpdgdmnaa
