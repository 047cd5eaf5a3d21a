/- Posts: what is checked, and what they pay. -/
import Derived.Test.YtpkjgnllkaafkaaLift
namespace Go.Proofs.Ytpkjgnllkaafkaa
open Go.RowKit

def pOk (p : Pst) : Bool := decide (0 ≤ p.1) && decide (p.1 ≤ 1000) && decide (0 ≤ p.2) && decide (p.2 ≤ 1188)
theorem pOk_iff {p : Pst} : pOk p = true ↔ 0 ≤ p.1 ∧ p.1 ≤ 1000 ∧ 0 ≤ p.2 ∧ p.2 ≤ 1188 := by simp [pOk, and_assoc]
def pa (ps : List Pst) (k : Nat) : Pst := ps.getD k (0, 0)
theorem pa_eq {ps : List Pst} {k : Nat} (h : k < ps.length) : pa ps k = ps[k] := by simp [pa, List.getD_eq_getElem?_getD, h]
theorem pa_mem {ps : List Pst} {k : Nat} (h : k < ps.length) : pa ps k ∈ ps := by rw [pa_eq h]; exact List.getElem_mem _
theorem takeP {ps : List Pst} {k : Nat} (h : k < ps.length) : ps.take (k + 1) = ps.take k ++ [pa ps k] := by rw [List.take_succ_eq_append_getElem h, pa_eq h]
def paidTo (ps : List Pst) (s : Sh) (k : Nat) : Int := paidBy (ps.take k) s
def totTo (ps : List Pst) (k : Nat) : Int := total (ps.take k)
theorem paidTo_zero (ps : List Pst) (s : Sh) : paidTo ps s 0 = 0 := by simp [paidTo, paidBy]
theorem totTo_zero (ps : List Pst) : totTo ps 0 = 0 := by simp [totTo, total]
theorem paidTo_yes {ps : List Pst} {s : Sh} {k : Nat} (h : k < ps.length) (hr : runB s (pa ps k).1 = true) : paidTo ps s (k + 1) = paidTo ps s k + (pa ps k).2 := by
  unfold paidTo
  rw [takeP h, paidBy_app]
  simp [paidBy, hr]
theorem paidTo_no {ps : List Pst} {s : Sh} {k : Nat} (h : k < ps.length) (hr : runB s (pa ps k).1 = false) : paidTo ps s (k + 1) = paidTo ps s k := by
  unfold paidTo
  rw [takeP h, paidBy_app]
  simp [paidBy, hr]
theorem totTo_succ {ps : List Pst} {k : Nat} (h : k < ps.length) : totTo ps (k + 1) = totTo ps k + (pa ps k).2 := by
  unfold totTo
  rw [takeP h, total_app]
  simp [total]
theorem paidTo_all {ps : List Pst} {s : Sh} {n : Nat} (h : ps.length = n) : paidTo ps s n = paidBy ps s := by unfold paidTo; rw [List.take_of_length_le (by omega)]
theorem totTo_all {ps : List Pst} {n : Nat} (h : ps.length = n) : totTo ps n = total ps := by unfold totTo; rw [List.take_of_length_le (by omega)]
theorem paid_bd {s : Sh} : ∀ {P : List Pst}, (∀ q ∈ P, pOk q = true) → 0 ≤ paidBy P s ∧ paidBy P s ≤ 1188 * P.length
  | [], _ => by simp [paidBy]
  | p :: P, h => by
    have h1 := paid_bd (s := s) (P := P) fun q hq => h q (by simp [hq])
    have h2 := pOk_iff.1 (h p (by simp))
    simp only [paidBy, List.map_cons, List.sum_cons, List.length_cons] at h1 ⊢
    split <;> omega
theorem tot_bd : ∀ {P : List Pst}, (∀ q ∈ P, pOk q = true) → 0 ≤ total P ∧ total P ≤ 1188 * P.length
  | [], _ => by simp [total]
  | p :: P, h => by
    have h1 := tot_bd (P := P) fun q hq => h q (by simp [hq])
    have h2 := pOk_iff.1 (h p (by simp))
    simp only [total, List.map_cons, List.sum_cons, List.length_cons] at h1 ⊢
    omega
theorem paidTo_bd {ps : List Pst} (ok : ∀ q ∈ ps, pOk q = true) (s : Sh) (k : Nat) : 0 ≤ paidTo ps s k ∧ paidTo ps s k ≤ 1188 * k := by
  have h1 := paid_bd (s := s) (P := ps.take k) fun q hq => ok q (List.mem_of_mem_take hq)
  rw [List.length_take] at h1
  unfold paidTo
  omega
def PTo (ps : List Pst) (k : Nat) : Prop := ∀ q ∈ ps.take k, pOk q = true
theorem pTo_zero (ps : List Pst) : PTo ps 0 := by intro q hq; simp at hq
theorem pTo_succ {ps : List Pst} {k : Nat} (hk : k < ps.length) (h : PTo ps k) (h1 : pOk (pa ps k) = true) : PTo ps (k + 1) := by
  intro q hq
  rw [takeP hk] at hq
  rcases List.mem_append.1 hq with hq | hq
  · exact h q hq
  · simp at hq; subst hq; exact h1
theorem pTo_all {ps : List Pst} {n : Nat} (hn : ps.length = n) (h : PTo ps n) : ps.all pOk = true := by
  rw [List.all_eq_true]
  intro q hq
  exact h q (by rw [List.take_of_length_le (by omega)]; exact hq)
theorem pTo_no {ps : List Pst} {k : Nat} (hk : k < ps.length) (h : ¬ pOk (pa ps k) = true) : ¬ ps.all pOk = true := by
  intro hh
  rw [List.all_eq_true] at hh
  exact h (hh _ (pa_mem hk))
theorem totTo_bd {ps : List Pst} {k : Nat} (h : PTo ps k) : 0 ≤ totTo ps k ∧ totTo ps k ≤ 1188 * k := by
  have h1 := tot_bd (P := ps.take k) h
  rw [List.length_take] at h1
  unfold totTo
  omega
def payB (xs : Ls) (ps : List Pst) : Bool := xs.all fun s => decide (s.2.2 ≤ paidBy ps s)
def PyTo (xs : Ls) (ps : List Pst) (k : Nat) : Prop := ∀ i, i < k → (xs.getD i sh0).2.2 ≤ paidBy ps (xs.getD i sh0)
theorem pyTo_succ {xs : Ls} {ps : List Pst} {k : Nat} (h : PyTo xs ps k) (h1 : (xs.getD k sh0).2.2 ≤ paidBy ps (xs.getD k sh0)) : PyTo xs ps (k + 1) := by
  intro i hi
  by_cases e : i = k
  · subst e; exact h1
  · exact h i (by omega)
theorem pyTo_all {xs : Ls} {ps : List Pst} {n : Nat} (hn : xs.length = n) (h : PyTo xs ps n) : payB xs ps = true := by
  unfold payB
  rw [List.all_eq_true]
  intro x hx
  obtain ⟨i, hi, rfl⟩ := List.getElem_of_mem hx
  have := h i (by omega)
  simpa [List.getD_eq_getElem?_getD, hi] using this
theorem payB_no {xs : Ls} {ps : List Pst} {k : Nat} (hk : k < xs.length) (h : paidBy ps (xs.getD k sh0) < (xs.getD k sh0).2.2) : ¬ payB xs ps = true := by
  intro hh
  unfold payB at hh
  rw [List.all_eq_true] at hh
  have hm : xs.getD k sh0 ∈ xs := by rw [List.getD_eq_getElem?_getD, List.getElem?_eq_getElem hk]; exact List.getElem_mem _
  have := hh _ hm
  simp only [decide_eq_true_eq] at this
  omega
/-- The first error of posts. -/
def errP (xs : Ls) (ps : List Pst) : Int :=
  if errV xs = 0 then (if ps.length ≤ 12 then (if ps.all pOk = true then (if payB xs ps = true then 0 else 6) else 1) else 3) else errV xs
def posV (xs : Ls) (ps : List Pst) : Int := if errP xs ps = 0 then total ps else 0
theorem errP_v {xs : Ls} {ps : List Pst} (h : errV xs ≠ 0) : errP xs ps = errV xs := if_neg h
theorem errP_len {xs : Ls} {ps : List Pst} (h : errV xs = 0) (h1 : ¬ ps.length ≤ 12) : errP xs ps = 3 := by unfold errP; rw [if_pos h, if_neg h1]
theorem errP_k {xs : Ls} {ps : List Pst} (h : errV xs = 0) (h1 : ps.length ≤ 12) (h2 : ¬ ps.all pOk = true) : errP xs ps = 1 := by unfold errP; rw [if_pos h, if_pos h1, if_neg h2]
theorem errP_no {xs : Ls} {ps : List Pst} (h : errV xs = 0) (h1 : ps.length ≤ 12) (h2 : ps.all pOk = true) (h3 : ¬ payB xs ps = true) : errP xs ps = 6 := by unfold errP; rw [if_pos h, if_pos h1, if_pos h2, if_neg h3]
theorem errP_ok {xs : Ls} {ps : List Pst} (h : errV xs = 0) (h1 : ps.length ≤ 12) (h2 : ps.all pOk = true) (h3 : payB xs ps = true) : errP xs ps = 0 := by unfold errP; rw [if_pos h, if_pos h1, if_pos h2, if_pos h3]
theorem posV_no {xs : Ls} {ps : List Pst} {e : Int} (h : errP xs ps = e) (he : e ≠ 0) : posV xs ps = 0 := by unfold posV; rw [if_neg (by rw [h]; exact he)]
theorem posV_ok {xs : Ls} {ps : List Pst} (h : errP xs ps = 0) : posV xs ps = total ps := by unfold posV; rw [if_pos h]
theorem errP_zero {xs : Ls} {ps : List Pst} (h : errP xs ps = 0) : errV xs = 0 ∧ ps.all pOk = true ∧ payB xs ps = true := by
  by_cases h1 : errV xs = 0
  · by_cases h2 : ps.length ≤ 12
    · by_cases h3 : ps.all pOk = true
      · by_cases h4 : payB xs ps = true
        · exact ⟨h1, h3, h4⟩
        · rw [errP_no h1 h2 h3 h4] at h; cases h
      · rw [errP_k h1 h2 h3] at h; cases h
    · rw [errP_len h1 h2] at h; cases h
  · rw [errP_v h1] at h; exact absurd h h1
theorem pos_weak {xs : Ls} {ps : List Pst} {L : Ns} {I : List Int} (h : errP xs ps = 0) (hc : Chosen xs L I) : payI xs I ≤ posV xs ps := by
  obtain ⟨_, h2, h3⟩ := errP_zero h
  rw [posV_ok h]
  rw [List.all_eq_true] at h2
  refine weak (fun p hp => (pOk_iff.1 (h2 p hp)).2.2.1) hc.alone fun s hs => ?_
  obtain ⟨i, hi, rfl⟩ := List.mem_map.1 hs
  have hr := hc.asc.rng i hi
  unfold payB at h3
  rw [List.all_eq_true] at h3
  have hm : shAt xs i ∈ xs := by unfold shAt; rw [List.getD_eq_getElem?_getD, List.getElem?_eq_getElem (by omega)]; exact List.getElem_mem _
  simpa using h3 _ hm
def PosPost (xs : Ls) (ps : List Pst) (w : World) (e : Ending) (w' : World) : Prop := e = .returned (.tuple #[.int .i64 (posV xs ps), .int .i64 (errP xs ps)]) ∧ Below w.heap.size w w'

set_option maxHeartbeats 2000000 in
theorem paid_any (f t p : Int) (A : Option Addr) (n c : Nat) (ps : List Pst) (w : World) (h : R E2 w A n c ps) (hn : n ≤ 12) (hp : ∀ q ∈ ps, pOk q = true) :
    Calls Try.prog 84 #[.agg #[.int .i64 f, .int .i64 t, .int .i64 p], .slice A n c] w fun e w' => e = .returned (.int .i64 (paidBy ps (f, t, p))) ∧ Below w.heap.size w w' := by
  have HLP := hide h.length
  have HP := hide h
  have HOK := hide hp
  clear h hp
  go_enter Try.func84, Try.ntmps84
  go_wp2_with fail
  go_loopw [5, 10] (fun v i wr => ∃ k : Nat, k ≤ n ∧ i = .int .i64 k ∧ v = .int .i64 (paidTo ps (f, t, p) k) ∧ Hid (Bk wr w.heap.size 57 #[.int .i64 f, .int .i64 t, .int .i64 p]) ∧ Hid (Below w.heap.size w wr)) (fun _ i _ => n - (intOf i).toNat)
  case atStart => exact ⟨0, Nat.zero_le _, rfl, by rw [paidTo_zero], hide (Bk.born _ _ _), hide ((Below.refl _ _).alloc (Nat.le_refl _) _)⟩
  case round =>
    obtain ⟨k, hk, rfl, rfl, HK, HB⟩ := hrel
    by_cases hlt : k < n
    · obtain ⟨b, off, hr⟩ := HP.out.below HB.out (Nat.le_refl _)
      obtain rfl := hr.at_ (by omega)
      have hbl := hr.lt (by omega)
      have hcap := hr.cap
      have hmax := hr.max
      have hi := HK.out.in_
      obtain ⟨a1, a2⟩ := c2 hr hlt
      clear hr
      have kk1 := HK.out.at_ 0
      have kk2 := HK.out.at_ 1
      have kk3 := HK.out.at_ 2
      simp only [List.getElem?_toArray, List.getElem?_cons_zero, List.getElem?_cons_succ] at kk1 kk2 kk3
      have hbd := paidTo_bd HOK.out (f, t, p) k
      have HY := hide (paidTo_yes (ps := ps) (s := (f, t, p)) (k := k) (by rw [HLP.out]; exact hlt))
      have HN := hide (paidTo_no (ps := ps) (s := (f, t, p)) (k := k) (by rw [HLP.out]; exact hlt))
      have hq := pOk_iff.1 (HOK.out _ (pa_mem (k := k) (by rw [HLP.out]; exact hlt)))
      have hpa : ps.getD k (0, 0) = pa ps k := rfl
      rw [hpa] at a1 a2
      clear hpa
      generalize pa ps k = y at *
      generalize paidTo ps (f, t, p) k = u at *
      obtain ⟨y1, y2⟩ := y
      dsimp only at a1 a2 hq
      cases hrun : runB (f, t, p) y1 with
      | true =>
        have HU := hide (HY.out hrun)
        have HRUN := hide hrun
        have hw : IntKind.i64.wrap (u + y2) = u + y2 := IntWalk.i64_in _ (by omega)
        clear hrun HY HN
        go_wp2_with (go_at_call 81; refine (runs_any _ _ _ _ _).mono ?_; rintro e w1 ⟨rfl, b1⟩; rw [HRUN.out]; have hK := (b1.block _ (by simp)).trans (Bk.born wr 92 #[.int .i64 y1, .int .i64 y2]); have jj2 := Bk.at_ hK 1; simp only [List.getElem?_toArray, List.getElem?_cons_zero, List.getElem?_cons_succ] at jj2; have HK2 := hide ((HK.out.more _).keep b1 (by simp; omega)); have HB2 := hide ((HB.out.alloc HB.out.size _).trans (b1.mono (by simp; omega))); clear hK b1)
        go_roundw
        case rel => exact ⟨k + 1, by omega, by go_num, by rw [HU.out], HK2, HB2⟩
        case measure => simp [intOf]; omega
      | false =>
        have HU := hide (HN.out hrun)
        have HRUN := hide hrun
        clear hrun HY HN
        go_wp2_with (go_at_call 81; refine (runs_any _ _ _ _ _).mono ?_; rintro e w1 ⟨rfl, b1⟩; rw [HRUN.out]; have HK2 := hide ((HK.out.more _).keep b1 (by simp; omega)); have HB2 := hide ((HB.out.alloc HB.out.size _).trans (b1.mono (by simp; omega))); clear b1)
        go_roundw
        case rel => exact ⟨k + 1, by omega, by go_num, by rw [HU.out], HK2, HB2⟩
        case measure => simp [intOf]; omega
    · obtain rfl : k = n := by omega
      have HA := hide (paidTo_all (s := (f, t, p)) HLP.out)
      go_wp2_with fail
      go_ret
      exact ⟨ret_i64 HA.out, HB.out⟩
end Go.Proofs.Ytpkjgnllkaafkaa
