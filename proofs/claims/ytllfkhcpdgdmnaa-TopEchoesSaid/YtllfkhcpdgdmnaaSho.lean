/- The shortest rulers: the program's. -/
import Derived.Test.YtllfkhcpdgdmnaaSea
import Derived.Recover
namespace Go.Proofs.Ytllfkhcpdgdmnaa
open Go.RowKit

theorem asr_yes (v : Value) (w : World) : (Instr.typeAssert (.iface 56 v) 20 56 true).run Try.prog w = .ok (.tuple #[v, .bool true]) w := by kernel_rfl
theorem asr_no (w : World) : (Instr.typeAssert .nilIface 20 56 true).run Try.prog w = .ok (.tuple #[.slice none 0 0, .bool false]) w := by kernel_rfl
set_option maxHeartbeats 1000000 in
theorem catchS_panic (g : Nat) (A : Option Addr) (n c : Nat) (older : List PanicEntry) (w : World) (hb : Bk w g 22 #[.slice none 0 0]) :
    CallsD Try.prog 81 #[.pointer (some ⟨g, 0, none⟩)] (.panicking ({ v := .iface 56 (.slice A n c), recovered := false } :: older)) w fun e u' w' =>
      e = .returned (.tuple #[]) ∧ u' = .panicking ({ v := .iface 56 (.slice A n c), recovered := true } :: older) ∧ w' = w.setCell ⟨g, 0, none⟩ (.slice A n c) := by
  have hc := hb.at_ 0
  have hz := hb.fr 0
  refine callsD_of_wpS Try.func81 rfl fun c₀ cs hu => ?_
  apply wpS_seq
  apply wpS_region
  simp [wpOpsS, go_sem, recoverD, hu, Try.ntmps81, Exit.thenS, asr_yes, asr_no]
  apply wpS_seq
  apply wpS_region
  simp [wpOpsS, go_sem, recoverD, hu, Try.ntmps81, Exit.thenS, asr_yes, asr_no]
  refine wpS_cond (t := true) (by simp [Act.eval, Array.replicate]) ?_
  simp only [if_true]
  apply wpS_region
  simp [wpOpsS, go_sem, hc, hz, bodyPostS, results, Try.results81]
set_option maxHeartbeats 1000000 in
theorem catchS_idle (g : Nat) (w : World) :
    CallsD Try.prog 81 #[.pointer (some ⟨g, 0, none⟩)] .returning w fun e u' w' => e = .returned (.tuple #[]) ∧ u' = .returning ∧ w' = w := by
  refine callsD_of_wpS Try.func81 rfl fun c₀ cs hu => ?_
  apply wpS_seq
  apply wpS_region
  simp [wpOpsS, go_sem, recoverD, hu, Try.ntmps81, Exit.thenS, asr_yes, asr_no]
  apply wpS_seq
  apply wpS_region
  simp [wpOpsS, go_sem, recoverD, hu, Try.ntmps81, Exit.thenS, asr_yes, asr_no]
  refine wpS_cond (t := false) (by simp [Act.eval, Array.replicate]) ?_
  simp only [Bool.false_eq_true, if_false]
  refine wpS_of_wp (wp_skip ?_)
  cases c₀
  simp_all [bodyPostS, results, Try.results81]

/-- Each delay up to the greatest may come once. -/
def onesT (m : Nat) : List Int := List.replicate m 1 ++ List.replicate (61 - m) 0
theorem onesT_len {m : Nat} (h : m ≤ 61) : (onesT m).length = 61 := by simp [onesT]; omega
theorem onesT_succ {m : Nat} (h : m < 61) : (onesT m).set m 1 = onesT (m + 1) := by
  unfold onesT
  rw [List.set_append_right _ _ (by simp)]
  obtain ⟨q, hq⟩ : ∃ q, 61 - m = q + 1 := ⟨60 - m, by omega⟩
  rw [hq, show 61 - (m + 1) = q by omega, List.replicate_succ (n := q), List.length_replicate, Nat.sub_self, List.set_cons_zero, List.replicate_succ' (n := m), List.append_assoc]
  rfl
theorem onesT_tal {m : Nat} (h : m ≤ 61) : Tal (onesT m) := by
  have hmem : ∀ x ∈ onesT m, 0 ≤ x ∧ x ≤ 1000 := by
    intro x hx
    unfold onesT at hx
    rcases List.mem_append.1 hx with h | h <;> (have := List.eq_of_mem_replicate h; omega)
  refine ⟨onesT_len h, fun k hk => ?_⟩
  rw [List.getD_eq_getElem?_getD, List.getElem?_eq_getElem (by rw [onesT_len h]; exact hk), Option.getD_some]
  exact hmem _ (List.getElem_mem _)
/-- What the search finds up to a greatest delay. -/
def shoTo (k m : Nat) : Option (List Int) := (List.range m).findSome? fun g => (vis k [0] (onesT (g + 1))).head?
theorem shoTo_succ (k m : Nat) : shoTo k (m + 1) = (shoTo k m).or (vis k [0] (onesT (m + 1))).head? := by
  unfold shoTo
  rw [List.range_succ, List.findSome?_append]
  have e : List.findSome? (fun g => (vis k [0] (onesT (g + 1))).head?) [m] = (vis k [0] (onesT (m + 1))).head? := by
    simp only [List.findSome?_cons, List.findSome?_nil]
    cases (vis k [0] (onesT (m + 1))).head? <;> rfl
  rw [e]
theorem shoTo_more {k m : Nat} {L : List Int} (h : shoTo k m = some L) : ∀ q, shoTo k (m + q) = some L
  | 0 => h
  | q + 1 => by rw [← Nat.add_assoc, shoTo_succ, shoTo_more h q]; rfl
def shoV (k : Nat) : List Int := (shoTo k 61).getD []

set_option maxRecDepth 100000 in
set_option maxHeartbeats 4000000 in
theorem Shortest_any (k : Nat) (N : Int) (hN : N = ((1 + k : Nat) : Int)) (hk : k ≤ 4) (w : World) :
    Calls Try.prog 42 #[.int .i64 N] w (RowPost 0 (shoV k) w) := by
  have hmf : ∀ (fn : Fn) (first cap : Array Value) (w : World), (Instr.makeFunc fn first cap).run Try.prog w = .ok (.func fn first cap) w := fun _ _ _ _ => rfl
  have h1 : ¬ N < 1 := by omega
  have h5 : ¬ 5 < N := by omega
  have HV := hide (show shoV k = (shoTo k 61).getD [] from rfl)
  have HS := hide (shoTo_succ k)
  have HM := hide (fun (m : Nat) (L : List Int) (h : shoTo k m = some L) => shoTo_more h)
  go_enter_defers Try.func42, Try.ntmps42
  go_wp2_with fail
  go_loopw [13] (fun i wr => ∃ m : Nat, m ≤ 61 ∧ i = .int .i64 m ∧ Hid (Arr wr (w.heap.size + 1) (onesT m)) ∧ Hid (Bk wr w.heap.size 22 #[.slice none 0 0]) ∧ Hid (Below w.heap.size w wr) ∧ Hid (shoTo k m = none)) (fun i _ => 61 - (intOf i).toNat)
  case atStart => exact ⟨0, by omega, rfl, hide ((heap_alloc2_new w _ _).trans (by rw [none61_eq]; rfl)), hide (heap_alloc2_old w _ _), hide (((Below.refl _ w).alloc (Nat.le_refl _) _).alloc (by simp) _), hide rfl⟩
  case round =>
    obtain ⟨m, hm, rfl, HA, HB, HD, HN⟩ := hrel
    by_cases hlt : m < 61
    · have i1 : (m : Int) < 61 := by omega
      have hsz := HD.out.size
      have hbs := HB.out.in_
      have has := HA.out.lt
      have a1 := HA.out.cell (k := m) (by rw [onesT_len hm]; exact hlt)
      have f1 := HA.out.frozen m
      have HA2 := hide (show Arr (wr.setCell ⟨w.heap.size + 1, m, none⟩ (.int .i64 1)) (w.heap.size + 1) (onesT (m + 1)) from by have := HA.out.stored m 1; rwa [onesT_succ hlt] at this)
      have HT := hide (onesT_tal (m := m + 1) (by omega))
      have hts := onesT_len (m := m + 1) (by omega)
      generalize (onesT m).getD m 0 = old at a1
      have ho := Own.lit (E := E1) (B := w.heap.size + 2) (e := 3) (wr.setCell ⟨w.heap.size + 1, m, none⟩ (.int .i64 1)) [0] (by simp; omega) (by decide)
      rw [show (wr.setCell ⟨w.heap.size + 1, m, none⟩ (.int .i64 1)).heap.size = wr.heap.size by simp] at ho
      have HO := hide ho
      clear ho
      have hcs := search_stop (w.heap.size + 2) k wr.heap.size 1 1 [0] (onesT (m + 1)) ((wr.setCell ⟨w.heap.size + 1, m, none⟩ (.int .i64 1)).alloc (.cells #[.int .i64 0] 3)) HO.out (Nat.le_refl _) (by omega) Beg.zero HT.out (by simp; omega)
      rw [show ((1 + k : Nat) : Int) = 1 + (k : Int) by omega] at hcs
      have HCS := hide hcs
      have HAm := hide ((HA2.out.more (.cells #[.int .i64 0] 3)))
      have HBm := hide (((HB.out.apart (p := ⟨w.heap.size + 1, m, none⟩) (by simp) (.int .i64 1)).more (.cells #[.int .i64 0] 3)))
      have HDm := hide ((HD.out.setCell (p := ⟨w.heap.size + 1, m, none⟩) (by simp) (.int .i64 1)).alloc (by simp; omega) (.cells #[.int .i64 0] 3))
      have HSm := hide (HS.out m)
      clear hcs HA HB HD HO
      go_wp2_with (first
        | (refine wpList_load_row (o := ⟨some 20, _, _, _, _, _⟩) rfl 52 (.tmp 4) rfl (w.heap.size + 1) rfl 52 (intsV (onesT (m + 1))).toArray (0, 0) _ HAm.out.eq und_tally rfl (tally_size hts) ?_))
      refine HCS.out.mono ?_
      rintro e w6 ⟨r6, h6⟩
      have hb6 := below_gb r6 (b := wr.heap.size) (Nat.le_refl _) (by simp)
      rcases h6 with ⟨hv, rfl, o6⟩ | ⟨L, rest, A', n', c', hv, rfl, o6⟩
      · have HA6 := hide (HAm.out.below hb6 has)
        have HB6 := hide (HBm.out.keep hb6 hbs)
        have HD6 := hide (HDm.out.trans (hb6.mono hsz))
        have HN6 := hide (show shoTo k (m + 1) = none from by rw [HSm.out, HN.out, hv]; rfl)
        clear r6 hb6 o6 hv
        go_wp2_with fail
        go_roundw
        case rel => exact ⟨m + 1, by omega, by go_num, HA6, HB6, HD6, HN6⟩
        case measure => simp [intOf]; omega
      · have hB6 := HBm.out.keep hb6 hbs
        have hs : shoV k = L := by
          have h1 : shoTo k (m + 1) = some L := by rw [HSm.out, HN.out, hv]; rfl
          have h2 := HM.out (m + 1) L h1 (60 - m)
          rw [show m + 1 + (60 - m) = 61 by omega] at h2
          rw [HV.out, h2]
          rfl
        refine leaves_cons (f := 81) (args := #[.pointer (some ⟨w.heap.size, 0, none⟩)]) (by simp) (by simp [go_sem]) ?_
        refine (catchS_panic w.heap.size A' n' c' [] _ hB6).mono ?_
        rintro e u' w'' ⟨rfl, rfl, rfl⟩
        have hB7 := (hB6.put 0 (.slice A' n' c')).at_ 0
        simp at hB7
        simp [Leaves, settle, results, Try.results42, go_sem, hB7]
        exact ⟨A', n', c', rfl, by rw [hs]; exact (own_other o6 (by omega) _ _).more (by omega), (HDm.out.trans (hb6.mono hsz)).setCell (p := ⟨w.heap.size, 0, none⟩) (Nat.le_refl _) _⟩
    · obtain rfl : m = 61 := by omega
      have hc := HB.out.at_ 0
      have hz := HB.out.fr 0
      have HB2 := hide ((HB.out.put 0 (.slice none 0 0)))
      go_wp2_with fail
      refine leaves_cons (f := 81) (args := #[.pointer (some ⟨w.heap.size, 0, none⟩)]) (by simp) (by simp [go_sem]) ?_
      refine (catchS_idle w.heap.size _).mono ?_
      rintro e u' w'' ⟨rfl, rfl, rfl⟩
      have hB7 := HB2.out.at_ 0
      simp at hB7
      simp [Leaves, settle, results, Try.results42, go_sem, hB7]
      exact ⟨none, 0, 0, rfl, by rw [HV.out, HN.out]; exact Own.nil _ _ _ _, HD.out.setCell (p := ⟨w.heap.size, 0, none⟩) (Nat.le_refl _) _⟩

set_option maxHeartbeats 1000000 in
theorem Shortest_no (N : Int) (hN : N < 1 ∨ 5 < N) (w : World) :
    Calls Try.prog 42 #[.int .i64 N] w (RowPost 1 [] w) := by
  have hmf : ∀ (fn : Fn) (first cap : Array Value) (w : World), (Instr.makeFunc fn first cap).run Try.prog w = .ok (.func fn first cap) w := fun _ _ _ _ => rfl
  by_cases h1 : N < 1
  · go_enter_defers Try.func42, Try.ntmps42
    go_wp2_with fail
    simp [bodyPostD, Leaves, settle, results, Try.results42, go_sem]
    exact ⟨none, 0, 0, rfl, Own.nil _ _ _ _, (Below.refl _ w).alloc (Nat.le_refl _) _⟩
  · have h5 : 5 < N := by omega
    go_enter_defers Try.func42, Try.ntmps42
    go_wp2_with fail
    simp [bodyPostD, Leaves, settle, results, Try.results42, go_sem]
    exact ⟨none, 0, 0, rfl, Own.nil _ _ _ _, (Below.refl _ w).alloc (Nat.le_refl _) _⟩
end Go.Proofs.Ytllfkhcpdgdmnaa
