/- Find: the program's. -/
import Derived.Test.YtllfkhcpdgdmnaaSho
import Derived.Test.YtllfkhcpdgdmnaaSou
namespace Go.Proofs.Ytllfkhcpdgdmnaa
open Go.RowKit

set_option maxHeartbeats 1000000 in
theorem catchF_panic (g g' : Nat) (hne : g ≠ g') (A : Option Addr) (n c : Nat) (older : List PanicEntry) (w : World) (hb : Bk w g 22 #[.slice none 0 0]) (hb' : Bk w g' 4 #[.bool false]) :
    CallsD Try.prog 79 #[.pointer (some ⟨g, 0, none⟩), .pointer (some ⟨g', 0, none⟩)] (.panicking ({ v := .iface 56 (.slice A n c), recovered := false } :: older)) w fun e u' w' =>
      e = .returned (.tuple #[]) ∧ u' = .panicking ({ v := .iface 56 (.slice A n c), recovered := true } :: older) ∧ w' = (w.setCell ⟨g, 0, none⟩ (.slice A n c)).setCell ⟨g', 0, none⟩ (.bool true) := by
  have hc := hb.at_ 0
  have hz := hb.fr 0
  have hb2 := hb'.apart (p := ⟨g, 0, none⟩) (by simpa using fun e => hne e.symm) (.slice A n c)
  have hc2 := hb2.at_ 0
  have hz2 := hb2.fr 0
  refine callsD_of_wpS Try.func79 rfl fun c₀ cs hu => ?_
  apply wpS_seq
  apply wpS_region
  simp [wpOpsS, go_sem, recoverD, hu, Try.ntmps79, Exit.thenS, asr_yes, asr_no]
  apply wpS_seq
  apply wpS_region
  simp [wpOpsS, go_sem, recoverD, hu, Try.ntmps79, Exit.thenS, asr_yes, asr_no]
  refine wpS_cond (t := true) (by simp [Act.eval, Array.replicate]) ?_
  simp only [if_true]
  apply wpS_region
  simp [wpOpsS, go_sem, hc, hz, hc2, hz2, bodyPostS, results, Try.results79]
set_option maxHeartbeats 1000000 in
theorem catchF_idle (g g' : Nat) (w : World) :
    CallsD Try.prog 79 #[.pointer (some ⟨g, 0, none⟩), .pointer (some ⟨g', 0, none⟩)] .returning w fun e u' w' => e = .returned (.tuple #[]) ∧ u' = .returning ∧ w' = w := by
  refine callsD_of_wpS Try.func79 rfl fun c₀ cs hu => ?_
  apply wpS_seq
  apply wpS_region
  simp [wpOpsS, go_sem, recoverD, hu, Try.ntmps79, Exit.thenS, asr_yes, asr_no]
  apply wpS_seq
  apply wpS_region
  simp [wpOpsS, go_sem, recoverD, hu, Try.ntmps79, Exit.thenS, asr_yes, asr_no]
  refine wpS_cond (t := false) (by simp [Act.eval, Array.replicate]) ?_
  simp only [Bool.false_eq_true, if_false]
  refine wpS_of_wp (wp_skip ?_)
  cases c₀
  simp_all [bodyPostS, results, Try.results79]

/-- A row of the call's own, whether there is one, and an error. -/
def FindPost (er : Int) (o : Option (List Int)) (w : World) (e : Ending) (w' : World) : Prop :=
  ∃ (A : Option Addr) (n c : Nat), e = .returned (.tuple #[.slice A n c, .bool o.isSome, .int .i64 er]) ∧ Own E1 w' w.heap.size 3 A n c (o.getD []) ∧ Below w.heap.size w w'
theorem visA_head (ds : List Int) (h : errD ds = 0) : (allV ds).head? = (visA ds).head? := by
  cases e : visA ds with
  | nil => rw [all_none e]
  | cons F R => rw [all_first h e]; rfl

set_option maxRecDepth 100000 in
set_option maxHeartbeats 4000000 in
theorem Find_any (A : Option Addr) (n c : Nat) (xs : List Int) (w : World) (h : R E1 w A n c xs) (hn : n ≤ 1000) :
    Calls Try.prog 39 #[.slice A n c] w (FindPost (errD xs) (allV xs).head? w) := by
  have hmf : ∀ (fn : Fn) (first cap : Array Value) (w : World), (Instr.makeFunc fn first cap).run Try.prog w = .ok (.func fn first cap) w := fun _ _ _ _ => rfl
  have HX := hide h
  have HL := hide h.length
  have hb0 : Below w.heap.size w ((w.alloc (.cells #[.slice none 0 0] 22)).alloc (.cells #[.bool false] 4)) := ((Below.refl _ w).alloc (Nat.le_refl _) _).alloc (by simp) _
  have hk1 : Bk ((w.alloc (.cells #[.slice none 0 0] 22)).alloc (.cells #[.bool false] 4)) w.heap.size 22 #[.slice none 0 0] := (Bk.born w _ _).more _
  have hk2 : Bk ((w.alloc (.cells #[.slice none 0 0] 22)).alloc (.cells #[.bool false] 4)) (w.heap.size + 1) 4 #[.bool false] := by
    have := Bk.born (w.alloc (.cells #[.slice none 0 0] 22)) 4 #[.bool false]
    simpa using this
  have H0 := hide hb0
  have K1 := hide hk1
  have K2 := hide hk2
  clear h hb0 hk1 hk2
  by_cases he : errD xs = 0
  · obtain ⟨h15, hcw, hdk⟩ := errD_ok.1 he
    rw [HL.out] at h15 hcw hdk
    have HDK := hide hdk
    have HCW := hide hcw
    have HE := hide he
    have HLE := hide (cwV_le n)
    have HAV := hide (show (allV xs).head? = (vis (cwV n - 1) [0] (tal xs)).head? from by rw [visA_head xs he]; unfold visA; rw [HL.out])
    have HTL := hide (show Tal (tal xs) from tal_ok (fun k hk => by
      have := dokB_iff.1 (hdk k (by rw [HL.out] at hk; exact hk))
      omega) (by rw [HL.out]; omega))
    clear he hcw hdk
    go_enter_defers Try.func39, Try.ntmps39
    go_wp2_with (first
      | (go_at_call 70; refine (validateDelays_any _ _ _ xs _ (HX.out.below H0.out (Nat.le_refl _)) (by omega)).mono ?_; rintro e w1 ⟨rfl, b1⟩; rw [HE.out]; have B1 := hide b1; have hs1 := b1.size; simp at hs1; clear b1; have J1 := hide (K1.out.keep B1.out (by simp; omega)); have J2 := hide (K2.out.keep B1.out (by simp)))
      | (go_at_call 73; refine (cliffsWith_any _ (by omega) _).mono ?_; rintro e w2 ⟨rfl, rfl⟩)
      | (go_at_call 74; refine (tallied_any _ n c xs _ (((HX.out.below H0.out (Nat.le_refl _)).below B1.out (Nat.le_refl _)).below ((Below.refl _ w1).alloc (Nat.le_refl _) _) (Nat.le_refl _)) (by omega) ?_).mono ?_; exact (fun k hk => by have := dokB_iff.1 (HDK.out k hk); omega); rintro e w3 ⟨rfl, b3⟩; have B3 := hide b3; clear b3))
    have hs3 := B3.out.size
    simp at hs3
    have ho := Own.lit (E := E1) (B := w.heap.size + 2) (e := 3) w1 [0] (by omega) (by decide)
    have hcs := search_stop (w.heap.size + 2) (cwV n - 1) w1.heap.size 1 1 [0] (tal xs) w3 (ho.below B3.out (Nat.le_refl _)) (Nat.le_refl _) (by have := HLE.out; omega) Beg.zero HTL.out (by omega)
    rw [show ((1 + (cwV n - 1) : Nat) : Int) = ((cwV n : Nat) : Int) by have := HCW.out; omega] at hcs
    refine hcs.mono ?_
    rintro e w6 ⟨r6, h6⟩
    have hb6 := below_gb r6 (b := w1.heap.size) (Nat.le_refl _) (by omega)
    have j1 := ((J1.out.more (.cells #[.int .i64 0] 3)).keep B3.out (by simp; omega)).keep hb6 (by omega)
    have j2 := ((J2.out.more (.cells #[.int .i64 0] 3)).keep B3.out (by simp; omega)).keep hb6 (by omega)
    have hbw : Below w.heap.size w w6 := (H0.out.trans ((B1.out.mono (by simp; omega)).trans (((Below.refl w.heap.size w1).alloc (by omega) (.cells #[.int .i64 0] 3)).trans (B3.out.mono (by simp; omega))))).trans (hb6.mono (by omega))
    rcases h6 with ⟨hv, rfl, o6⟩ | ⟨L, rest, A', n', c', hv, rfl, o6⟩
    · have p1 := j1.at_ 0
      have z1 := j1.fr 0
      have j3 := j2.apart (p := ⟨w.heap.size, 0, none⟩) (by simp) (.slice none 0 0)
      have p2 := j3.at_ 0
      have z2 := j3.fr 0
      simp at p1 p2
      have HF := hide ((j1.put 0 (.slice none 0 0)).apart (p := ⟨w.heap.size + 1, 0, none⟩) (by simp) (.bool false))
      have HG := hide (j3.put 0 (.bool false))
      have HW := hide hbw
      have HV := hide hv
      clear j1 j2 j3 hbw hb6 r6 o6 hcs ho hv
      go_wp2_with fail
      refine leaves_cons (f := 79) (args := #[.pointer (some ⟨w.heap.size, 0, none⟩), .pointer (some ⟨w.heap.size + 1, 0, none⟩)]) (by simp) (by simp [go_sem]) ?_
      refine (catchF_idle w.heap.size (w.heap.size + 1) _).mono ?_
      rintro e u' w'' ⟨rfl, rfl, rfl⟩
      have f1 := HF.out.at_ 0
      have f2 := HG.out.at_ 0
      simp at f1 f2
      simp [Leaves, settle, results, Try.results39, go_sem, f1, f2]
      exact ⟨none, 0, 0, by rw [HAV.out, HV.out, HE.out]; rfl, by rw [HAV.out, HV.out]; exact Own.nil _ _ _ _, (HW.out.setCell (p := ⟨w.heap.size, 0, none⟩) (Nat.le_refl _) _).setCell (p := ⟨w.heap.size + 1, 0, none⟩) (by simp) _⟩
    · refine leaves_cons (f := 79) (args := #[.pointer (some ⟨w.heap.size, 0, none⟩), .pointer (some ⟨w.heap.size + 1, 0, none⟩)]) (by simp) (by simp [go_sem]) ?_
      refine (catchF_panic w.heap.size (w.heap.size + 1) (by omega) A' n' c' [] _ j1 j2).mono ?_
      rintro e u' w'' ⟨rfl, rfl, rfl⟩
      have f1 := ((j1.put 0 (.slice A' n' c')).apart (p := ⟨w.heap.size + 1, 0, none⟩) (by simp) (.bool true)).at_ 0
      have f2 := ((j2.apart (p := ⟨w.heap.size, 0, none⟩) (by simp) (.slice A' n' c')).put 0 (.bool true)).at_ 0
      simp at f1 f2
      simp [Leaves, settle, results, Try.results39, go_sem, f1, f2]
      exact ⟨A', n', c', by rw [HAV.out, hv, HE.out]; rfl, by rw [HAV.out, hv]; exact (own_other (own_other o6 (by omega) _ _) (by omega) _ _).more (by omega), (hbw.setCell (p := ⟨w.heap.size, 0, none⟩) (Nat.le_refl _) _).setCell (p := ⟨w.heap.size + 1, 0, none⟩) (by simp) _⟩
  · have HE := hide he
    have hne : (errD xs != 0) = true := by simpa using he
    have HD := hide (show (allV xs).head? = none from by unfold allV; rw [if_neg he]; rfl)
    clear he
    go_enter_defers Try.func39, Try.ntmps39
    go_wp2_with (go_at_call 70; refine (validateDelays_any _ _ _ xs _ (HX.out.below H0.out (Nat.le_refl _)) (by omega)).mono ?_; rintro e w1 ⟨rfl, b1⟩; have B1 := hide b1; clear b1; have j1 := K1.out.keep B1.out (by simp; omega); have j2 := K2.out.keep B1.out (by simp); have p1 := j1.at_ 0; have z1 := j1.fr 0; have j3 := j2.apart (p := ⟨w.heap.size, 0, none⟩) (by simp) (.slice none 0 0); have p2 := j3.at_ 0; have z2 := j3.fr 0; simp at p1 p2; have J1 := hide j1; have J2 := hide j2; clear j1 j2 j3)
    have HF := hide (((J1.out.put 0 (.slice none 0 0))).apart (p := ⟨w.heap.size + 1, 0, none⟩) (by simp) (.bool false))
    have HG := hide ((J2.out.apart (p := ⟨w.heap.size, 0, none⟩) (by simp) (.slice none 0 0)).put 0 (.bool false))
    have f1 := HF.out.at_ 0
    have f2 := HG.out.at_ 0
    simp at f1 f2
    simp [bodyPostD, Leaves, settle, results, Try.results39, go_sem, f1, f2]
    exact ⟨none, 0, 0, by rw [HD.out]; rfl, by rw [HD.out]; exact Own.nil _ _ _ _, ((H0.out.trans (B1.out.mono (by simp; omega))).setCell (p := ⟨w.heap.size, 0, none⟩) (Nat.le_refl _) _).setCell (p := ⟨w.heap.size + 1, 0, none⟩) (by simp) _⟩
end Go.Proofs.Ytllfkhcpdgdmnaa
