/- Regions that draw their order, in a round of a range over a function: what holds outside of a round holds in it. -/
import Derived.Test.YtpkjgnllkaafkaaWalkCv
import Derived.StillTailTactics
import Derived.Deep.QuietTactic
namespace Go.Proofs.Ytpkjgnllkaafkaa
open Go.RowKit

section
variable {P : Program} {ops : Array Oper} {Q : Exit → Act → World → Prop} {r n : Nat}
/-- Only what is normal is left. -/
def Nml (Q : Exit → Act → World → Prop) : Exit → Act → World → Prop := fun e a w => e = .normal ∧ Q .normal a w
theorem not_lets : ¬ LetsOut (Nml Q) := fun h => by
  have := h
  simp [LetsOut, Nml] at this
theorem oper_round {o : Oper} {a : Act} {w : World} {K K' : Act → World → Prop} (hK : ∀ a w, K a w → K' a w) (hnd : ∀ c, o.op ≠ .defer c) 
    (h : o.wp P a w K (Nml Q)) : o.wpIn (Fence.wide.inRound r) n P a w K' Q := by
  refine ⟨fun _ _ => trivial, ?_⟩
  rw [Oper.semAt_eq _ _ _ hnd]
  unfold Oper.wp at h
  generalize (execOp a.eval o).run P w = res at *
  cases res with
  | ok x w' =>
    cases x <;> simp only [Oper.upon] at h <;> simp only [Oper.uponIn]
    case value v => exact hK _ _ h
    case skip => exact hK _ _ h
    case defer d => exact hK _ _ h
    case enter f args =>
      refine ⟨fun h => by simp [Fence.wide, Fence.inRound] at h, ?_⟩
      refine (CallsIn.inRound r (callsIn_wide.2 h)).mono fun e w'' he => ?_
      cases e with
      | returned v => exact hK _ _ he
      | panicked c => exact absurd he.1 (by simp)
      | outgrown => exact absurd he not_lets
    case row row args => exact ⟨fun h => by simp [Fence.wide, Fence.inRound] at h, fun c cs _ => let ⟨v, w2, h1, h2⟩ := h c cs; ⟨v, w2, hK _ _ h1, stepsIn_wide.2 h2⟩⟩
  | halt x w' =>
    cases x <;> simp only [Oper.upon] at h <;> simp only [Oper.uponIn]
    case panic v => exact absurd h.1 (by simp)
/-- No operation is deferred. -/
def noDefer (ops : Array Oper) : Bool := ops.all fun o => match o.op with | .defer _ => false | _ => true
theorem noDefer_at (h : noDefer ops = true) {i : Nat} {o : Oper} (ho : ops[i]? = some o) : ∀ c, o.op ≠ .defer c := by
  intro c hc
  obtain ⟨hi, rfl⟩ := Array.getElem?_eq_some_iff.1 ho
  unfold noDefer at h
  rw [Array.all_eq_true] at h
  have h1 := h i hi
  rw [hc] at h1
  cases h1
theorem opAt_round (hd : noDefer ops = true) {i : Nat} {a : Act} {w : World} {K K' : Act → World → Prop} (hK : ∀ a w, K a w → K' a w) (h : wpOp P ops (Nml Q) i K a w) : wpOpIn (Fence.wide.inRound r) n P ops Q i K' a w := by
  unfold wpOp at h
  unfold wpOpIn
  cases ho : ops[i]? with
  | none => rw [ho] at h; exact hK _ _ h
  | some o =>
    rw [ho] at h
    dsimp only at h ⊢
    by_cases hw : Region.wanted o (yielded ops a.tmps) = true
    · rw [if_pos hw] at h ⊢
      rcases h with h | h
      · exact oper_round hK (noDefer_at hd ho) h
      · exact absurd h.2 not_lets
    · rw [if_neg hw] at h ⊢
      exact ⟨fun _ _ => trivial, hK _ _ h⟩
theorem any_round (hd : noDefer ops = true) {md : Region.Mode} : ∀ (fuel : Nat) (listed : Array Bool) (a : Act) (w : World), wpAny P md ops (Nml Q) fuel listed a w → wpAnyIn (Fence.wide.inRound r) n P md ops Q fuel listed a w
  | 0, _, _, _, h => ⟨h.1, h.2.2⟩
  | fuel + 1, _, _, _, h => ⟨fun h0 => (h.1 h0).2, fun i hi => opAt_round hd (fun a' w' => any_round hd fuel _ a' w') (h.2 i hi)⟩
/-- The walk of operations that only read, closed against unfolding. -/
structure Qw (P : Program) (ops : Array Oper) (C : World → Prop) (T : Act → Prop) (l : List Oper) (a : Act) : Prop where
  out : wpQuiet P ops C T l a
section
variable {C : World → Prop} {T : Act → Prop} {o : Oper} {rest : List Oper} {a : Act}
theorem qw_nil (h : T a) : Qw P ops C T [] a := ⟨h⟩
theorem qw_step (h : ∀ K : Act → Prop, (∀ a, Qw P ops C T rest a → K a) → if Region.wanted o (yielded ops a.tmps) then o.quiet P a C K else K (a.put o.dst undef)) : Qw P ops C T (o :: rest) a :=
  ⟨wpQuiet_step fun K hK => h K fun a hq => hK a hq.out⟩
theorem qw_skip (hw : Region.wanted o (yielded ops a.tmps) = false) (h : Qw P ops C T rest (a.put o.dst undef)) : Qw P ops C T (o :: rest) a := by
  refine qw_step fun K hK => ?_
  rw [if_neg (by simp [hw])]
  exact hK _ h
theorem qw_take (hw : Region.wanted o (yielded ops a.tmps) = true) (h : ∀ K : Act → Prop, (∀ a, Qw P ops C T rest a → K a) → o.quiet P a C K) : Qw P ops C T (o :: rest) a := by
  refine qw_step fun K hK => ?_
  rw [if_pos hw]
  exact h K hK
end
/-- Operations that only read, and calls that only read: one walk in the order of the text. -/
theorem region_quiet_round {id : Nat} {a : Act} {w : World} {l : List Oper} (hm : P.follows .mixedOrders = true) (hd : noDefer l.toArray = true) (hB : Region.lexB .any l.toArray = true)
    (h : Qw P l.toArray (fun w' => ∃ n, w' = w.drewN n) (fun a' => ∀ w', (∃ n, w' = w.drewN n) → Q .normal a' w') l a) : (Code.region id l.toArray true).wpIn (Fence.wide.inRound r) n P Q a w := by
  simp only [Region.lexB, Bool.and_eq_true] at hB
  refine wpIn_region_any hm (any_round hd _ _ _ _ (wpAny_of_quiet (C := fun w' => ∃ n, w' = w.drewN n) (Q := fun a' => ∀ w', (∃ n, w' = w.drewN n) → Q .normal a' w') (fun _ w' hw' h => ⟨rfl, h w' hw'⟩) _ _ _ _ ⟨1, rfl⟩ ?_))
  have := wpAnyQ_lex (C := fun w' => ∃ n, w' = w.drewN n) (md := .any) hB.1 l 0 (Array.replicate l.toArray.size false) a (by simp) (by simpa using hB.2) h.out
  simpa using this
/-- Operations that only read, and then one chain of others. -/
theorem region_tail_round {id : Nat} {a : Act} {w : World} {l : List Oper} (k : Nat) (hm : P.follows .mixedOrders = true) (hd : noDefer l.toArray = true) (hB : Region.lexTailB .any l.toArray k = true)
    (h : wpStill P l.toArray w.drew (fun a' => wpList P l.toArray (Nml Q) (l.drop k) a' w.drew) (l.take k) a) : (Code.region id l.toArray true).wpIn (Fence.wide.inRound r) n P Q a w := by
  simp only [Region.lexTailB, Bool.and_eq_true, decide_eq_true_eq] at hB
  obtain ⟨⟨⟨⟨hsel, hn⟩, hs⟩, hc⟩, hlex⟩ := hB
  have hk : k < l.length := by simpa using hn
  have htl : (l.take k).length = k := by rw [List.length_take]; omega
  have hdl : (l.drop k).length = l.toArray.size - k := by simp
  have first : HeadInv .any l.toArray k (Array.replicate l.toArray.size false) :=
    ⟨by simp, fun j oj _ hl => (by rw [getD_replicate_false] at hl; cases hl), fun t _ ht => getD_in (by simpa using ht) (getD_replicate_false _ _)⟩
  have lexed := wpAnyL_lex (md := .any) (g := l.toArray.size - k) hsel hs hc hn (l.take k) 0 _ a (fun j hj => by
    rw [htl] at hj
    simp [hj]) (by simpa using htl) first (by rw [htl]; exact hlex) h
  refine wpIn_region_any hm (any_round hd _ _ _ _ ?_)
  have whole := wpAny_of_head (Q' := Nml Q) (g := l.toArray.size - k) (fun listed a' hL => by
    have e := wpAny_of_seq (md := .any) (Q' := Nml Q) (l.drop k) k listed a' { w with drawn := w.drawn + 1 } (fun j => by simp [List.getElem?_drop]) (by rw [hdl]; exact hL.1) hL.2
    rwa [hdl] at e) _ _ _ lexed
  rwa [htl, show k + (l.toArray.size - k) = l.toArray.size by omega] at whole
end
end Go.Proofs.Ytpkjgnllkaafkaa
