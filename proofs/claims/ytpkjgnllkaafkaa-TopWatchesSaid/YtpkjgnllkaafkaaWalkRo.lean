/- The roster that is returned. -/
import Derived.Test.YtpkjgnllkaafkaaWalkSp
import Derived.Test.YtpkjgnllkaafkaaMathRo
import Derived.Deep.RegionHeld3
namespace Go.Proofs.Ytpkjgnllkaafkaa
open Go.RowKit Go.Shelf
attribute [local go_sem] Oper.semAt_some

section
variable {P : Program} {Q : Exit → Act → World → Prop} {r n : Nat}
/-- Loads that stay as they are, and stores. -/
theorem region_held_round {id : Nat} {a : Act} {w : World} {l : List Oper} {S : World → Prop} (hm : P.follows .mixedOrders = true) (hd : noDefer l.toArray = true) (hS : S w.drew)
    (h : S w.drew → wpAnyH P .any l.toArray (Nml Q) S l.toArray.size (Array.replicate l.toArray.size false) a w.drew) : (Code.region id l.toArray true).wpIn (Fence.wide.inRound r) n P Q a w :=
  wpIn_region_any hm (any_round hd _ _ _ _ (wpAny_of_held _ _ _ _ (h hS)))
end
section
variable {α : Type} {E : Enc α} {P : Program} (w : World) {ops : Array Oper} {rest : List Oper} {o : Oper} {a : Act} {Q : Exit → Act → World → Prop} {F : Fence} {N : Nat}
/-- make([]T, n), in a fence. -/
theorem wpListIn_mk (z : Value) (bytes : Nat) (hgd : o.guard = none) (lo co : Operand) (t e : TypeId) (hop : o.op = Op.makeSlice t lo co)
    (hu : P.underlying t = some (.slice e)) (hinfo : (P.info? e).map (fun i => (i.zero, i.size, i.bytes)) = some (some z, E.size, bytes)) (hz : z.cells = (E.enc E.d).toArray) (hE : 0 < E.size) (hby : bytes ≤ 64) (B n : Nat) (hl : a.eval lo = .int .i64 n) (hc : a.eval co = .int .i64 n)
    (hn : n ≤ 1000000) (hB : B ≤ w.heap.size)
    (h : ∀ w', Own E w' B e (some ⟨w.heap.size, 0, none⟩) n n (List.replicate n E.d) → Below w.heap.size w w' → w.heap.size < w'.heap.size → wpListIn F N P ops Q rest (a.put o.dst (.slice (some ⟨w.heap.size, 0, none⟩) n n)) w') :
    wpListIn F N P ops Q (o :: rest) a w := by
  obtain ⟨i0, hi, hz0, hz1, hz2⟩ := info_parts hinfo
  refine wpListIn_plain hgd fun K hK' => ?_
  obtain ⟨w', hrun, hown, hg⟩ := run_make_full (P := P) w B t e i0 z E.size hu hi hz0 hz1 .i64 .i64 n (by
    rw [hz2]
    have : bytes * n ≤ 64 * n := Nat.mul_le_mul_right _ hby
    omega) (by unfold maxLen; omega) hB
  rw [hz, made_cells E hE] at hown
  have ho : Own E w' B e (some ⟨w.heap.size, 0, none⟩) n n (List.replicate n E.d) := ⟨by simp, hown⟩
  have hlt : w.heap.size < w'.heap.size := by
    rcases ho.form with ⟨hh, _⟩ | ⟨g, hA, _, hlt, _⟩
    · cases hh
    · injection hA with hA; injection hA with hA; omega
  have hk := h w' ho ((Below.refl _ w).grown hg (Nat.le_refl _) fun k hk => by cases hk) hlt
  unfold Oper.wpIn
  refine ⟨?_, ?_⟩
  · intro f hf
    simp [Oper.about, hop] at hf
  · rw [Oper.semAt_eq _ _ _ (by intro c hc; rw [hop] at hc; cases hc)]
    simp [execOp, hop, hl, hc, hrun, Result.andThen]
    exact hK' _ _ hk
end
theorem own_away {α : Type} {E : Enc α} {w : World} {B n c g p : Nat} {e : TypeId} {l : List α} (h : Own E w B e (some ⟨g, 0, none⟩) n c l) (hp : g ≠ p) (i : Nat) (v : Value) : Own E (w.setCell ⟨p, i, none⟩ v) B e (some ⟨g, 0, none⟩) n c l :=
  h.kept (row := some p) ⟨rfl, rfl, rfl, by simp, fun k hk hn => Below.heap_setCell w ⟨p, i, none⟩ v k (fun e => hn (by rw [e]))⟩ (.inr (by simp [Value.ownBlock]; omega))
/-- The array of the keepers. -/
def arr (u : List Int) : Array Value := (u.map fun x => Value.int .i64 x).toArray
theorem arr_get {u : List Int} {k : Nat} (h : k < u.length) : (arr u)[k]? = some (.int .i64 (u.getD k 0)) := by
  simp [arr, List.getD_eq_getElem?_getD, h]
theorem arr_set (u : List Int) (k : Nat) (x : Int) : (arr u).setIfInBounds k (.int .i64 x) = arr (u.set k x) := by
  simp [arr, List.map_set]
/-- A roster that needs as few keepers as can be, and an error. -/
def RosterPost (xs : Ls) (w : World) (e : Ending) (w' : World) : Prop :=
  ∃ (A : Option Addr) (n c : Nat) (r : List Int), e = .returned (.tuple #[.slice A n c, .int .i64 (errV xs)]) ∧ (errV xs = 0 → r.length = xs.length ∧ Right xs r ∧ dst r = (peak xs).2 ∧ ∀ x ∈ r, 0 ≤ x ∧ x < 12) ∧ (errV xs ≠ 0 → r = []) ∧ Own E1 w' w.heap.size 3 A n c r ∧ Below w.heap.size w w'

set_option maxRecDepth 100000 in
set_option maxHeartbeats 1000000 in
theorem Roster_any (A : Option Addr) (n c : Nat) (xs : Ls) (w : World) (h : R E3 w A n c xs) (hn : n ≤ 1000) :
    Calls Try.prog 32 #[.slice A n c] w (RosterPost xs w) := by
  by_cases he : errV xs = 0
  · have hn12 : n ≤ 12 := by have := errV_le he; have := h.length; omega
    have HE := hide he
    have HX := hide h
    have HLX := hide h.length
    clear he h
    refine (callsIn_wide (n := 3)).1 ?_
    refine callsIn_of_wp_marks Try.func32 rfl trivial ?_ rfl
    simp only [Try.ntmps32, List.size_toArray, List.length_cons, List.length_nil, Nat.reduceAdd, Nat.reduceSub, Array.replicate_succ, Array.replicate_zero, List.push_toArray, List.append_toArray, List.nil_append, List.cons_append]
    gi_wp2_with (first
      | (refine ⟨trivial, ?_⟩; gi_at_call 23; refine (callsIn_wide.2 (Validate_any _ _ _ xs _ HX.out hn)).mono ?_; rintro e w1 ⟨rfl, b1⟩; rw [HE.out]; have B1 := hide b1; clear b1)
      | (gi_at_make; refine wpListIn_mk (E := E1) _ (.int .i64 0) 8 rfl (.tmp 15) (.tmp 15) 30 3 rfl Try.underlying30 info_int rfl (by decide) (by omega) w.heap.size n rfl rfl (by omega) B1.out.size ?_; intro w2 o2 b2 z2; have O2 := hide o2; have B2 := hide (B1.out.trans (b2.mono B1.out.size)); have hz2 := z2; clear o2 b2 z2)
      | (refine ⟨trivial, ?_⟩; gi_at_call 66; refine (callsIn_wide.2 (inOrderFrom_any _ _ _ xs _ (HX.out.below ((B2.out.alloc B2.out.size _).alloc (by have := B2.out.size; simp; omega) _) (Nat.le_refl _)) hn12)).mono ?_; rintro e w3 ⟨g, Bs, c2, L, rfl, o3, hBs, lB, lB2, lg, hord, b3⟩))
    have hRA := o3.rowAt
    have T81 := hide (show arr (List.replicate 12 0) = #[.int .i64 0, .int .i64 0, .int .i64 0, .int .i64 0, .int .i64 0, .int .i64 0, .int .i64 0, .int .i64 0, .int .i64 0, .int .i64 0, .int .i64 0, .int .i64 0] from rfl)
    have bR : Boxed w3 w2.heap.size 30 (.slice (some ⟨w1.heap.size, 0, none⟩) n n) := (b3.block w2.heap.size (by simp <;> omega)).trans ((Boxed.new w2 30 (.slice (some ⟨w1.heap.size, 0, none⟩) n n)).alloc _)
    have bU : Bk w3 (w2.heap.size + 1) 81 (arr (List.replicate 12 0)) := (b3.block (w2.heap.size + 1) (by simp <;> omega)).trans (by have := Bk.born (w2.alloc (.cells #[.slice (some ⟨w1.heap.size, 0, none⟩) n n] 30)) 81 (arr (List.replicate 12 0)); rw [World.size_alloc] at this; exact this)
    have hB3 : Below w.heap.size w w3 := ((B2.out.alloc B2.out.size _).alloc (by have := B2.out.size; simp; omega) _).trans (b3.mono (by have := B2.out.size; simp; omega))
    have hO3 : Own E1 w3 w.heap.size 3 (some ⟨w1.heap.size, 0, none⟩) n n (List.replicate n 0) := ((O2.out.alloc _).alloc _).below b3 (by simp)
    have hz3 := b3.size
    simp only [World.size_alloc] at hz3
    have hgz : g < w3.heap.size := by omega
    have hp1 : w2.heap.size + 1 < g := by
      rcases o3.form with ⟨hh, _⟩ | ⟨g', h1, h2, _⟩
      · cases hh
      · injection h1 with h1
        injection h1 with h1
        simp at h2
        omega
    have hwz := B1.out.size
    have HO := hide hord
    have HOX := hide (fun (x : El L) => shift_ok HE.out hord x.2)
    have HNX := hide (fun (x : El L) => mem_num (hord.perm.mem_iff.1 x.2))
    clear hord b3 lB2 o3 O2
    refine wpIn_rangeFunc_ownH rfl (by omega) (gf := 100) (lb := #[.pointer (some ⟨Bs, 0, none⟩)]) rfl trivial (enters_of Try.func100 (by kernel_rfl) rfl)
      (values_stops Fence.wide 2 trivial rfl (by omega) Bs g n c2 L (by omega) w3 lB hBs hRA) KB.trans (KB.putObj hgz) (Below.refl _ _) (fun _ => rfl)
      (fun pre W => (Bk W (w2.heap.size + 1) 81 (arr (rosS n (pre.map (·.1))).1) ∧ Own E1 W w.heap.size 3 (some ⟨w1.heap.size, 0, none⟩) n n (rosS n (pre.map (·.1))).2 ∧ Boxed W w2.heap.size 30 (.slice (some ⟨w1.heap.size, 0, none⟩) n n)) ∧ (Below w.heap.size w W ∧ w3.heap.size ≤ W.heap.size))
      (fun _ _ _ => False)
      (OwnFrom.and (fun pre X Y row hs hg hr => by obtain ⟨h1, h2, h3⟩ := hs; exact ⟨bk_own (w2.heap.size + 1) 81 (fun (_ : Unit) => arr (rosS n (pre.map (·.1))).1) () X Y row h1 hg (fun r e => (hr r e).2), ownRow_own E1 w.heap.size 3 (fun (_ : Unit) => some ⟨w1.heap.size, 0, none⟩) (fun _ => n) (fun _ => n) (fun _ => (rosS n (pre.map (·.1))).2) () X Y row h2 hg (fun r e => (hr r e).2), boxed_own w2.heap.size 30 (fun (_ : Unit) => Value.slice (some ⟨w1.heap.size, 0, none⟩) n n) () X Y row h3 hg (fun r e => (hr r e).2)⟩) (OwnFrom.and (ownFrom_below (Nat.le_refl _) (by omega)) (fun _ _ _ _ hs hg _ => Nat.le_trans hs hg.size)))
      (fun _ _ _ _ _ hs _ _ => hs)
      ⟨⟨bU, hO3, bR⟩, hB3, Nat.le_refl _⟩
      (fun x a' W => ∃ Bx, w3.heap.size ≤ Bx ∧ Bk W Bx 75 #[.int .i64 x.1.1, .int .i64 x.1.2.1, .int .i64 x.1.2.2.1, .int .i64 x.1.2.2.2] ∧ a' = { tmps := #[.slice A n c, undef, .slice none 0 0, .int .i64 0, .int .i64 0, .pointer (some ⟨w2.heap.size, 0, none⟩), .pointer (some ⟨w2.heap.size + 1, 0, none⟩), .pointer (some ⟨Bx, 0, none⟩), undef, .slice A n c, .int .i64 0, .int .i64 0, .bool false, undef, .slice A n c, .int .i64 n, .slice (some ⟨w1.heap.size, 0, none⟩) n n, .slice A n c, .func (.func 100) #[] #[.pointer (some ⟨Bs, 0, none⟩)], nmV x.1.1 x.1.2.1 x.1.2.2.1 x.1.2.2.2, undef, undef, undef, undef, undef, undef, undef, undef, undef, undef, undef, undef, undef, undef, undef, undef, undef, undef, undef, undef], defers := [] })
      (fun x a' _ X Y row hs hg hr => by obtain ⟨Bx, h1, h2, h3⟩ := hs; exact ⟨Bx, h1, bk_own Bx 75 (fun (_ : Unit) => #[.int .i64 x.1.1, .int .i64 x.1.2.1, .int .i64 x.1.2.2.1, .int .i64 x.1.2.2.2]) () X Y row h2 hg (fun r e => (hr r e).2), h3⟩)
      ?assign ?body ?done ?stop
    case assign =>
      rintro l pre x W K ⟨⟨h1, h2, h3⟩, hB1, hs1⟩ hK
      dsimp only [nmE]
      gi_wp2
      exact hK _ _ ((KeepsOthers.alloc _ _).from _) ((KB.refl g W).alloc (by omega) _) ⟨⟨h1.more _, h2.alloc _, h3.alloc _⟩, hB1.alloc hB1.size _, by simp; omega⟩ ⟨W.heap.size, hs1, Bk.born W _ _, rfl⟩
    case body =>
      rintro l pre x a' W hl ⟨r, hr⟩ ⟨⟨h1, h2, h3⟩, hB1, hs1⟩ ⟨Bx, hBx, bX, rfl⟩ hlt
      clear hr
      have HOK := rosOk n (pre.map (·.1))
      have hxok := HOX.out x
      have hxn := HNX.out x
      rw [HLX.out] at hxn
      have hfl : fre (rosS n (pre.map (·.1))).1 x.1 < 12 := fre_lt HOK.ul (by have := HOK.un; rw [List.length_map] at this; omega) (by unfold okN at hxok; omega)
      have HFB := hide (fun j (hj : j < fre (rosS n (pre.map (·.1))).1 x.1) => fre_busy (u := (rosS n (pre.map (·.1))).1) (s := x.1) hj (by rw [HOK.ul]; omega))
      have hff := fre_free (u := (rosS n (pre.map (·.1))).1) (s := x.1) (by rw [HOK.ul]; exact hfl)
      have HUL := hide HOK.ul
      have HRL := hide HOK.rl
      have HSN := hide (show rosS n ((pre ++ [x]).map (·.1)) = rosF (rosS n (pre.map (·.1))) x.1 by rw [List.map_append, List.map_cons, List.map_nil, rosS_snoc])
      unfold rosF at HSN
      have hx1 : 0 ≤ x.1.1 ∧ x.1.1 ≤ 1000 ∧ 0 ≤ x.1.2.1 ∧ x.1.2.1 ≤ 1000 := by unfold okN at hxok; omega
      have HB1 := hide hB1
      have cP := h3.cell
      have HBR := hide h3
      have HBU := hide h1
      have HOR := hide h2
      obtain ⟨k1, k2, k3, k4, _⟩ := bk4 bX
      have HBX := hide bX
      have hBxW : Bx < W.heap.size := bX.in_
      clear h1 h2 h3 hB1 HOK hxok bX
      generalize fre (rosS n (pre.map (·.1))).1 x.1 = f at *
      generalize hrs : rosS n (pre.map (·.1)) = rs at *
      clear hrs
      obtain ⟨u, rr⟩ := rs
      obtain ⟨⟨x1, x2, x3, x4⟩, hxm⟩ := x
      dsimp only at *
      obtain ⟨hx40, hx41, _⟩ := hxn
      obtain ⟨v4, rfl⟩ : ∃ v4 : Nat, x4 = v4 := ⟨x4.toNat, by omega⟩
      rw [Int.toNat_natCast] at HSN
      have hv4 : v4 < n := by omega
      gi_wp2
      gi_loopw [8] (fun i wr => ∃ k q : Nat, k ≤ f ∧ i = .int .i64 k ∧ wr = W.drewN q) (fun i _ => f - (intOf i).toNat)
      case atStart => exact ⟨0, 0, Nat.zero_le _, rfl, rfl⟩
      case round =>
        obtain ⟨k, q, hk, rfl, rfl⟩ := hrel
        by_cases hlt2 : k < f
        · have hv := HFB.out k hlt2
          have cU : W.cell? ⟨w2.heap.size + 1, k, none⟩ = some (.int .i64 (u.getD k 0)) := (HBU.out.at_ k).trans (arr_get (by rw [HUL.out]; omega))
          generalize u.getD k 0 = t at *
          have i1 : (k : Int) < 12 := by omega
          gi_wp2
          refine region_quiet_round (by kernel_rfl) (by kernel_rfl) (by kernel_rfl) ?_
          (refine qw_step (fun K hK => ?_); go_simp; refine hK _ ?_; clear hK K)
          (refine qw_step (fun K hK => ?_); go_simp; refine hK _ ?_; clear hK K)
          (refine qw_step (fun K hK => ?_); go_simp; refine hK _ ?_; clear hK K)
          (refine qw_step (fun K hK => ?_); go_simp; refine hK _ ?_; clear hK K)
          (refine qw_step (fun K hK => ?_); go_simp; refine hK _ ?_; clear hK K)
          (refine qw_step (fun K hK => ?_); go_simp; refine hK _ ?_; clear hK K)
          (refine qw_step (fun K hK => ?_); go_simp; refine hK _ ?_; clear hK K)
          refine qw_nil ?_
          intro _ hw'
          obtain ⟨nq, hw''⟩ := hw'
          subst hw''
          gi_wp2
          go_roundw
          case rel => exact ⟨k + 1, q + nq, by omega, by go_num, by first | rfl | (rw [World.drewN_drewN])⟩
          case measure => simp [intOf]; omega
        · obtain rfl : k = f := by omega
          have cU : W.cell? ⟨w2.heap.size + 1, k, none⟩ = some (.int .i64 (u.getD k 0)) := (HBU.out.at_ k).trans (arr_get (by rw [HUL.out]; omega))
          generalize u.getD k 0 = t at *
          have i1 : (k : Int) < 12 := by omega
          gi_wp2
          refine region_quiet_round (by kernel_rfl) (by kernel_rfl) (by kernel_rfl) ?_
          (refine qw_step (fun K hK => ?_); go_simp; refine hK _ ?_; clear hK K)
          (refine qw_step (fun K hK => ?_); go_simp; refine hK _ ?_; clear hK K)
          (refine qw_step (fun K hK => ?_); go_simp; refine hK _ ?_; clear hK K)
          (refine qw_step (fun K hK => ?_); go_simp; refine hK _ ?_; clear hK K)
          (refine qw_step (fun K hK => ?_); go_simp; refine hK _ ?_; clear hK K)
          (refine qw_step (fun K hK => ?_); go_simp; refine hK _ ?_; clear hK K)
          (refine qw_step (fun K hK => ?_); go_simp; refine hK _ ?_; clear hK K)
          refine qw_nil ?_
          intro _ hw'
          obtain ⟨nq, hw''⟩ := hw'
          subst hw''
          gi_wp2
          rw [World.drewN_drewN]
          generalize q + nq = q2
          have dR := own1 HOR.out hv4
          have fR := HOR.out.frozen v4
          have fU := HBU.out.fr k
          have i2 : (v4 : Int) < (n : Int) := by omega
          have HBU1 := hide ((HBU.out.draws (q2 + 1)).apart (p := ⟨w1.heap.size, v4, none⟩) (by simp; omega) (.int .i64 (k : Int)))
          refine region_held_round (S := (fun w' => w'.cell? ⟨w2.heap.size, 0, none⟩ = some (.slice (some ⟨w1.heap.size, 0, none⟩) n n) ∧ w'.cell? ⟨Bx, 3, none⟩ = some (.int .i64 (v4 : Int)) ∧ w'.cell? ⟨Bx, 1, none⟩ = some (.int .i64 x2))) (by kernel_rfl) (by kernel_rfl) ⟨cP, k4, k2⟩ (fun hHeld => ?_)
          refine wpAnyH_take (i := 0) (v := ?_) rfl (by decide +kernel) (by decide +kernel) (by decide +kernel) (fun _ _ _ h => by cases h.1) (Or.inl ⟨by rfl, ?_⟩) (by assumption) ?_
          rotate_left
          · intro w' hSw
            (try dsimp only at hSw)
            first | (go_simp; done) | (go_simp; with_reducible rfl)
          try simp only [Act.put, List.setIfInBounds_toArray, List.set_cons_zero, List.set_cons_succ]
          refine wpAnyH_take (i := 1) (v := ?_) rfl (by decide +kernel) (by decide +kernel) (by decide +kernel) (fun _ _ _ h => by cases h.1) (Or.inl ⟨by rfl, ?_⟩) (by assumption) ?_
          rotate_left
          · intro w' hSw
            (try dsimp only at hSw)
            first | (go_simp; done) | (go_simp; with_reducible rfl)
          try simp only [Act.put, List.setIfInBounds_toArray, List.set_cons_zero, List.set_cons_succ]
          refine wpAnyH_take (i := 2) (v := ?_) rfl (by decide +kernel) (by decide +kernel) (by decide +kernel) (fun _ _ _ h => by cases h.1) (Or.inl ⟨by rfl, ?_⟩) (by assumption) ?_
          rotate_left
          · intro w' hSw
            (try dsimp only at hSw)
            first | (go_simp; done) | (go_simp; with_reducible rfl)
          try simp only [Act.put, List.setIfInBounds_toArray, List.set_cons_zero, List.set_cons_succ]
          refine wpAnyH_take (i := 3) (v := ?_) rfl (by decide +kernel) (by decide +kernel) (by decide +kernel) (fun _ _ _ h => by cases h.1) (Or.inl ⟨by rfl, ?_⟩) (by assumption) ?_
          rotate_left
          · intro w' hSw
            (try dsimp only at hSw)
            first | (go_simp; done) | (go_simp; with_reducible rfl)
          try simp only [Act.put, List.setIfInBounds_toArray, List.set_cons_zero, List.set_cons_succ]
          refine wpAnyH_take (i := 4) (v := ?_) rfl (by decide +kernel) (by decide +kernel) (by decide +kernel) (fun _ _ _ h => by cases h.1) (Or.inl ⟨by rfl, ?_⟩) (by assumption) ?_
          rotate_left
          · intro w' hSw
            (try dsimp only at hSw)
            first | (go_simp; done) | (go_simp; with_reducible rfl)
          try simp only [Act.put, List.setIfInBounds_toArray, List.set_cons_zero, List.set_cons_succ]
          refine wpAnyH_take (i := 5) (v := ?_) rfl (by decide +kernel) (by decide +kernel) (by decide +kernel) (fun _ _ _ h => by cases h.1) (Or.inl ⟨by rfl, ?_⟩) (by assumption) ?_
          rotate_left
          · intro w' hSw
            (try dsimp only at hSw)
            first | (go_simp; done) | (go_simp; with_reducible rfl)
          try simp only [Act.put, List.setIfInBounds_toArray, List.set_cons_zero, List.set_cons_succ]
          refine wpAnyH_take (i := 6) (v := ?_) rfl (by decide +kernel) (by decide +kernel) (by decide +kernel) (fun _ _ _ h => by cases h.1) (Or.inl ⟨by rfl, ?_⟩) (by assumption) ?_
          rotate_left
          · intro w' hSw
            (try dsimp only at hSw)
            first | (go_simp; done) | (go_simp; with_reducible rfl)
          try simp only [Act.put, List.setIfInBounds_toArray, List.set_cons_zero, List.set_cons_succ]
          refine wpAnyH_take (i := 7) (v := ?_) rfl (by decide +kernel) (by decide +kernel) (by decide +kernel) (fun _ _ _ h => by cases h.1) (Or.inl ⟨by rfl, ?_⟩) (by assumption) ?_
          rotate_left
          · intro w' hSw
            (try dsimp only at hSw)
            first | (go_simp; done) | (go_simp; with_reducible rfl)
          try simp only [Act.put, List.setIfInBounds_toArray, List.set_cons_zero, List.set_cons_succ]
          refine wpAnyH_take (i := 8) (v := ?_) rfl (by decide +kernel) (by decide +kernel) (by decide +kernel) (fun _ _ _ h => by cases h.1) (Or.inl ⟨by rfl, ?_⟩) (by assumption) ?_
          rotate_left
          · intro w' hSw
            (try dsimp only at hSw)
            first | (go_simp; done) | (go_simp; with_reducible rfl)
          try simp only [Act.put, List.setIfInBounds_toArray, List.set_cons_zero, List.set_cons_succ]
          refine wpAnyH_ready (rs := [9]) (by decide +kernel) (by simp) ?_
          refine AllReadyH.cons rfl (fun K hK => ?_) AllReadyH.nil
          rw [if_pos (by rfl)]
          go_simp
          refine hK.out _ _ ?_ (fun hHeld => ?_)
          · exact ⟨(World.cell?_setCell_other _ ⟨w1.heap.size, v4, none⟩ _ _ (by intro e; injection e with e1; omega)).trans cP, (World.cell?_setCell_other _ ⟨w1.heap.size, v4, none⟩ _ _ (by intro e; injection e with e1; omega)).trans k4, (World.cell?_setCell_other _ ⟨w1.heap.size, v4, none⟩ _ _ (by intro e; injection e with e1; omega)).trans k2⟩
          clear hK K
          try simp only [Act.put, List.setIfInBounds_toArray, List.set_cons_zero, List.set_cons_succ]
          have fU2 := HBU1.out.fr k
          have cU2 := (HBU1.out.at_ k).trans (arr_get (u := u) (k := k) (by rw [HUL.out]; omega))
          refine wpAnyH_take (i := 10) (v := ?_) rfl (by decide +kernel) (by decide +kernel) (by decide +kernel) (fun _ _ _ h => by cases h.1) (Or.inl ⟨by rfl, ?_⟩) (by assumption) ?_
          rotate_left
          · intro w' hSw
            (try dsimp only at hSw)
            first | (go_simp; done) | (go_simp; with_reducible rfl)
          try simp only [Act.put, List.setIfInBounds_toArray, List.set_cons_zero, List.set_cons_succ]
          refine wpAnyH_ready (rs := [11]) (by decide +kernel) (by simp) ?_
          refine AllReadyH.cons rfl (fun K hK => ?_) AllReadyH.nil
          rw [if_pos (by rfl)]
          go_simp
          refine hK.out _ _ ?_ (fun hHeld => ?_)
          · exact ⟨(World.cell?_setCell_other _ ⟨w2.heap.size + 1, k, none⟩ _ _ (by intro e; injection e with e1; omega)).trans hHeld.1, (World.cell?_setCell_other _ ⟨w2.heap.size + 1, k, none⟩ _ _ (by intro e; injection e with e1; omega)).trans hHeld.2.1, (World.cell?_setCell_other _ ⟨w2.heap.size + 1, k, none⟩ _ _ (by intro e; injection e with e1; omega)).trans hHeld.2.2⟩
          clear hK K
          try simp only [Act.put, List.setIfInBounds_toArray, List.set_cons_zero, List.set_cons_succ]
          refine wpAnyH_done (by kernel_rfl) ?_ _
          refine ⟨rfl, ?_⟩
          gi_wp2
          refine ⟨((st_keeps HOR.out (q2 + 1) v4 (.int .i64 (k : Int))).trans (KeepsOthers.setCell _ _ _)).from _, (st_kb (by omega) (q2 + 1) v4 (.int .i64 (k : Int))).setCell (p := ⟨w2.heap.size + 1, k, none⟩) (by simp; omega) _, ⟨?_, ?_, ?_⟩, ?_, ?_⟩
          · rw [HSN.out, ← arr_set]; exact HBU1.out.put k _
          · rw [HSN.out]; exact own_away (Own.stored1 (HOR.out.drewN (q2 + 1)) hv4 _) (by omega) _ _
          · exact (Below.heap_setCell _ ⟨w2.heap.size + 1, k, none⟩ _ w2.heap.size (by simp)).trans (st_boxed HBR.out (by omega) (q2 + 1) v4 (.int .i64 (k : Int)))
          · exact (st_below HB1.out hwz (q2 + 1) v4 (.int .i64 (k : Int))).setCell (p := ⟨w2.heap.size + 1, k, none⟩) (by simp; omega) _
          · have := st_size hs1 (go := w1.heap.size) (q2 + 1) v4 (.int .i64 (k : Int)); simp at this ⊢; omega
    case done =>
      rintro D ys W hD rfl ⟨⟨h1, h2, h3⟩, hB1, hs1⟩ hK
      have cP := h3.cell
      have HB1 := hide hB1
      rw [List.attach_map_subtype_val] at h2
      have HOW := hide h2
      have HRR := hide (ros_right HE.out HO.out)
      rw [HLX.out] at HRR
      clear h1 h2 h3 hB1
      gi_wp2
      have hb0 := belowK_b (w := w) (Nat.le_refl _) W D (.deferred (some [])) (.deferred none) (by omega) hK rfl rfl
      refine ⟨by simp, .inl ⟨_, _, rfl, run_takeDeferred hK, ?_⟩⟩
      refine ⟨.tuple #[.slice (some ⟨w1.heap.size, 0, none⟩) n n, .int .i64 0], by simp [results, Try.f32, go_sem], some ⟨w1.heap.size, 0, none⟩, n, n, (rosS n L).2, by rw [HE.out], fun _ => ⟨by rw [HLX.out]; exact HRR.out.1, HRR.out.2.1, by rw [HRR.out.2.2.1]; unfold peak; rw [if_pos HE.out], HRR.out.2.2.2⟩, fun h => absurd HE.out h, ?_, HB1.out.trans hb0⟩
      exact ownRow_own E1 w.heap.size 3 (fun (_ : Unit) => some ⟨w1.heap.size, 0, none⟩) (fun _ => n) (fun _ => n) (fun _ => (rosS n L).2) () W _ (some D) HOW.out (grownBy_putObj' W D (.deferred none)) (fun r e => by cases e; exact ⟨_, hK, rfl⟩)
    case stop =>
      rintro D c' pre W _ _ h _
      exact h.elim
  · have HE := hide he
    have hne : (errV xs != 0) = true := by simpa using he
    clear he
    go_enter Try.func32, Try.ntmps32
    go_wp2_with (first | (go_at_call 23; refine (Validate_any _ _ _ xs _ h hn).mono ?_; rintro e w1 ⟨rfl, b1⟩))
    go_ret2
    exact ⟨none, 0, 0, [], rfl, fun h => absurd h HE.out, fun _ => rfl, Own.nil _ _ _ _, b1⟩
end Go.Proofs.Ytpkjgnllkaafkaa
