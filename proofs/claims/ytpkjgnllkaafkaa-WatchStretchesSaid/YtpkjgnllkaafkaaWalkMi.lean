/- Mirror on both sides. -/
import Derived.Test.YtpkjgnllkaafkaaWalkSw
import Derived.Deep.AppendLies
namespace Go.Proofs.Ytpkjgnllkaafkaa
open Go.RowKit

theorem wp_tail {P : Program} {Q : Exit → Act → World → Prop} {id : Nat} {a : Act} {w : World} {l : List Oper} (k : Nat) (hm : P.follows .mixedOrders = true) (hB : Region.lexTailB .any l.toArray k = true)
    (h : wpStill P l.toArray w.drew (fun a' => wpList P l.toArray Q (l.drop k) a' w.drew) (l.take k) a) : (Code.region id l.toArray true).wp P Q a w := wp_region_still_tail k hm hB h
section
variable {α : Type} {E : Enc α} {P : Program} (w : World) {ops : Array Oper} {o : Oper} {a : Act} {K : Act → World → Prop} {Q : Exit → Act → World → Prop} {F : Prop}
/-- out = append(out, x) at a step of a region that draws its order. -/
theorem step_app1 (z : Value) (bytes : Nat) (hgd : o.guard = none) (s x : Operand) (t e : TypeId) (ho : o.op = .call { callee := .builtin .append, args := #[s, x], argTypes := #[t, t] })
    (hu : P.underlying t = some (.slice e)) (hinfo : (P.info? e).map (fun i => (i.zero, i.size, i.bytes)) = some (some z, E.size, bytes)) (hz : z.cells.size = E.size) (hE : 0 < E.size) (hby : bytes ≤ 64)
    (B n c : Nat) (A : Option Addr) (l : List α) (y : α) (cs : Array Value) (hcs : cs = (E.enc y).toArray) (hs : a.eval s = .slice A n c) (hx : a.eval x = .slice (some ⟨w.heap.size, 0, none⟩) 1 1)
    (hown : Own E w B e A n c l) (hn : n ≤ 1000000) (hB : B ≤ w.heap.size)
    (h : ∀ A' c' w', Own E w' B e A' (n + 1) c' (l ++ [y]) → Below B w w' → K (a.put o.dst (.slice A' (n + 1) c')) w') :
    if Region.wanted o (yielded ops a.tmps) = true then Oper.wp P o a (w.alloc (.cells cs e)) K Q else F := by
  subst hcs
  obtain ⟨i0, hi, hz0, hz1, hz2⟩ := info_parts hinfo
  have hlen := E.len y
  have hl := hown.len
  refine step_append_lies (w.alloc (.cells (E.enc y).toArray e)) hgd s x t ho B e i0 z E.size bytes hu hi hz0 hz1 hz2 hz hE _ n (E.cells l) hs (World.ownsRow.alloc hown.2 _)
    ⟨w.heap.size, 0, none⟩ 1 1 (E.enc y) hx (by omega) (fun j u hu => World.news_of_block (heap_alloc_new w (.cells (E.enc y).toArray e)) j u (by simpa using hu)) (E.one y) (by omega) (by unfold maxLen; omega) ?_ (by simp; omega) _ rfl ?_
  · have : (n + 1) * bytes ≤ (n + 1) * 64 := Nat.mul_le_mul_left _ hby
    omega
  · intro g cap w' hown' hg _ _
    have hown2 : w'.ownsRow B e E.size (.slice (some ⟨g, 0, none⟩) (n + 1) cap) (n + 1) (E.cells (l ++ [y])) := by
      rw [E.cells_app]
      have e1 : E.cells [y] = E.enc y := by simp [Enc.cells]
      rw [e1]
      exact hown'
    have hg2 : w.grownBy w' (Value.slice A n c).ownBlock :=
      ⟨hg.os, hg.tape, hg.output, Nat.le_trans (by simp) hg.size, fun k hk hne => (hg.block k (by simp; omega) hne).trans (Below.heap_alloc w _ k hk)⟩
    refine h _ cap w' ⟨by simp [hl], hown2⟩ ((Below.refl B w).grown hg2 hB fun k hk => ?_)
    rcases hown.form with ⟨rfl, _⟩ | ⟨g, rfl, hbg, _⟩
    · simp [Value.ownBlock] at hk
    · simp [Value.ownBlock] at hk; omega
end
def mirTo (xs : Ls) (k : Nat) : Ls := (xs.take k).map mir ++ xs.drop k
theorem mirTo_zero (xs : Ls) : mirTo xs 0 = xs := by simp [mirTo]
theorem mirTo_all {xs : Ls} {n : Nat} (h : xs.length = n) : mirTo xs n = mirL xs := by
  subst h
  simp [mirTo, mirL]
theorem mirTo_get {xs : Ls} {k : Nat} (h : k < xs.length) : (mirTo xs k).getD k sh0 = xs.getD k sh0 := by
  unfold mirTo
  have hl : ((xs.take k).map mir).length = k := by rw [List.length_map, List.length_take]; omega
  rw [List.getD_eq_getElem?_getD, List.getElem?_append_right (by omega), hl, Nat.sub_self, List.getElem?_drop, Nat.add_zero, List.getD_eq_getElem?_getD]
theorem mirTo_set {xs : Ls} {k : Nat} (h : k < xs.length) : (mirTo xs k).set k (mir (xs.getD k sh0)) = mirTo xs (k + 1) := by
  unfold mirTo
  have hl : ((xs.take k).map mir).length = k := by rw [List.length_map, List.length_take]; omega
  rw [List.set_append, if_neg (by omega), hl, Nat.sub_self, List.drop_eq_getElem_cons h, List.set_cons_zero, List.take_succ_eq_append_getElem h]
  have e : xs.getD k sh0 = xs[k] := by simp [List.getD_eq_getElem?_getD, h]
  rw [e, List.map_append, List.append_assoc]
  rfl
theorem Own.mirrored {w : World} {B n c g : Nat} {e : TypeId} {xs : Ls} {k : Nat} {x y z : Int} (h : Own E3 w B e (some ⟨g, 0, none⟩) n c (mirTo xs k)) (hk : k < n) (hl : xs.length = n) (hx : xs.getD k sh0 = (x, y, z)) :
    Own E3 ((w.setCell ⟨g, k * 3, none⟩ (.int .i64 (1000 - y))).setCell ⟨g, k * 3 + 1, none⟩ (.int .i64 (1000 - x))) B e (some ⟨g, 0, none⟩) n c (mirTo xs (k + 1)) := by
  have h1 := h.stored (j := 0) hk (by decide) (.int .i64 (1000 - y)) (1000 - y, y, z) (by
    have e : (mirTo xs k).getD k E3.d = (x, y, z) := (mirTo_get (by omega)).trans hx
    rw [e]; rfl)
  have h2 := h1.stored (j := 1) hk (by decide) (.int .i64 (1000 - x)) (1000 - y, 1000 - x, z) (by
    have hkl : k < (mirTo xs k).length := by rw [h.len]; exact hk
    have e : ((mirTo xs k).set k (1000 - y, y, z)).getD k E3.d = (1000 - y, y, z) := by simp [List.getD_eq_getElem?_getD, hkl]
    rw [e]; rfl)
  rw [List.set_set] at h2
  have e2 : (mirTo xs k).set k (1000 - y, 1000 - x, z) = mirTo xs (k + 1) := by
    rw [← mirTo_set (by omega), hx]; rfl
  rw [e2] at h2
  exact h2
theorem mirV_get {xs : Ls} (he : errV xs = 0) {k : Nat} (h : k < xs.length) : 0 ≤ (xs.getD k sh0).1 ∧ (xs.getD k sh0).1 ≤ 1000 ∧ 0 ≤ (xs.getD k sh0).2.1 ∧ (xs.getD k sh0).2.1 ≤ 1000 := by
  have := okS_iff.1 (shs_ok' (errV_ok.1 he).2 h)
  omega
/-- The mirrored shifts, new, and an error. -/
def MiPost (xs : Ls) (w : World) (e : Ending) (w' : World) : Prop :=
  ∃ (A : Option Addr) (n c : Nat) (P : Ls), e = .returned (.tuple #[.slice A n c, .int .i64 (errV xs)]) ∧ (errV xs = 0 → P = mirL xs) ∧ (errV xs ≠ 0 → P = []) ∧ Own E3 w' w.heap.size 57 A n c P ∧ Below w.heap.size w w'

set_option maxHeartbeats 2000000 in
theorem Mirror_any (A : Option Addr) (n c : Nat) (xs : Ls) (w : World) (h : R E3 w A n c xs) (hn : n ≤ 1000) :
    Calls Try.prog 50 #[.slice A n c] w (MiPost xs w) := by
  by_cases he : errV xs = 0
  · have HE := hide he
    have HX := hide h
    have HL := hide h.length
    clear he h
    go_enter Try.func50, Try.ntmps50
    go_wp2_with (first
      | (go_at_call 23; refine (Validate_any _ _ _ xs _ HX.out hn).mono ?_; rintro e w1 ⟨rfl, b1⟩; rw [HE.out]; have B1 := hide b1; clear b1)
      | (go_at_call 86; refine (CloneS_any _ _ _ xs _ (HX.out.below B1.out (Nat.le_refl _)) hn).mono ?_; rintro e w2 ⟨A2, c2, rfl, o2, b2⟩; have O2 := hide (o2.more B1.out.size); have B2 := hide (B1.out.trans (b2.mono B1.out.size)); clear o2 b2))
    go_loopw [17] (fun i wr => ∃ k : Nat, k ≤ n ∧ i = .int .i64 k ∧ Hid (Own E3 wr w.heap.size 57 A2 n c2 (mirTo xs k)) ∧ Hid (Below w.heap.size w wr)) (fun i _ => n - (intOf i).toNat)
    case atStart => exact ⟨0, Nat.zero_le _, rfl, hide (by rw [mirTo_zero]; exact O2.out), B2⟩
    case round =>
      obtain ⟨k, hk, rfl, HO, HB⟩ := hrel
      by_cases hlt : k < n
      · obtain ⟨g, rfl, hg1, hg2, hg3, hg4⟩ := HO.out.addr (by omega)
        have hg4' : c2 ≤ 9223372036854775807 := hg4
        obtain ⟨d1, d2, d3⟩ := own3 HO.out hlt
        have f0 := HO.out.frozen (k * 3)
        have f1 := HO.out.frozen (k * 3 + 1)
        obtain ⟨b, off, hr⟩ := HX.out.below HB.out (Nat.le_refl _)
        obtain rfl := hr.at_ (by omega)
        have hbl := hr.lt (by omega)
        have hcap := hr.cap
        have hmax := hr.max
        obtain ⟨a1, a2, a3⟩ := c3 hr hlt
        clear hr
        have hb := mirV_get HE.out (k := k) (by rw [HL.out]; exact hlt)
        have HG := hide (fun (V : World) (x y z : Int) (hx : xs.getD k sh0 = (x, y, z)) (hh : Own E3 V w.heap.size 57 (some ⟨g, 0, none⟩) n c2 (mirTo xs k)) => hh.mirrored hlt HL.out hx)
        have hy : ∃ y, xs.getD k sh0 = y := ⟨_, rfl⟩
        obtain ⟨y, hy⟩ := hy
        rw [hy] at a1 a2 a3 hb
        have HY := hide hy
        clear hy hg4
        obtain ⟨y1, y2, y3⟩ := y
        dsimp only at *
        generalize (mirTo xs k).getD k sh0 = z at *
        obtain ⟨z1, z2, z3⟩ := z
        dsimp only at *
        have hsz := HB.out.size
        have i1 : (k : Int) < (n : Int) := by omega
        have hw1 : IntKind.i64.wrap (1000 - y2) = 1000 - y2 := IntWalk.i64_in _ (by omega)
        have hw2 : IntKind.i64.wrap (1000 - y1) = 1000 - y1 := IntWalk.i64_in _ (by omega)
        go_wp2_with fail
        go_region
        all_goals
          go_wp2_with fail
          go_roundw
          case rel => exact ⟨k + 1, by omega, by go_num, hide (((HG.out _ y1 y2 y3 HY.out HO.out).alloc _).drew), hide ((((HB.out.setCell (p := ⟨g, k * 3, none⟩) hg1 _).setCell (p := ⟨g, k * 3 + 1, none⟩) hg1 _).alloc (by simp; omega) _).drew)⟩
          case measure => simp [intOf]; omega
      · obtain rfl : k = n := by omega
        have HA := hide (mirTo_all HL.out)
        go_wp2_with fail
        go_ret2
        exact ⟨A2, k, c2, _, by rw [HE.out]; rfl, fun _ => HA.out, fun h => absurd HE.out h, HO.out, HB.out⟩
  · have HE := hide he
    have hne : (errV xs != 0) = true := by simpa using he
    clear he
    go_enter Try.func50, Try.ntmps50
    go_wp2_with (go_at_call 23; refine (Validate_any _ _ _ xs _ h hn).mono ?_; rintro e w1 ⟨rfl, b1⟩)
    go_ret2
    exact ⟨none, 0, 0, [], rfl, fun h => absurd h HE.out, fun _ => rfl, Own.nil _ _ _ _, b1⟩

theorem mirT_succ {xs : Ls} {k : Nat} (h : k < xs.length) {x y z : Int} (hx : xs.getD k sh0 = (x, y, z)) : (xs.take (k + 1)).map mir = (xs.take k).map mir ++ [(1000 - y, 1000 - x, z)] := by
  have e : xs.getD k sh0 = xs[k] := by simp [List.getD_eq_getElem?_getD, h]
  rw [List.take_succ_eq_append_getElem h, List.map_append, ← e, hx]
  rfl
set_option maxRecDepth 100000 in
set_option maxHeartbeats 2000000 in
theorem rMirror_any (A : Option Addr) (n c : Nat) (xs : Ls) (w : World) (h : R E3 w A n c xs) (hn : n ≤ 1000) :
    Calls Try.prog 51 #[.slice A n c] w (MiPost xs w) := by
  by_cases he : errV xs = 0
  · have HE := hide he
    have HX := hide h
    have HL := hide h.length
    clear he h
    go_enter Try.func51, Try.ntmps51
    go_wp2_with (first
      | (go_at_call 24; refine (rValidate_any _ _ _ xs _ HX.out hn).mono ?_; rintro e w1 ⟨rfl, b1⟩; rw [HE.out]; have B1 := hide b1; clear b1))
    go_loopw [5, 6] (fun v i wr => ∃ (k : Nat) (Ap : Option Addr) (q : Nat), k ≤ n ∧ i = .int .i64 k ∧ v = .slice Ap k q ∧ Hid (Own E3 wr w.heap.size 57 Ap k q ((xs.take k).map mir)) ∧ Hid (Below w.heap.size w wr)) (fun _ i _ => n - (intOf i).toNat)
    case atStart => exact ⟨0, none, 0, Nat.zero_le _, rfl, rfl, hide (Own.nil _ _ _ _), B1⟩
    case round =>
      obtain ⟨k, Ap, q, hk, rfl, rfl, HO, HB⟩ := hrel
      by_cases hlt : k < n
      · obtain ⟨b, off, hr⟩ := HX.out.below HB.out (Nat.le_refl _)
        obtain rfl := hr.at_ (by omega)
        have hbl := hr.lt (by omega)
        have hcap := hr.cap
        have hmax := hr.max
        obtain ⟨a1, a2, a3⟩ := c3 hr hlt
        clear hr
        have hb := mirV_get HE.out (k := k) (by rw [HL.out]; exact hlt)
        have HG := hide (fun (x y z : Int) (hx : xs.getD k sh0 = (x, y, z)) => mirT_succ (by rw [HL.out]; exact hlt) hx)
        have hy : ∃ y, xs.getD k sh0 = y := ⟨_, rfl⟩
        obtain ⟨y, hy⟩ := hy
        rw [hy] at a1 a2 a3 hb
        have HY := hide hy
        clear hy
        obtain ⟨y1, y2, y3⟩ := y
        dsimp only at *
        have hsz : w.heap.size ≤ wr.drew.heap.size := HB.out.size
        have i1 : (k : Int) < (n : Int) := by omega
        have hw1 : IntKind.i64.wrap (1000 - y2) = 1000 - y2 := IntWalk.i64_in _ (by omega)
        have hw2 : IntKind.i64.wrap (1000 - y1) = 1000 - y1 := IntWalk.i64_in _ (by omega)
        go_wp2_with fail
        go_region_law (refine step_app1 (E := E3) wr.drew (.agg #[.int .i64 0, .int .i64 0, .int .i64 0]) 24 rfl (.tmp 18) (.tmp 37) 22 57 rfl Try.underlying22 info_shift rfl (by decide) (by omega) w.heap.size _ _ _ _ ((1000 - y2, 1000 - y1, y3) : Sh) _ rfl rfl rfl (HO.out.drew) (by omega) hsz ?_; intro A5 c5 w5 o5 b5)
        all_goals
          go_wp2_with fail
          go_roundw
          case rel => exact ⟨k + 1, A5, c5, by omega, by go_num, rfl, hide (by rw [HG.out y1 y2 y3 HY.out]; exact o5), hide (HB.out.trans (below_undrew b5))⟩
          case measure => simp [intOf]; omega
      · obtain rfl : k = n := by omega
        have HA := hide (show (xs.take k).map mir = mirL xs by rw [List.take_of_length_le (by rw [HL.out]; exact Nat.le_refl _)]; rfl)
        go_wp2_with fail
        go_ret2
        exact ⟨Ap, k, q, _, by rw [HE.out]; rfl, fun _ => HA.out, fun h => absurd HE.out h, HO.out, HB.out⟩
  · have HE := hide he
    have hne : (errV xs != 0) = true := by simpa using he
    clear he
    go_enter Try.func51, Try.ntmps51
    go_wp2_with (go_at_call 24; refine (rValidate_any _ _ _ xs _ h hn).mono ?_; rintro e w1 ⟨rfl, b1⟩)
    go_ret2
    exact ⟨none, 0, 0, [], rfl, fun h => absurd h HE.out, fun _ => rfl, Own.nil _ _ _ _, b1⟩
end Go.Proofs.Ytpkjgnllkaafkaa
