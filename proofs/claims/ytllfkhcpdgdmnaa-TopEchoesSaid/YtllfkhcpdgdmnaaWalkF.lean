/- The document's delays. -/
import Derived.Test.YtllfkhcpdgdmnaaSrt
import Derived.StillTailTactics
import Derived.Deep.AppendLies
import Derived.Deep.RegionLaw
namespace Go.Proofs.Ytllfkhcpdgdmnaa
open Go.RowKit Go.Shelf

section
variable {α : Type} {E : Enc α} {P : Program} (w : World) {ops : Array Oper} {o : Oper} {a : Act} {K : Act → World → Prop} {Q : Exit → Act → World → Prop} {F : Prop}
/-- out = append(out, x) at a step of a region that draws its order. -/
theorem step_app1 (z : Value) (bytes : Nat) (hgd : o.guard = none) (s x : Operand) (t e : TypeId) (ho : o.op = .call { callee := .builtin .append, args := #[s, x], argTypes := #[t, t] })
    (hu : P.underlying t = some (.slice e)) (hinfo : (P.info? e).map (fun i => (i.zero, i.size, i.bytes)) = some (some z, E.size, bytes)) (hz : z.cells.size = E.size) (hE : 0 < E.size) (hby : bytes ≤ 64)
    (B n c : Nat) (A : Option Addr) (l : List α) (y : α) (cs : Array Value) (hcs : cs = (E.enc y).toArray) (hs : a.eval s = .slice A n c) (hx : a.eval x = .slice (some ⟨w.heap.size, 0, none⟩) 1 1)
    (hown : Own E w B e A n c l) (hn : n ≤ 1000000) (hB : B ≤ w.heap.size)
    (h : ∀ A' c' w', Own E w' B e A' (n + 1) c' (l ++ [y]) → Below B w w' → K (a.put o.dst (.slice A' (n + 1) c')) w') :
    if Region.wanted o (yielded ops a.tmps) = true then Oper.wp P o a (w.alloc (.cells cs e)) K Q else F := by
  subst hcs
  obtain ⟨i0, hi, hz0, hz1, hz2⟩ := info_parts hinfo
  have hlen := E.len y
  have hl := hown.len
  refine step_append_lies (w.alloc (.cells (E.enc y).toArray e)) hgd s x t ho B e i0 z E.size bytes hu hi hz0 hz1 hz2 hz hE _ n (E.cells l) hs (World.ownsRow.alloc hown.2 _)
    ⟨w.heap.size, 0, none⟩ 1 1 (E.enc y) hx (by omega) (fun j u hu => World.news_of_block (heap_alloc_new w (.cells (E.enc y).toArray e)) j u (by simpa using hu)) (E.one y) (by omega) (by unfold maxLen; omega) ?_ (by simp; omega) _ rfl ?_
  · have : (n + 1) * bytes ≤ (n + 1) * 64 := Nat.mul_le_mul_left _ hby
    omega
  · intro g cap w' hown' hg _ _
    have hown2 : w'.ownsRow B e E.size (.slice (some ⟨g, 0, none⟩) (n + 1) cap) (n + 1) (E.cells (l ++ [y])) := by
      rw [E.cells_app]
      have e1 : E.cells [y] = E.enc y := by simp [Enc.cells]
      rw [e1]
      exact hown'
    have hg2 : w.grownBy w' (Value.slice A n c).ownBlock :=
      ⟨hg.os, hg.tape, hg.output, Nat.le_trans (by simp) hg.size, fun k hk hne => (hg.block k (by simp; omega) hne).trans (Below.heap_alloc w _ k hk)⟩
    refine h _ cap w' ⟨by simp [hl], hown2⟩ ((Below.refl B w).grown hg2 hB fun k hk => ?_)
    rcases hown.form with ⟨rfl, _⟩ | ⟨g, rfl, hbg, _⟩
    · simp [Value.ownBlock] at hk
    · simp [Value.ownBlock] at hk; omega
end
theorem below_undrew {B : Nat} {W W' : World} (h : Below B W.drew W') : Below B W W' := ⟨h.os, h.tape, h.output, h.size, h.block⟩
set_option maxRecDepth 100000 in
set_option maxHeartbeats 4000000 in
theorem rdelays_any (A : Option Addr) (n c : Nat) (xs : List Int) (w : World) (h : R E1 w A n c xs) (hn : n ≤ 6) (hv : OkTo xs n) :
    Calls Try.prog 59 #[.slice A n c] w (IntsPost (sortZ (dif xs)) w) := by
  have HL := hide h.length
  have HV := hide hv
  clear hv
  obtain ⟨b, off, hr⟩ := h
  have HR := hide hr
  have hcap := hr.cap
  have hmax := hr.max
  clear hr
  go_enter Try.func59, Try.ntmps59
  go_wp2_with fail
  go_loopw [3, 4] (fun v i wr => ∃ (k : Nat) (B : Option Addr) (m q : Nat), k ≤ n ∧ i = .int .i64 k ∧ v = .slice B m q ∧ Hid (Own E1 wr w.heap.size 3 B m q (difTo xs k)) ∧ Hid (m ≤ 6 * k) ∧ Hid (Below w.heap.size w wr)) (fun _ i _ => n - (intOf i).toNat)
  case atStart => exact ⟨0, none, 0, 0, Nat.zero_le _, rfl, rfl, hide (Own.nil E1 _ _ _), hide (Nat.zero_le _), hide (Below.refl _ _)⟩
  case round =>
    obtain ⟨k, B, m, q, hk, rfl, rfl, HO, HM, HB⟩ := hrel
    by_cases hlt : k < n
    · obtain rfl := HR.out.at_ (by omega)
      have hbl := HR.out.lt (by omega)
      have hkc : k ≤ c := by omega
      have hm := HM.out
      have hx := okTo_bd HV.out hlt
      have HS := hide (fun p => rowD_succ xs k p)
      have HZ := hide (rowD_zero xs k)
      have HD := hide (difTo_succ xs k)
      have ha1 := hide (fun (W : World) (h : Below w.heap.size w W) => c1 (HR.out.under h fun _ => hbl) hlt)
      generalize hxe : xs.getD k 0 = x at ha1 hx HS
      clear hxe
      go_wp2_with fail
      go_loopw [3, 5] (fun v j wr2 => ∃ (p : Nat) (B2 : Option Addr) (m2 q2 : Nat), p ≤ k ∧ j = .int .i64 p ∧ v = .slice B2 m2 q2 ∧ Hid (Own E1 wr2 w.heap.size 3 B2 m2 q2 (difTo xs k ++ rowD xs k p)) ∧ Hid (m2 ≤ 6 * k + p) ∧ Hid (Below w.heap.size w wr2)) (fun _ j _ => k - (intOf j).toNat)
      case atStart => exact ⟨0, B, m, q, Nat.zero_le _, rfl, rfl, hide (by rw [HZ.out, List.append_nil]; exact HO.out), hide hm, HB⟩
      case round =>
        obtain ⟨p, B2, m2, q2, hp, rfl, rfl, HO2, HM2, HB2⟩ := hrel
        by_cases hlp : p < k
        · have a1 : wr.drew.cell? ⟨b, off + k, none⟩ = some (.int .i64 x) := ha1.out _ HB2.out.drew
          have a2 : wr.drew.cell? ⟨b, off + p, none⟩ = some (.int .i64 (xs.getD p 0)) := c1 (HR.out.under HB2.out.drew fun _ => hbl) (k := p) (by omega)
          have hy := okTo_bd HV.out (i := p) (by omega)
          have hm2 := HM2.out
          have HS2 := hide (HS.out p)
          generalize xs.getD p 0 = y at a2 hy HS2
          have hsz := HB2.out.size
          have hkn : (k : Int) < (n : Int) := by omega
          have hpn : (p : Int) < (n : Int) := by omega
          have hpk : (p : Int) < (k : Int) := by omega
          have HD2 := hide HB2.out.drew
          go_wp2_with fail
          have hw : IntKind.i64.wrap (x - y) = x - y := IntWalk.i64_in _ (by omega)
          go_region_law (refine step_app1 (E := E1) wr.drew (.int .i64 0) 8 rfl (.tmp 17) (.tmp 27) 22 3 rfl Try.underlying22 info_int rfl (by decide) (by omega) w.heap.size _ _ _ _ (x - y) _ rfl rfl rfl (HO2.out.drew) (by omega) hsz ?_; intro A2 c2 w5 o5 b5)
          all_goals
            go_wp2_with fail
            go_roundw
            case rel => exact ⟨p + 1, A2, m2 + 1, c2, by omega, by go_num, rfl, hide (by rw [HS2.out, ← List.append_assoc]; exact o5), hide (by omega), hide (HD2.out.trans b5)⟩
            case measure => simp [intOf]; omega
        · obtain rfl : p = k := by omega
          have hm2 := HM2.out
          go_wp2_with fail
          go_roundw
          case rel => exact ⟨p + 1, B2, m2, q2, by omega, by go_num, rfl, hide (by rw [HD.out]; exact HO2.out), hide (by omega), HB2⟩
          case measure => simp [intOf]; omega
    · obtain rfl : k = n := by omega
      have hm := HM.out
      have HD := hide (show difTo xs k = dif xs by unfold dif; rw [HL.out])
      go_wp2_with (go_at_call 85; refine (rsorted_any _ _ _ _ _ _ HO.out (by omega)).mono ?_; rintro e w1 ⟨A3, n3, c3, rfl, o3, b3⟩)
      go_ret
      exact ⟨A3, n3, c3, rfl, by rw [← HD.out]; exact o3.more HB.out.size, HB.out.trans (b3.mono HB.out.size)⟩
end Go.Proofs.Ytllfkhcpdgdmnaa
