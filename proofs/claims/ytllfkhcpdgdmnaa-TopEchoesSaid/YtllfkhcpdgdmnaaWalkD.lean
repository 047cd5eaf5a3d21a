/- The program's shift and differences. -/
import Derived.Test.YtllfkhcpdgdmnaaWalkC
import Derived.Test.YtllfkhcpdgdmnaaShelf
namespace Go.Proofs.Ytllfkhcpdgdmnaa
open Go.RowKit Go.Shelf

theorem info_int : (Try.prog.info? 3).map (fun i => (i.zero, i.size, i.bytes)) = some (some (.int .i64 0), 1, 8) := by kernel_rfl
/-- A row of integers of the call's own. -/
def IntsPost (l : List Int) (w : World) (e : Ending) (w' : World) : Prop :=
  ∃ A n c, e = .returned (.slice A n c) ∧ Own E1 w' w.heap.size 3 A n c l ∧ Below w.heap.size w w'
theorem take_step {f : Int → Int} {xs : List Int} {k : Nat} (hk : k < xs.length) : (xs.take (k + 1)).map f = (xs.take k).map f ++ [f (xs.getD k 0)] := by
  rw [List.take_succ_eq_append_getElem hk, List.map_append]
  simp [List.getD_eq_getElem?_getD, hk]
def addW (b x : Int) : Int := wrap64 (x + b)
set_option maxHeartbeats 1000000 in
theorem shift_any (A : Option Addr) (n c : Nat) (xs : List Int) (d : Int) (w : World) (h : R E1 w A n c xs) (hn : n ≤ 1000) :
    Calls Try.prog 91 #[.slice A n c, .int .i64 d] w (IntsPost (xs.map (addW d)) w) := by
  have HL := hide h.length
  obtain ⟨b, off, hr⟩ := h
  have HR := hide hr
  have hcap := hr.cap
  have hmax := hr.max
  clear hr
  go_enter Try.func91, Try.ntmps91
  go_wp2_with fail
  go_loopw [5, 10] (fun v i wr => ∃ (k : Nat) (B : Option Addr) (q : Nat), k ≤ n ∧ i = .int .i64 k ∧ v = .slice B k q ∧ Hid (Own E1 wr w.heap.size 3 B k q ((xs.take k).map (addW d))) ∧ Hid (Below w.heap.size w wr)) (fun _ i _ => n - (intOf i).toNat)
  case atStart => exact ⟨0, none, 0, Nat.zero_le _, rfl, rfl, hide (Own.nil E1 _ _ _), hide (Below.refl _ _)⟩
  case round =>
    obtain ⟨k, B, q, hk, rfl, rfl, HO, HB⟩ := hrel
    by_cases hlt : k < n
    · obtain rfl := HR.out.at_ (by omega)
      have hbl := HR.out.lt (by omega)
      have a1 := c1 (HR.out.under HB.out fun _ => hbl) hlt
      have HS := hide (take_step (f := addW d) (xs := xs) (k := k) (by rw [HL.out]; exact hlt))
      have hsz := HB.out.size
      generalize xs.getD k 0 = x at a1 HS
      have HW := hide (show addW d x = wrap64 (x + d) from rfl)
      go_wp2_with ((at_builtin; refine wpList_app1 (E := E1) _ (.int .i64 0) 8 rfl (.tmp 14) (.tmp 18) 22 3 rfl Try.underlying22 info_int rfl (by decide) (by omega) _ _ _ _ _ (wrap64 (x + d)) _ rfl rfl rfl HO.out (by omega) hsz ?_; intro A2 c2 w5 o5 b5 g5))
      go_roundw
      case rel => exact ⟨k + 1, A2, c2, by omega, by go_num, rfl, hide (by rw [HS.out, HW.out]; exact o5), hide (HB.out.trans b5)⟩
      case measure => simp [intOf]; omega
    · obtain rfl : k = n := by omega
      go_wp2_with fail
      go_ret
      exact ⟨B, k, q, rfl, by have := HO.out; rwa [List.take_of_length_le (by rw [HL.out]; exact Nat.le_refl _)] at this, HB.out⟩
end Go.Proofs.Ytllfkhcpdgdmnaa
