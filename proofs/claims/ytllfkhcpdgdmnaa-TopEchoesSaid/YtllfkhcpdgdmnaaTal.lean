/- The tally of delays. -/
import Derived.Test.YtllfkhcpdgdmnaaArr
namespace Go.Proofs.Ytllfkhcpdgdmnaa
open Go.RowKit

def inc1 (t : List Int) (d : Int) : List Int := t.set d.toNat (t.getD d.toNat 0 + 1)
def tal (ds : List Int) : List Int := ds.foldl inc1 none61
theorem tal_succ {ds : List Int} {k : Nat} (hk : k < ds.length) : tal (ds.take (k + 1)) = inc1 (tal (ds.take k)) (ds.getD k 0) := by
  unfold tal
  rw [List.take_succ_eq_append_getElem hk, List.foldl_append]
  simp [List.getD_eq_getElem?_getD, hk]
structure TalB (t : List Int) (m : Int) : Prop where
  len : t.length = 61
  at_ : ∀ k, k < 61 → 0 ≤ t.getD k 0 ∧ t.getD k 0 ≤ m
theorem TalB.zero : TalB none61 0 := ⟨rfl, fun k hk => by
  have : none61.getD k 0 = 0 := by
    unfold none61
    rw [List.getD_eq_getElem?_getD, List.getElem?_replicate]
    split <;> rfl
  omega⟩
theorem TalB.inc {t : List Int} {m d : Int} (h : TalB t m) (hd : d.toNat < 61) : TalB (inc1 t d) (m + 1) := by
  refine ⟨by unfold inc1; rw [List.length_set]; exact h.len, fun k hk => ?_⟩
  have h1 := h.at_ _ hd
  have h2 := h.at_ k hk
  unfold inc1
  by_cases e : d.toNat = k
  · subst e
    rw [List.getD_eq_getElem?_getD, List.getElem?_set_self (by rw [h.len]; exact hk), Option.getD_some]
    omega
  · rw [List.getD_eq_getElem?_getD, List.getElem?_set_ne e, ← List.getD_eq_getElem?_getD]
    omega
theorem TalB.tal {t : List Int} {m : Int} (h : TalB t m) (hm : m ≤ 1000) : Tal t := ⟨h.len, fun k hk => ⟨(h.at_ k hk).1, Int.le_trans (h.at_ k hk).2 hm⟩⟩
theorem tal_take (ds : List Int) (hd : ∀ k, k < ds.length → 0 ≤ ds.getD k 0 ∧ ds.getD k 0 ≤ 60) : ∀ k : Nat, k ≤ ds.length → TalB (tal (ds.take k)) k
  | 0, _ => TalB.zero
  | k + 1, hk => by
    rw [tal_succ (by omega)]
    have h1 := hd k (by omega)
    have h2 := (tal_take ds hd k (by omega)).inc (d := ds.getD k 0) (by omega)
    simpa using h2
theorem tal_ok {ds : List Int} (hd : ∀ k, k < ds.length → 0 ≤ ds.getD k 0 ∧ ds.getD k 0 ≤ 60) (hn : ds.length ≤ 1000) : Tal (tal ds) := by
  have h := tal_take ds hd ds.length (Nat.le_refl _)
  rw [List.take_length] at h
  exact h.tal (by omega)

set_option maxRecDepth 100000 in
set_option maxHeartbeats 4000000 in
theorem tallied_any (A : Option Addr) (n c : Nat) (ds : List Int) (w : World) (h : R E1 w A n c ds) (hn : n ≤ 1000) (hb : ∀ k, k < n → 0 ≤ ds.getD k 0 ∧ ds.getD k 0 ≤ 60) :
    Calls Try.prog 74 #[.slice A n c] w fun e w' => e = .returned (tv (tal ds)) ∧ Below w.heap.size w w' := by
  have HL := hide h.length
  obtain ⟨bk, off, hr⟩ := h
  have HR := hide hr
  have hcap := hr.cap
  have hmax := hr.max
  have HB := hide hb
  clear hr hb
  go_enter Try.func74, Try.ntmps74
  go_wp2_with fail
  go_loopw [8] (fun i wr => ∃ (k : Nat), k ≤ n ∧ i = .int .i64 k ∧ Hid (Arr wr (w.heap.size + 1) (tal (ds.take k))) ∧ Hid (Arr wr w.heap.size none61) ∧ Hid (Below w.heap.size w wr)) (fun i _ => n - (intOf i).toNat)
  case atStart => exact ⟨0, Nat.zero_le _, rfl, hide ((heap_alloc2_new w _ _).trans (by rw [none61_eq]; rfl)), hide ((heap_alloc2_old w _ _).trans (by rw [none61_eq])), hide (((Below.refl _ w).alloc (Nat.le_refl _) _).alloc (by simp) _)⟩
  case round =>
    obtain ⟨k, hk, rfl, HA, H0, HD⟩ := hrel
    have HT := hide (tal_take ds (fun j hj => HB.out j (by rw [HL.out] at hj; exact hj)) k (by rw [HL.out]; exact hk))
    by_cases hlt : k < n
    · obtain rfl := HR.out.at_ (by omega)
      have hbl := HR.out.lt (by omega)
      have a1 := c1 (HR.out.below HD.out (Nat.le_refl _)) hlt
      have i1 : (k : Int) < (n : Int) := by omega
      have hx := HB.out k hlt
      have HS := hide (tal_succ (ds := ds) (k := k) (by rw [HL.out]; exact hlt))
      generalize ds.getD k 0 = x at a1 hx HS
      obtain ⟨d, rfl⟩ : ∃ d : Nat, x = (d : Int) := ⟨x.toNat, by omega⟩
      have hd61 : d < 61 := by omega
      have hd3 : (d : Int) < 61 := by omega
      have a2 := HA.out.cell (k := d) (by rw [HT.out.len]; exact hd61)
      have f2 := HA.out.frozen d
      have b2 := HT.out.at_ d hd61
      have HSt := hide (HA.out.stored d ((tal (ds.take k)).getD d 0 + 1))
      have HE := hide (show tal (ds.take (k + 1)) = (tal (ds.take k)).set d ((tal (ds.take k)).getD d 0 + 1) from HS.out.trans (by unfold inc1; simp))
      generalize (tal (ds.take k)).getD d 0 = v at a2 b2 HSt HE
      have hw1 : IntKind.i64.wrap (v + 1) = v + 1 := IntWalk.i64_in _ (by omega)
      go_wp2_with fail
      go_roundw
      case rel => exact ⟨k + 1, by omega, by go_num, hide (by rw [HE.out]; exact HSt.out), hide (H0.out.far (by simp) _), hide (HD.out.setCell (by simp) _)⟩
      case measure => simp [intOf]; omega
    · obtain rfl : k = n := by omega
      have hts := HT.out.len
      have HW2 := hide (show tal (ds.take k) = tal ds from by rw [← HL.out, List.take_length])
      go_wp2_with (first
        | (refine wpList_load_row (o := ⟨some 18, _, _, _, _, _⟩) rfl 52 (.tmp 3) rfl (w.heap.size + 1) rfl 52 (intsV (tal (ds.take k))).toArray (0, 0) _ HA.out.eq und_tally rfl (tally_size hts) ?_)
        | (refine wpList_store_row (o := ⟨none, Op.store 52 _ _, _, _, _, _⟩) rfl 52 (.tmp 2) (.tmp 18) rfl w.heap.size (intsV (tal (ds.take k))).toArray rfl rfl 52 (intsV none61).toArray H0.out.eq (tally_size hts) (by rw [List.size_toArray, List.size_toArray, intsV_length, intsV_length, hts]; rfl) (all_one _) ?_))
      refine bodyPost_ret (results_cell_row (P := Try.prog) rfl _ _ w.heap.size 52 (intsV (tal (ds.take k))).toArray (0, 0) _ rfl (setRow_heap wr w.heap.size _ _ 52 _ H0.out.eq) und_tally rfl (tally_size hts)) rfl ⟨by rw [HW2.out]; rfl, below_setRow HD.out (by omega) _⟩

/-- How many cliffs have so many pairs. -/
def cwV (m : Nat) : Nat := if m = 0 then 1 else if m = 1 then 2 else if m = 3 then 3 else if m = 6 then 4 else if m = 10 then 5 else if m = 15 then 6 else 0
end Go.Proofs.Ytllfkhcpdgdmnaa
