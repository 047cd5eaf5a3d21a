/- Walk of the document's own Copy at empty lists too. -/
import Derived.Test.YtjhnfcmijijdcaaWalkLs
import Derived.Deep.RegionLawGrows
namespace Go.Proofs.Ytjhnfcmijijdcaa
open Go.RowKit

/-- append([]int{}, xs...) of an empty xs, as one step of a region. -/
theorem step_app_nil {ops : Array Oper} {o : Oper} {a : Act} {w : World} {K : Act → World → Prop} {Q : Exit → Act → World → Prop} {E : Prop}
    (hg : o.guard = none) (s x : Operand) (hop : o.op = Op.call { callee := Callee.builtin Builtin.append, args := #[s, x], argTypes := #[22, 22] })
    (b : Addr) (A : Option Addr) (c : Nat) (hs : a.eval s = .slice (some b) 0 0) (hx : a.eval x = .slice A 0 c) (hK : K (a.put o.dst (.slice (some b) 0 0)) w) :
    if Region.wanted o (yielded ops a.tmps) = true then Oper.wp Try.prog o a w K Q else E := by
  obtain ⟨i0, hi, hz0, hz1, hz2⟩ := info_parts info_int
  have hw : Region.wanted o (yielded ops a.tmps) = true := by simp [Region.wanted, hg]
  rw [if_pos hw]
  have hrun : (Builtin.append_ #[22, 22] o.type #[.slice (some b) 0 0, .slice A 0 c]).run Try.prog w = .ok (.slice (some b) 0 0) w := by
    cases A <;> simp [Builtin.append_, run_underlying Try.underlying22, sizeOf, typeInfo, hi, Builtin.lenOf, Builtin.firstCells, loadCells, loadCellsFrom, storeCells]
  unfold Oper.wp
  simp [execOp, hop, resolve, invoke, builtin, hs, hx, hrun, Result.andThen]
  exact hK
theorem Row.zero {w : World} {A : Option Addr} {c : Nat} (hc : c ≤ 9223372036854775807) : Row w A 0 c [] := ⟨0, 0, rfl, Nat.zero_le _, hc, fun h => by omega, fun h => by omega, fun k hk => by omega⟩

theorem below4 (w : World) (o0 o1 o2 o3 : Obj) : Below w.heap.size w ((((w.alloc o0).alloc o1).alloc o2).alloc o3).drew := by
  refine (((((Below.refl w.heap.size w).alloc (Nat.le_refl _) o0).alloc ?_ o1).alloc ?_ o2).alloc ?_ o3).drew
  all_goals (simp; try omega)
/-- The call hands back a copy; what is said of its lists is how they read. -/
def CopyRow (K h : Int) (cs ds : List Int) (w : World) (e : Ending) (w' : World) : Prop :=
  ∃ A n c A' n' c', e = .returned (.agg #[.int .i64 K, .int .i64 h, .slice A n c, .slice A' n' c']) ∧ Row w' A n c cs ∧ Row w' A' n' c' ds ∧ Below w.heap.size w w'
set_option maxHeartbeats 4000000 in
theorem rCopy_row (K h : Int) (A : Option Addr) (n c : Nat) (cs : List Int) (A' : Option Addr) (n' c' : Nat) (ds : List Int) (w : World)
    (hT : Tin w A n c cs A' n' c' ds) (hn : n ≤ 1000) (hn' : n' ≤ 1000) :
    Calls Try.prog 43 #[.agg #[.int .i64 K, .int .i64 h, .slice A n c, .slice A' n' c']] w (CopyRow K h cs ds w) := by
  have hl := hT.1.length
  have hl' := hT.2.length
  by_cases h0 : n = 0
  · obtain rfl := h0
    obtain rfl : cs = [] := List.eq_nil_of_length_eq_zero hl
    by_cases h0' : n' = 0
    · obtain rfl := h0'
      obtain rfl : ds = [] := List.eq_nil_of_length_eq_zero hl'
      have HT := hide hT
      have B0 := hide ((Below.refl w.heap.size w).alloc (Nat.le_refl _) (.cells #[.int .i64 K, .int .i64 h, .slice A 0 c, .slice A' 0 c'] 24))
      have K0 := hide (Bk.born w 24 #[.int .i64 K, .int .i64 h, .slice A 0 c, .slice A' 0 c'])
      have R0 := hide (Bk.bornAt (w := w.alloc (.cells #[.int .i64 K, .int .i64 h, .slice A 0 c, .slice A' 0 c'] 24)) (g := w.heap.size + 1) (t := 24) (cs := #[.int .i64 0, .int .i64 0, .slice none 0 0, .slice none 0 0]) (by simp))
      replace K0 := hide (K0.out.more (.cells #[.int .i64 0, .int .i64 0, .slice none 0 0, .slice none 0 0] 24))
      replace B0 := hide (B0.out.alloc (by simp) (.cells #[.int .i64 0, .int .i64 0, .slice none 0 0, .slice none 0 0] 24))
      clear hT
      go_enter Try.func43, Try.ntmps43
      go_wp2_with fail
      obtain ⟨k0, k1, k2, k3, _⟩ := K0.out.four
      have B1 := hide (below_drewN B0.out 1)
      have K1 := hide (K0.out.draws 1)
      have R1 := hide (R0.out.draws 1)
      go_region_held3 (fun w' => w'.cell? ⟨w.heap.size, 0, none⟩ = some (.int .i64 K) ∧ w'.cell? ⟨w.heap.size, 1, none⟩ = some (.int .i64 h) ∧ w'.cell? ⟨w.heap.size, 2, none⟩ = some (.slice A 0 c) ∧ w'.cell? ⟨w.heap.size, 3, none⟩ = some (.slice A' 0 c'))
        (first
          | go_keep
          | (go_split_ands
             refine ⟨?_, ?_, ?_, ?_⟩ <;> (rw [b8.cell (by simp; omega)]; first | assumption | (simp; assumption)))
          | (go_split_ands
             refine ⟨?_, ?_, ?_, ?_⟩ <;> (rw [b9.cell (by first | (simp; omega) | (have := B8.out.size; simp; omega))]; first | assumption | (simp; assumption))))
        (first
          | (refine step_app_nil rfl (.tmp 7) (.tmp 9) rfl _ A c (by simp [Act.eval, Act.put]; rfl) (by simp [Act.eval, Act.put]) ?_)
          | (refine step_app_nil rfl (.tmp 11) (.tmp 13) rfl _ A' c' (by simp [Act.eval, Act.put]; rfl) (by simp [Act.eval, Act.put]) ?_))
      all_goals
        clear k0 k1 k2 k3
        first
          | (have Z := hide ((((Bk.bornAt (w := w.alloc (.cells #[.int .i64 K, .int .i64 h, .slice A 0 c, .slice A' 0 c'] 24)) (g := w.heap.size + 1) (t := 24) (cs := #[.int .i64 K, .int .i64 h, .slice (some ⟨w.heap.size + 1 + 1, 0, none⟩) 0 0, .slice (some ⟨w.heap.size + 1 + 1 + 1, 0, none⟩) 0 0]) (by simp)).more (.cells #[] 3)).more (.cells #[] 3)).draw); obtain ⟨z0, z1, z2, z3, _⟩ := Z.out.four; go_wp2_with fail; refine bodyPost_ret (v := .agg #[.int .i64 K, .int .i64 h, .slice (some ⟨w.heap.size + 1 + 1, 0, none⟩) 0 0, .slice (some ⟨w.heap.size + 1 + 1 + 1, 0, none⟩) 0 0]) ?hres rfl ?hq; case hres => (simp [results, Try.results43, go_sem, z0, z1, z2, z3]; done))
          | (have Z := hide ((((Bk.bornAt (w := w.alloc (.cells #[.int .i64 K, .int .i64 h, .slice A 0 c, .slice A' 0 c'] 24)) (g := w.heap.size + 1) (t := 24) (cs := #[.int .i64 K, .int .i64 h, .slice (some ⟨w.heap.size + 1 + 1 + 1, 0, none⟩) 0 0, .slice (some ⟨w.heap.size + 1 + 1, 0, none⟩) 0 0]) (by simp)).more (.cells #[] 3)).more (.cells #[] 3)).draw); obtain ⟨z0, z1, z2, z3, _⟩ := Z.out.four; go_wp2_with fail; refine bodyPost_ret (v := .agg #[.int .i64 K, .int .i64 h, .slice (some ⟨w.heap.size + 1 + 1 + 1, 0, none⟩) 0 0, .slice (some ⟨w.heap.size + 1 + 1, 0, none⟩) 0 0]) ?hres rfl ?hq; case hres => (simp [results, Try.results43, go_sem, z0, z1, z2, z3]; done))
        case hq => exact ⟨_, _, _, _, _, _, rfl, Row.zero (by omega), Row.zero (by omega), below4 w _ _ _ _⟩
    · have hn1' : 1 ≤ n' := by omega
      have HT := hide hT
      have B0 := hide ((Below.refl w.heap.size w).alloc (Nat.le_refl _) (.cells #[.int .i64 K, .int .i64 h, .slice A 0 c, .slice A' n' c'] 24))
      have K0 := hide (Bk.born w 24 #[.int .i64 K, .int .i64 h, .slice A 0 c, .slice A' n' c'])
      have R0 := hide (Bk.bornAt (w := w.alloc (.cells #[.int .i64 K, .int .i64 h, .slice A 0 c, .slice A' n' c'] 24)) (g := w.heap.size + 1) (t := 24) (cs := #[.int .i64 0, .int .i64 0, .slice none 0 0, .slice none 0 0]) (by simp))
      replace K0 := hide (K0.out.more (.cells #[.int .i64 0, .int .i64 0, .slice none 0 0, .slice none 0 0] 24))
      replace B0 := hide (B0.out.alloc (by simp) (.cells #[.int .i64 0, .int .i64 0, .slice none 0 0, .slice none 0 0] 24))
      clear hT
      go_enter Try.func43, Try.ntmps43
      go_wp2_with fail
      obtain ⟨k0, k1, k2, k3, _⟩ := K0.out.four
      have B1 := hide (below_drewN B0.out 1)
      have K1 := hide (K0.out.draws 1)
      have R1 := hide (R0.out.draws 1)
      go_region_held3 (fun w' => w'.cell? ⟨w.heap.size, 0, none⟩ = some (.int .i64 K) ∧ w'.cell? ⟨w.heap.size, 1, none⟩ = some (.int .i64 h) ∧ w'.cell? ⟨w.heap.size, 2, none⟩ = some (.slice A 0 c) ∧ w'.cell? ⟨w.heap.size, 3, none⟩ = some (.slice A' n' c'))
        (first
          | go_keep
          | (go_split_ands
             refine ⟨?_, ?_, ?_, ?_⟩ <;> (rw [b8.cell (by simp; omega)]; first | assumption | (simp; assumption)))
          | (go_split_ands
             refine ⟨?_, ?_, ?_, ?_⟩ <;> (rw [b9.cell (by first | (simp; omega) | (have := B8.out.size; simp; omega))]; first | assumption | (simp; assumption))))
        (first
          | (refine step_app_nil rfl (.tmp 7) (.tmp 9) rfl _ A c (by simp [Act.eval, Act.put]; rfl) (by simp [Act.eval, Act.put]) ?_)
          | (refine step_app rfl (.tmp 11) (.tmp 13) rfl _ A' n' c' ds (by simp [Act.eval, Act.put]; rfl) (by simp [Act.eval, Act.put]) (HT.out.2.below (by first | exact (B0.out.alloc B0.out.size _).drew | exact ((B0.out.alloc B0.out.size _).alloc (B0.out.alloc B0.out.size _).size _).drew | exact B8.out | exact B8.out.alloc B8.out.size _ | exact B9.out | exact B9.out.alloc B9.out.size _) (Nat.le_refl _)) hn1' hn' ?_; intro A9 c9 w9 o9 b9; obtain ⟨o9', r9', z9'⟩ := own_step o9 b9 (by first | exact (R0.out.more _).draw | exact ((R0.out.more _).more _).draw | exact R8.out | exact R8.out.more _ | exact R9.out | exact R9.out.more _) (by first | exact (B0.out.alloc B0.out.size _).drew | exact ((B0.out.alloc B0.out.size _).alloc (B0.out.alloc B0.out.size _).size _).drew | exact B8.out | exact B8.out.alloc B8.out.size _ | exact B9.out | exact B9.out.alloc B9.out.size _); (first | have O8 := hide (Own.below (w' := w9) (by first | exact O8.out | exact O8.out.alloc _) b9 (Nat.le_refl _)) | skip); have O9 := hide o9'; have R9 := hide r9'; have B9 := hide z9'; obtain ⟨r0, r1, r2, r3, _⟩ := R9.out.four; have f0 := R9.out.fr 0; have f1 := R9.out.fr 1; have f2 := R9.out.fr 2; have f3 := R9.out.fr 3; clear o9 o9' r9' z9'))
      all_goals
        first
          | (obtain ⟨z0, z1, z2, z3, _⟩ := (R9.out.set4 (.int .i64 K) (.int .i64 h) (.slice (some ⟨w.heap.size + 1 + 1, 0, none⟩) 0 0) (.slice A9 n' c9)).four; go_wp2_with fail; refine bodyPost_ret (v := .agg #[.int .i64 K, .int .i64 h, .slice (some ⟨w.heap.size + 1 + 1, 0, none⟩) 0 0, .slice A9 n' c9]) ?hres rfl ?hq; case hres => (simp [results, Try.results43, go_sem, z0, z1, z2, z3]; done))
          | (obtain ⟨z0, z1, z2, z3, _⟩ := (R9.out.set4 (.int .i64 K) (.int .i64 h) (.slice (some ⟨w.heap.size + 1 + 1 + 1, 0, none⟩) 0 0) (.slice A9 n' c9)).four; go_wp2_with fail; refine bodyPost_ret (v := .agg #[.int .i64 K, .int .i64 h, .slice (some ⟨w.heap.size + 1 + 1 + 1, 0, none⟩) 0 0, .slice A9 n' c9]) ?hres rfl ?hq; case hres => (simp [results, Try.results43, go_sem, z0, z1, z2, z3]; done))
        case hq => exact ⟨_, _, _, _, _, _, rfl, Row.zero (by omega), (O9.out.set4 (by omega) _ _ _ _).row, below_set4 B9.out (by omega) _ _ _ _⟩
  · have hn1 : 1 ≤ n := by omega
    by_cases h0' : n' = 0
    · obtain rfl := h0'
      obtain rfl : ds = [] := List.eq_nil_of_length_eq_zero hl'
      have HT := hide hT
      have B0 := hide ((Below.refl w.heap.size w).alloc (Nat.le_refl _) (.cells #[.int .i64 K, .int .i64 h, .slice A n c, .slice A' 0 c'] 24))
      have K0 := hide (Bk.born w 24 #[.int .i64 K, .int .i64 h, .slice A n c, .slice A' 0 c'])
      have R0 := hide (Bk.bornAt (w := w.alloc (.cells #[.int .i64 K, .int .i64 h, .slice A n c, .slice A' 0 c'] 24)) (g := w.heap.size + 1) (t := 24) (cs := #[.int .i64 0, .int .i64 0, .slice none 0 0, .slice none 0 0]) (by simp))
      replace K0 := hide (K0.out.more (.cells #[.int .i64 0, .int .i64 0, .slice none 0 0, .slice none 0 0] 24))
      replace B0 := hide (B0.out.alloc (by simp) (.cells #[.int .i64 0, .int .i64 0, .slice none 0 0, .slice none 0 0] 24))
      clear hT
      go_enter Try.func43, Try.ntmps43
      go_wp2_with fail
      obtain ⟨k0, k1, k2, k3, _⟩ := K0.out.four
      have B1 := hide (below_drewN B0.out 1)
      have K1 := hide (K0.out.draws 1)
      have R1 := hide (R0.out.draws 1)
      go_region_held3 (fun w' => w'.cell? ⟨w.heap.size, 0, none⟩ = some (.int .i64 K) ∧ w'.cell? ⟨w.heap.size, 1, none⟩ = some (.int .i64 h) ∧ w'.cell? ⟨w.heap.size, 2, none⟩ = some (.slice A n c) ∧ w'.cell? ⟨w.heap.size, 3, none⟩ = some (.slice A' 0 c'))
        (first
          | go_keep
          | (go_split_ands
             refine ⟨?_, ?_, ?_, ?_⟩ <;> (rw [b8.cell (by simp; omega)]; first | assumption | (simp; assumption)))
          | (go_split_ands
             refine ⟨?_, ?_, ?_, ?_⟩ <;> (rw [b9.cell (by first | (simp; omega) | (have := B8.out.size; simp; omega))]; first | assumption | (simp; assumption))))
        (first
          | (refine step_app rfl (.tmp 7) (.tmp 9) rfl _ A n c cs (by simp [Act.eval, Act.put]; rfl) (by simp [Act.eval, Act.put]) (HT.out.1.below (by first | exact (B0.out.alloc B0.out.size _).drew | exact ((B0.out.alloc B0.out.size _).alloc (B0.out.alloc B0.out.size _).size _).drew | exact B8.out | exact B8.out.alloc B8.out.size _ | exact B9.out | exact B9.out.alloc B9.out.size _) (Nat.le_refl _)) hn1 hn ?_; intro A8 c8 w8 o8 b8; obtain ⟨o8', r8', z8'⟩ := own_step o8 b8 (by first | exact (R0.out.more _).draw | exact ((R0.out.more _).more _).draw | exact R8.out | exact R8.out.more _ | exact R9.out | exact R9.out.more _) (by first | exact (B0.out.alloc B0.out.size _).drew | exact ((B0.out.alloc B0.out.size _).alloc (B0.out.alloc B0.out.size _).size _).drew | exact B8.out | exact B8.out.alloc B8.out.size _ | exact B9.out | exact B9.out.alloc B9.out.size _); (first | have O9 := hide (Own.below (w' := w8) (by first | exact O9.out | exact O9.out.alloc _) b8 (Nat.le_refl _)) | skip); have O8 := hide o8'; have R8 := hide r8'; have B8 := hide z8'; obtain ⟨r0, r1, r2, r3, _⟩ := R8.out.four; have f0 := R8.out.fr 0; have f1 := R8.out.fr 1; have f2 := R8.out.fr 2; have f3 := R8.out.fr 3; obtain ⟨_, kk8, _⟩ := own_step o8 b8 (by first | exact (K0.out.more _).draw | exact ((K0.out.more _).more _).draw) (by first | exact (B0.out.alloc B0.out.size _).drew | exact ((B0.out.alloc B0.out.size _).alloc (B0.out.alloc B0.out.size _).size _).drew); obtain ⟨kk0, kk1, kk2, kk3, _⟩ := kk8.four; clear o8 o8' r8' z8')
          | (refine step_app_nil rfl (.tmp 11) (.tmp 13) rfl _ A' c' (by simp [Act.eval, Act.put]; rfl) (by simp [Act.eval, Act.put]) ?_))
      all_goals
        first
          | (have ZZ := hide ((R8.out.set4 (.int .i64 K) (.int .i64 h) (.slice A8 n c8) (.slice (some ⟨w8.heap.size, 0, none⟩) 0 0)).more (.cells #[] 3)); have OO := hide (((O8.out.set4 (g := w.heap.size + 1) (by omega) (.int .i64 K) (.int .i64 h) (.slice A8 n c8) (.slice (some ⟨w8.heap.size, 0, none⟩) 0 0)).row).alloc (.cells #[] 3)); have BB := hide ((below_set4 (g := w.heap.size + 1) B8.out (by omega) (.int .i64 K) (.int .i64 h) (.slice A8 n c8) (.slice (some ⟨w8.heap.size, 0, none⟩) 0 0)).alloc (below_set4 (g := w.heap.size + 1) B8.out (by omega) (.int .i64 K) (.int .i64 h) (.slice A8 n c8) (.slice (some ⟨w8.heap.size, 0, none⟩) 0 0)).size (.cells #[] 3)); generalize hWW : ((((w8.setCell ⟨w.heap.size + 1, 0, none⟩ (.int .i64 K)).setCell ⟨w.heap.size + 1, 1, none⟩ (.int .i64 h)).setCell ⟨w.heap.size + 1, 2, none⟩ (.slice A8 n c8)).setCell ⟨w.heap.size + 1, 3, none⟩ (.slice (some ⟨w8.heap.size, 0, none⟩) 0 0)).alloc (.cells #[] 3) = WW at *; have HWW := hide hWW; clear hWW; obtain ⟨z0, z1, z2, z3, _⟩ := ZZ.out.four; go_wp2_with fail; refine bodyPost_ret (v := .agg #[.int .i64 K, .int .i64 h, .slice A8 n c8, .slice (some ⟨w8.heap.size, 0, none⟩) 0 0]) ?_ rfl ⟨_, _, _, _, _, _, rfl, OO.out, Row.zero (by omega), BB.out⟩; (simp [results, Try.results43, go_sem, z0, z1, z2, z3]; done))
          | (have ZZ := hide (R8.out.set4 (.int .i64 K) (.int .i64 h) (.slice A8 n c8) (.slice (some ⟨w.heap.size + 1 + 1, 0, none⟩) 0 0)); have OO := hide ((O8.out.set4 (g := w.heap.size + 1) (by omega) (.int .i64 K) (.int .i64 h) (.slice A8 n c8) (.slice (some ⟨w.heap.size + 1 + 1, 0, none⟩) 0 0)).row); have BB := hide ((below_set4 (g := w.heap.size + 1) B8.out (by omega) (.int .i64 K) (.int .i64 h) (.slice A8 n c8) (.slice (some ⟨w.heap.size + 1 + 1, 0, none⟩) 0 0))); generalize hWW : (((w8.setCell ⟨w.heap.size + 1, 0, none⟩ (.int .i64 K)).setCell ⟨w.heap.size + 1, 1, none⟩ (.int .i64 h)).setCell ⟨w.heap.size + 1, 2, none⟩ (.slice A8 n c8)).setCell ⟨w.heap.size + 1, 3, none⟩ (.slice (some ⟨w.heap.size + 1 + 1, 0, none⟩) 0 0) = WW at *; have HWW := hide hWW; clear hWW; obtain ⟨z0, z1, z2, z3, _⟩ := ZZ.out.four; go_wp2_with fail; refine bodyPost_ret (v := .agg #[.int .i64 K, .int .i64 h, .slice A8 n c8, .slice (some ⟨w.heap.size + 1 + 1, 0, none⟩) 0 0]) ?_ rfl ⟨_, _, _, _, _, _, rfl, OO.out, Row.zero (by omega), BB.out⟩; (simp [results, Try.results43, go_sem, z0, z1, z2, z3]; done))
          | (have ZZ := hide (R8.out.set4 (.int .i64 K) (.int .i64 h) (.slice A8 n c8) (.slice (some ⟨w.heap.size + 1 + 1 + 1, 0, none⟩) 0 0)); have OO := hide ((O8.out.set4 (g := w.heap.size + 1) (by omega) (.int .i64 K) (.int .i64 h) (.slice A8 n c8) (.slice (some ⟨w.heap.size + 1 + 1 + 1, 0, none⟩) 0 0)).row); have BB := hide ((below_set4 (g := w.heap.size + 1) B8.out (by omega) (.int .i64 K) (.int .i64 h) (.slice A8 n c8) (.slice (some ⟨w.heap.size + 1 + 1 + 1, 0, none⟩) 0 0))); generalize hWW : (((w8.setCell ⟨w.heap.size + 1, 0, none⟩ (.int .i64 K)).setCell ⟨w.heap.size + 1, 1, none⟩ (.int .i64 h)).setCell ⟨w.heap.size + 1, 2, none⟩ (.slice A8 n c8)).setCell ⟨w.heap.size + 1, 3, none⟩ (.slice (some ⟨w.heap.size + 1 + 1 + 1, 0, none⟩) 0 0) = WW at *; have HWW := hide hWW; clear hWW; obtain ⟨z0, z1, z2, z3, _⟩ := ZZ.out.four; go_wp2_with fail; refine bodyPost_ret (v := .agg #[.int .i64 K, .int .i64 h, .slice A8 n c8, .slice (some ⟨w.heap.size + 1 + 1 + 1, 0, none⟩) 0 0]) ?_ rfl ⟨_, _, _, _, _, _, rfl, OO.out, Row.zero (by omega), BB.out⟩; (simp [results, Try.results43, go_sem, z0, z1, z2, z3]; done))
    · refine (rCopy_any K h A n c cs A' n' c' ds w hT hn1 hn (by omega) hn').mono ?_
      rintro e w' ⟨A2, n2, c2, A3, n3, c3, rfl, o2, o3, b, _⟩
      exact ⟨_, _, _, _, _, _, rfl, o2.row, o3.row, b⟩

end Go.Proofs.Ytjhnfcmijijdcaa
