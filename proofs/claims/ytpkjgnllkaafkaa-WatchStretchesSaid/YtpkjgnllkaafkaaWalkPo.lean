/- From how Go's data read to posts, and the walk of WatchPosts. -/
import Derived.Test.YtpkjgnllkaafkaaWalkPf
namespace Go.Proofs.Ytpkjgnllkaafkaa
open Go.ChangeShapes Go.WideShapes Go.ChangeAt Go.RowKit

theorem cellsPost : Try.prog.cellsOf 92 = 2 := by kernel_rfl
set_option maxRecDepth 100000 in
/-- One post's two cells. -/
theorem post_cells {H : Type} {enc : TypeId × Value → H} {w : World} {base fuel : Nat} {spare : Nat → Bool} {held : Bool} {cs : List Value} {d : DataW H × List MemPlace} (hl : cs.length = 2)
    (h : DataW.trod enc Try.prog w base spare held fuel 92 cs = some d) : ∃ x y : Int, cs = [.int .i64 x, .int .i64 y] := by
  obtain ⟨ys, n, _, _, _, hyl, hf⟩ := DataW.trod_struct Try.underlying92 h
  have hyl' : ys.length = 2 := hyl
  have h0 := hf 0 _ rfl
  have h1 := hf 1 _ rfl
  rw [List.getElem?_eq_getElem (by omega)] at h0 h1
  match cs, hl with
  | [v0, v1], _ =>
    obtain ⟨x0, e0, _⟩ := DataW.trod_int Try.underlying3 h0
    obtain ⟨x1, e1, _⟩ := DataW.trod_int Try.underlying3 h1
    replace e0 : List.take (Try.prog.cellsOf 3) (List.drop 0 [v0, v1]) = [.int .i64 x0] := e0
    replace e1 : List.take (Try.prog.cellsOf 3) (List.drop 1 [v0, v1]) = [.int .i64 x1] := e1
    rw [cellsInt] at e0 e1
    simp only [List.drop_zero, List.drop_succ_cons, List.take_succ_cons, List.take_zero, List.cons.injEq, and_true] at e0 e1
    exact ⟨x0, x1, by rw [e0, e1]⟩
theorem open_posts {H : Type} {enc : TypeId × Value → H} {w : World} {base fuel : Nat} {spare : Nat → Bool} {held : Bool} {a : Option Addr} {n c : Nat} {x : DataW H × List MemPlace}
    (h : DataW.trod enc Try.prog w base spare held fuel 47 (Value.slice a n c).cells.toList = some x) : ∃ zs, R E2 w a n c zs := by
  rcases Deep.open_slice Try.underlying47 h with ⟨hcs, _⟩ | ⟨ad, len, cap, m, k, D, Pl, hcs, _, hl, hm, hmm, _, hx⟩
  · simp [Value.cells] at hcs
    obtain ⟨rfl, rfl, rfl⟩ := hcs
    exact ⟨[], R.nil E2 w⟩
  · simp [Value.cells] at hcs
    obtain ⟨rfl, rfl, rfl⟩ := hcs
    have each : ∀ i, ∃ s : Pst, i < n → ∀ j, j < 2 → w.cell? (ad.add (i * 2 + j)) = (E2.enc s)[j]? := by
      intro i
      by_cases hi : i < n
      · obtain ⟨cs', h1, h2⟩ := hx i (by rw [hmm]; split <;> omega)
        rw [cellsPost] at h1
        obtain ⟨_, hlen, hcell⟩ := World.cells?_some h1
        obtain ⟨x, y, rfl⟩ := post_cells hlen h2
        refine ⟨(x, y), fun _ j hj => ?_⟩
        have := hcell j hj
        rw [Go.Deep.add_add] at this
        exact this
      · exact ⟨(0, 0), fun h => absurd h hi⟩
    obtain ⟨f, hf⟩ := Classical.axiomOfChoice each
    refine ⟨(List.range n).map f, r_of_cells E2 (by decide) hl hm (by simp) fun i hi j hj => ?_⟩
    have e : ((List.range n).map f).getD i E2.d = f i := by simp [List.getD_eq_getElem?_getD, hi]
    rw [e]
    exact hf i hi j hj

set_option maxHeartbeats 2000000 in
theorem WatchPosts_walk (A : Option Addr) (n c : Nat) (xs : Ls) (A' : Option Addr) (n' c' : Nat) (ps : List Pst) (w : World) (h : R E3 w A n c xs) (h' : R E2 w A' n' c' ps) :
    Calls Try.prog 12 #[.slice A n c, .slice A' n' c'] w fun e w' => e = .returned (.bool true) ∧ Below w.heap.size w w' := by
  have HX := hide h
  have HR := hide h'
  clear h h'
  by_cases hn : 50 < n
  · have hb : decide (50 < n) = true := by simpa using hn
    have HB := hide hb
    clear hb
    go_enter Try.func12, Try.ntmps12
    go_wp2_with fail
    refine (Long0_any _ _ _ _ _ HB.out).mono ?_
    rintro e w' ⟨rfl, rfl⟩
    go_wp2_with fail
    refine (sane_any _).mono ?_
    rintro e w1 ⟨rfl, b1⟩
    go_wp2_with fail
    go_ret
    exact ⟨rfl, b1⟩
  · have hb : decide (50 < n) = false := by simpa using hn
    have HB := hide hb
    have hn2 : n ≤ 1000 := by omega
    clear hb
    by_cases hm : 100 < n'
    · have hm' : (100 : Int) < (n' : Int) := by omega
      go_enter Try.func12, Try.ntmps12
      go_wp2_with fail
      refine (Long0_any _ _ _ _ _ HB.out).mono ?_
      rintro e w' ⟨rfl, rfl⟩
      go_wp2_with fail
      all_goals first
        | omega
        | (refine (sane_any _).mono ?_
           rintro e w1 ⟨rfl, b1⟩
           go_wp2_with fail
           go_ret
           exact ⟨rfl, b1⟩)
    · have hn3 : n' ≤ 1000 := by omega
      have hm' : ¬ (100 : Int) < (n' : Int) := by omega
      go_enter Try.func12, Try.ntmps12
      go_wp2_with fail
      refine (Long0_any _ _ _ _ _ HB.out).mono ?_
      rintro e w' ⟨rfl, rfl⟩
      go_wp2_with fail
      refine (CheckPosts_any _ _ _ xs _ _ _ ps _ HX.out hn2 HR.out hn3).mono ?_
      rintro e w1 ⟨rfl, b1⟩
      have B1 := hide b1
      clear b1
      go_wp2_with fail
      refine (rCheckPosts_any _ _ _ xs _ _ _ ps _ (HX.out.below B1.out (Nat.le_refl _)) hn2 (HR.out.below B1.out (Nat.le_refl _)) hn3).mono ?_
      rintro e w2 ⟨rfl, b2⟩
      have B2 := hide (B1.out.trans (b2.mono B1.out.size))
      clear b2
      go_wp2_with fail
      refine (Earn_any _ _ _ xs _ (HX.out.below B2.out (Nat.le_refl _)) hn2).mono ?_
      rintro e w3 ⟨A3, n3, k3, I, rfl, hc, _, _, b3⟩
      have B3 := hide (B2.out.trans (b3.mono B2.out.size))
      clear b3
      by_cases he : errP xs ps = 0
      · have hv := (errP_zero he).1
        obtain ⟨L, _, hc⟩ := hc hv
        have hp := pos_weak he hc
        rw [he, hv]
        clear he hv hc
        generalize payI xs I = pk at *
        generalize posV xs ps = rv at *
        go_wp2_with fail
        refine (sane_any _).mono ?_
        rintro e w6 ⟨rfl, b6⟩
        go_wp2_with fail
        go_ret
        exact ⟨rfl, B3.out.trans (b6.mono B3.out.size)⟩
      · have hne : (errP xs ps != 0) = true := by simpa using he
        clear he hc
        generalize errP xs ps = re at *
        generalize payI xs I = pk at *
        generalize posV xs ps = rv at *
        go_wp2_with fail
        refine (sane_any _).mono ?_
        rintro e w6 ⟨rfl, b6⟩
        go_wp2_with fail
        go_ret
        exact ⟨rfl, B3.out.trans (b6.mono B3.out.size)⟩
end Go.Proofs.Ytpkjgnllkaafkaa
