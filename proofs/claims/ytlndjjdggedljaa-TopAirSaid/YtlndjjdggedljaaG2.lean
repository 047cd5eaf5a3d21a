/- Group 2: texts MathC, WalkD, WalkE, WalkF, WalkG, WalkH. -/
import Derived.Test.YtlndjjdggedljaaG1
import Derived.Deep.RegionHeld3
import Derived.StillTailTactics
/- MathC -/
namespace Go.Proofs.Ytlndjjdggedljaa

/-- The stock after the hour i. -/
def Tk.stk (t : Tk) (p : Nat → Int) (i : Nat) : Int := sm (fun j => p j - t.d j) 0 i
theorem Tk.stk_zero (t : Tk) (p : Nat → Int) : t.stk p 0 = 0 := rfl
theorem Tk.stk_succ (t : Tk) (p : Nat → Int) (i : Nat) : t.stk p (i + 1) = t.stk p i + (p i - t.d i) := sm_succ (Nat.zero_le _)
/-- The stocks after the first k hours, as a list. -/
def Tk.stkL (t : Tk) (p : Nat → Int) (k : Nat) : List Int := (List.range k).map fun i => t.stk p (i + 1)
theorem Tk.stkL_len (t : Tk) (p : Nat → Int) (k : Nat) : (t.stkL p k).length = k := by simp [Tk.stkL]
theorem Tk.stkL_succ (t : Tk) (p : Nat → Int) (k : Nat) : t.stkL p (k + 1) = t.stkL p k ++ [t.stk p (k + 1)] := by simp [Tk.stkL, List.range_succ]
theorem Tk.stkL_get (t : Tk) (p : Nat → Int) {k i : Nat} (h : i < k) : (t.stkL p k).getD i 0 = t.stk p (i + 1) := by simp [Tk.stkL, List.getD_eq_getElem?_getD, h]
/-- A list of n numbers that is filled with f up to k. -/
def fillL (f : Nat → Int) (n k : Nat) : List Int := (List.range k).map f ++ List.replicate (n - k) 0
theorem fillL_zero (f : Nat → Int) (n : Nat) : fillL f n 0 = List.replicate n 0 := by simp [fillL]
theorem fillL_all (f : Nat → Int) (n : Nat) : fillL f n n = (List.range n).map f := by simp [fillL]
theorem fillL_set {f : Nat → Int} {n k : Nat} {x : Int} (h : k < n) (hx : f k = x) : (fillL f n k).set k x = fillL f n (k + 1) := by
  subst hx
  unfold fillL
  rw [List.set_append_right _ _ (by simp)]
  have e : n - k = (n - (k + 1)) + 1 := by omega
  rw [e, List.replicate_succ]
  simp [List.range_succ]
/-- The hours before k in which something is pumped. -/
def pumpL (p : Nat → Int) : Nat → List Int
  | 0 => []
  | k + 1 => if 0 < p k then pumpL p k ++ [(k : Int)] else pumpL p k
theorem pumpL_yes {p : Nat → Int} {k : Nat} (h : 0 < p k) : pumpL p (k + 1) = pumpL p k ++ [(k : Int)] := by
  show (if _ then _ else _) = _
  rw [if_pos h]
theorem pumpL_no {p : Nat → Int} {k : Nat} (h : ¬ 0 < p k) : pumpL p (k + 1) = pumpL p k := by
  show (if _ then _ else _) = _
  rw [if_neg h]
theorem pumpL_len (p : Nat → Int) (k : Nat) : (pumpL p k).length ≤ k := by
  induction k with
  | zero => exact Nat.le_refl _
  | succ k ih =>
    by_cases h : 0 < p k
    · rw [pumpL_yes h]; simp; omega
    · rw [pumpL_no h]; omega
/-- What starts cost. -/
def Tk.begs (t : Tk) (p : Nat → Int) (k : Nat) : Int := sm (fun i => if 0 < p i then t.K else 0) 0 k
/-- What pumping and keeping cost. -/
def Tk.runs (t : Tk) (p : Nat → Int) (k : Nat) : Int := sm (fun i => t.c i * p i + t.h * t.stk p (i + 1)) 0 k
def Tk.cost (t : Tk) (p : Nat → Int) (k : Nat) : Int := t.begs p k + t.runs p k
theorem Tk.runs_succ (t : Tk) (p : Nat → Int) (k : Nat) : t.runs p (k + 1) = t.runs p k + (t.c k * p k + t.h * t.stk p (k + 1)) := sm_succ (Nat.zero_le _)
theorem Tk.begs_succ (t : Tk) (p : Nat → Int) (k : Nat) : t.begs p (k + 1) = t.begs p k + (if 0 < p k then t.K else 0) := sm_succ (Nat.zero_le _)
theorem Tk.begs_yes (t : Tk) {p : Nat → Int} {k : Nat} (h : 0 < p k) : t.begs p (k + 1) = t.begs p k + t.K := by rw [Tk.begs_succ, if_pos h]
theorem Tk.begs_no (t : Tk) {p : Nat → Int} {k : Nat} (h : ¬ 0 < p k) : t.begs p (k + 1) = t.begs p k := by rw [Tk.begs_succ, if_neg h]; omega
theorem Tk.begs_len (t : Tk) (p : Nat → Int) (k : Nat) : ((pumpL p k).length : Int) * t.K = t.begs p k := by
  induction k with
  | zero => simp [pumpL, Tk.begs, sm]
  | succ k ih =>
    by_cases h : 0 < p k
    · rw [pumpL_yes h, t.begs_yes h, ← ih]
      simp [Int.add_mul]
    · rw [pumpL_no h, t.begs_no h, ih]
/-- The numbers of a plan are in range. -/
def PlanIn (p : Nat → Int) (n : Nat) : Prop := ∀ i, i < n → 0 ≤ p i ∧ p i ≤ 600
section
variable {t : Tk} {n : Nat} {p : Nat → Int}
theorem Tk.Ok.stk_in (ok : t.Ok n) (hp : PlanIn p n) (hn : n ≤ 12) : ∀ {i : Nat}, i ≤ n → -600 ≤ t.stk p i ∧ t.stk p i ≤ 7200 := by
  intro i hi
  have a := sm_bound (f := fun j => p j - t.d j) (s := 0) (b := 600) (by omega) (n := i) fun j _ hj => by have := (hp j (by omega)).2; have := ok.d0 j (by omega); omega
  have b := sm_bound (f := fun j => t.d j - p j) (s := 0) (b := 50) (by omega) (n := i) fun j _ hj => by have := (hp j (by omega)).1; have := ok.d1 j (by omega); omega
  have e : sm (fun j => t.d j - p j) 0 i = - t.stk p i := by
    unfold Tk.stk
    rw [sm_sub, sm_sub]; omega
  rw [e] at b
  unfold Tk.stk at b ⊢
  constructor <;> omega
theorem Tk.Ok.cp_in (ok : t.Ok n) (hp : PlanIn p n) {i : Nat} (hi : i < n) : 0 ≤ t.c i * p i ∧ t.c i * p i ≤ 12000 := by
  have := ok.c0 i hi
  have := ok.c1 i hi
  obtain ⟨h1, h2⟩ := hp i hi
  refine ⟨Int.mul_nonneg (by omega) h1, ?_⟩
  have : t.c i * p i ≤ 20 * 600 := Int.mul_le_mul (by omega) h2 h1 (by omega)
  omega
theorem Tk.Ok.hs_in (ok : t.Ok n) (hp : PlanIn p n) (hn : n ≤ 12) {i : Nat} (hi : i ≤ n) : -12000 ≤ t.h * t.stk p i ∧ t.h * t.stk p i ≤ 144000 := by
  have := ok.h0
  have := ok.h1
  obtain ⟨h1, h2⟩ := ok.stk_in hp hn hi
  have a : t.h * t.stk p i ≤ t.h * 7200 := Int.mul_le_mul_of_nonneg_left h2 (by omega)
  have b : t.h * (-600) ≤ t.h * t.stk p i := Int.mul_le_mul_of_nonneg_left h1 (by omega)
  omega
theorem Tk.Ok.runs_in (ok : t.Ok n) (hp : PlanIn p n) (hn : n ≤ 12) : ∀ {i : Nat}, i ≤ n → -(i : Int) * 12000 ≤ t.runs p i ∧ t.runs p i ≤ (i : Int) * 156000 := by
  intro i
  induction i with
  | zero => intro _; simp [Tk.runs, sm]
  | succ i ih =>
    intro hi
    have a := ih (by omega)
    have b := ok.cp_in hp (i := i) (by omega)
    have c := ok.hs_in hp hn hi
    rw [Tk.runs_succ]
    constructor <;> omega
theorem Tk.Ok.begs_in (ok : t.Ok n) : ∀ {i : Nat}, 0 ≤ t.begs p i ∧ t.begs p i ≤ (i : Int) * 999 := by
  intro i
  have := ok.K0
  have := ok.K1
  induction i with
  | zero => simp [Tk.begs, sm]
  | succ i ih =>
    rw [Tk.begs_succ]
    split <;> constructor <;> omega
end

/-- The plan is right. -/
structure Tk.Right (t : Tk) (p : Nat → Int) (n : Nat) : Prop where
  in_ : PlanIn p n
  stk : ∀ i, i < n → 0 ≤ t.stk p (i + 1)
  last : t.stk p n = 0

end Go.Proofs.Ytlndjjdggedljaa

/- WalkD -/
namespace Go.Proofs.Ytlndjjdggedljaa
open Go.RowKit

theorem tk_c (K h : Int) (cs ds : List Int) (i : Nat) : (tk K h cs ds).c i = cs.getD i 0 := rfl
theorem tk_d (K h : Int) (cs ds : List Int) (i : Nat) : (tk K h cs ds).d i = ds.getD i 0 := rfl
/-- A plan as a function of the hour. -/
def pl (ps : List Int) (i : Nat) : Int := ps.getD i 0

set_option maxHeartbeats 1000000 in
theorem way_any (K h : Int) (A : Option Addr) (n c : Nat) (cs : List Int) (A' : Option Addr) (n' c' : Nat) (ds : List Int) (s u : Nat) (w : World) (hT : Tin w A n c cs A' n' c' ds)
    (ok : (tk K h cs ds).Ok n) (hs : s ≤ u) (hu : u < n) (hn : n ≤ 12) :
    Calls Try.prog 87 #[.agg #[.int .i64 K, .int .i64 h, .slice A n c, .slice A' n' c'], .int .i64 s, .int .i64 u] w fun e w' =>
      e = .returned (.int .i64 ((tk K h cs ds).way s u)) ∧ Below w.heap.size w w' := by
  have h0 := ok.h0
  have h1 := ok.h1
  have c0 := ok.c0 s (by omega)
  have c1 := ok.c1 s (by omega)
  rw [tk_c] at c0 c1
  replace h0 : 0 ≤ h := h0
  replace h1 : h ≤ 20 := h1
  have B := hide ((Below.refl w.heap.size w).alloc (Nat.le_refl _) (.cells #[.int .i64 K, .int .i64 h, .slice A n c, .slice A' n' c'] 24))
  obtain ⟨b, off, r⟩ := hT.1
  obtain rfl := r.at_ (by omega)
  have cell := (r.alloc (.cells #[.int .i64 K, .int .i64 h, .slice (some ⟨b, off, none⟩) n c, .slice A' n' c'] 24)).cell s (by omega)
  have hv : (tk K h cs ds).way s u = cs.getD s 0 + h * ((u : Int) - (s : Int)) := rfl
  have HV := hide hv
  have hcap := r.cap
  have hmax := r.max
  clear hT r hv ok
  generalize cs.getD s 0 = x at *
  have m0 : 0 ≤ h * ((u : Int) - (s : Int)) := Int.mul_nonneg h0 (by omega)
  have m1 : h * ((u : Int) - (s : Int)) ≤ 20 * 11 := Int.mul_le_mul h1 (by omega) (by omega) (by omega)
  have w1 : IntKind.i64.wrap ((u : Int) - (s : Int)) = (u : Int) - (s : Int) := IntWalk.i64_in _ (by omega)
  have w2 : IntKind.i64.wrap (h * ((u : Int) - (s : Int))) = h * ((u : Int) - (s : Int)) := IntWalk.i64_in _ (by omega)
  have w3 : IntKind.i64.wrap (x + h * ((u : Int) - (s : Int))) = x + h * ((u : Int) - (s : Int)) := IntWalk.i64_in _ (by omega)
  have l2 : (s : Int) < n := by omega
  go_enter Try.func87, Try.ntmps87
  go_wp2_with fail
  go_quiet (fail)
  clear w1 w2 w3
  go_wp2
  go_ret
  exact ⟨ret_i64 HV.out.symm, below_drewN B.out _⟩

end Go.Proofs.Ytlndjjdggedljaa

/- WalkE -/
namespace Go.Proofs.Ytlndjjdggedljaa
open Go.RowKit

set_option maxHeartbeats 2000000 in
theorem stock_any (K h : Int) (A : Option Addr) (n c : Nat) (cs : List Int) (A' : Option Addr) (c' : Nat) (ds : List Int) (P : Option Addr) (pc : Nat) (ps : List Int) (w : World)
    (hT : Tin w A n c cs A' n c' ds) (hP : Row w P n pc ps) (ok : (tk K h cs ds).Ok n) (hp : PlanIn (pl ps) n) (hn1 : 1 ≤ n) (hn : n ≤ 12) :
    Calls Try.prog 63 #[.agg #[.int .i64 K, .int .i64 h, .slice A n c, .slice A' n c'], .slice P n pc] w fun e w' =>
      ∃ A1, e = .returned (.slice A1 n n) ∧ Own w' w.heap.size A1 n n ((tk K h cs ds).stkL (pl ps) n) ∧ Below w.heap.size w w' := by
  obtain ⟨b, off, r⟩ := hT.2
  obtain ⟨bp, offp, rp⟩ := hP
  obtain rfl := r.at_ (by omega)
  obtain rfl := rp.at_ (by omega)
  have hcap := r.cap
  have hmax := r.max
  have hcapp := rp.cap
  have hmaxp := rp.max
  have R := hide r
  have RP := hide rp
  have OK := hide ok
  have HP := hide hp
  clear hT r rp ok hp
  have B0 := hide ((Below.refl w.heap.size w).alloc (Nat.le_refl _) (.cells #[.int .i64 K, .int .i64 h, .slice A n c, .slice (some ⟨b, off, none⟩) n c'] 24))
  have K0 := hide (Bk.born w 24 #[.int .i64 K, .int .i64 h, .slice A n c, .slice (some ⟨b, off, none⟩) n c'])
  go_enter Try.func63, Try.ntmps63
  go_wp2_with (at_make; refine wpList_mk _ rfl _ _ rfl w.heap.size n rfl rfl (by omega) (by simp) ?_; intro w1 o1 b1 s1)
  have B1 := hide (B0.out.trans (b1.mono (by simp)))
  have K1 := hide (K0.out.keep b1 (by simp))
  have O1 := hide o1
  have S1 := hide s1
  clear o1 b1 s1 B0 K0
  go_loopw [6, 13] (fun s i wr => ∃ k : Nat, k ≤ n ∧ i = .int .i64 k ∧ s = .int .i64 ((tk K h cs ds).stk (pl ps) k) ∧ Own wr w.heap.size (some ⟨w.heap.size + 1, 0, none⟩) n n (fillL (fun i => (tk K h cs ds).stk (pl ps) (i + 1)) n k) ∧
      Bk wr w.heap.size 24 #[.int .i64 K, .int .i64 h, .slice A n c, .slice (some ⟨b, off, none⟩) n c'] ∧ Below w.heap.size w wr) (fun _ i _ => n - (intOf i).toNat)
  case atStart => 
    exact ⟨0, by omega, rfl, rfl, by rw [fillL_zero]; simpa using O1.out, K1.out, B1.out⟩
  case round =>
    obtain ⟨k, hk, rfl, rfl, ho, hb, hbel⟩ := hrel
    by_cases hlt : k < n
    · have d0 := OK.out.d0 k hlt
      have d1 := OK.out.d1 k hlt
      have p0 := HP.out k hlt
      have q0 := OK.out.stk_in HP.out hn (i := k) (by omega)
      have q1 := OK.out.stk_in HP.out hn (i := k + 1) (by omega)
      have HS := hide ((tk K h cs ds).stk_succ (pl ps) k)
      have cd := (R.out.below hbel (Nat.le_refl _)).cell k hlt
      have cp := (RP.out.below hbel (Nat.le_refl _)).cell k hlt
      rw [← tk_d K h cs ds k] at cd
      rw [show ps.getD k 0 = pl ps k from rfl] at cp
      rw [HS.out] at q1
      have FS := hide (fun x => fillL_set (f := fun i => (tk K h cs ds).stk (pl ps) (i + 1)) (n := n) (x := x) hlt)
      generalize hx : (tk K h cs ds).stk (pl ps) k = x at *
      have HX := hide hx
      clear hx
      generalize (tk K h cs ds).d k = y at *
      generalize pl ps k = z at *
      obtain ⟨k0, k1, k2, k3, _⟩ := hb.four
      have fz := ho.frozen k
      have cx := ho.cell hlt
      have HO := hide ho
      have HB := hide hb
      have HL := hide hbel
      clear ho hb hbel
      have w1 : IntKind.i64.wrap (z - y) = z - y := IntWalk.i64_in _ (by omega)
      have w2 : IntKind.i64.wrap (x + (z - y)) = x + (z - y) := IntWalk.i64_in _ (by omega)
      have l2 : (k : Int) < n := by omega
      go_wp2_with fail
      go_quiet (fail)
      clear w1 w2
      go_wp2
      go_roundw
      case rel => exact ⟨k + 1, by omega, by go_num, by rw [HS.out], by rw [← FS.out _ HS.out]; exact (HO.out.drewN _).stored k _, (HB.out.draws _).apart (by simp) _, (below_drewN HL.out _).setCell (by simp) _⟩
      case measure => simp [intOf]; omega
    · go_wp2_with fail
      go_ret
      obtain rfl : k = n := by omega
      rw [fillL_all] at ho
      exact ⟨_, rfl, ho, hbel⟩

end Go.Proofs.Ytlndjjdggedljaa

/- WalkF -/
namespace Go.Proofs.Ytlndjjdggedljaa
open Go.RowKit

set_option maxHeartbeats 2000000 in
theorem pumped_any (P : Option Addr) (n pc : Nat) (ps : List Int) (w : World) (hP : Row w P n pc ps) (hn : n ≤ 12) :
    Calls Try.prog 65 #[.slice P n pc] w fun e w' =>
      ∃ A1 n1 c1, e = .returned (.slice A1 n1 c1) ∧ Own w' w.heap.size A1 n1 c1 (pumpL (pl ps) n) ∧ Below w.heap.size w w' := by
  obtain ⟨bp, offp, rp⟩ := hP
  have hcapp := rp.cap
  have hmaxp := rp.max
  have RP := hide rp
  clear rp
  go_enter Try.func65, Try.ntmps65
  go_wp2
  go_loopw [3, 8] (fun v i wr => ∃ (k m : Nat) (A1 : Option Addr) (c1 : Nat), k ≤ n ∧ i = .int .i64 k ∧ v = .slice A1 m c1 ∧ m ≤ k ∧ Own wr w.heap.size A1 m c1 (pumpL (pl ps) k) ∧ Below w.heap.size w wr) (fun _ i _ => n - (intOf i).toNat)
  case atStart => exact ⟨0, 0, none, 0, Nat.zero_le _, rfl, rfl, Nat.le_refl _, Own.nil _ _, Below.refl _ _⟩
  case round =>
    obtain ⟨k, m, A1, c1, hk, rfl, rfl, hm, hown, hb⟩ := hrel
    by_cases hlt : k < n
    · obtain rfl := RP.out.at_ (by omega)
      have cp := (RP.out.below hb (Nat.le_refl _)).cell k hlt
      rw [show ps.getD k 0 = pl ps k from rfl] at cp
      have HY := hide (fun h => pumpL_yes (p := pl ps) (k := k) h)
      have HN := hide (fun h => pumpL_no (p := pl ps) (k := k) h)
      generalize pl ps k = z at *
      have hsz := hb.size
      by_cases hz : 0 < z
      · go_wp2_with (at_builtin; refine wpList_app1 _ rfl (.tmp 15) (.tmp 17) rfl w.heap.size m c1 A1 _ _ rfl rfl hown (by omega) hsz ?_; intro A2 c2 w2 hown1 hb1 hg1)
        go_roundw
        case rel => exact ⟨k + 1, m + 1, A2, c2, by omega, by go_num, by go_num, by omega, by rw [HY.out hz]; exact hown1, hb.trans (hb1.mono (by omega))⟩
        case measure => simp [intOf]; omega
      · go_wp2
        go_roundw
        case rel => exact ⟨k + 1, m, A1, c1, by omega, by go_num, by go_num, by omega, by rw [HN.out hz]; exact hown, hb⟩
        case measure => simp [intOf]; omega
    · obtain rfl : k = n := by omega
      go_wp2
      go_ret
      exact ⟨A1, m, c1, rfl, hown, hb⟩

set_option maxHeartbeats 4000000 in
theorem cost_any (K h : Int) (A : Option Addr) (n c : Nat) (cs : List Int) (A' : Option Addr) (c' : Nat) (ds : List Int) (P : Option Addr) (pc : Nat) (ps : List Int) (w : World)
    (hT : Tin w A n c cs A' n c' ds) (hP : Row w P n pc ps) (ok : (tk K h cs ds).Ok n) (hp : PlanIn (pl ps) n) (hn1 : 1 ≤ n) (hn : n ≤ 12) :
    Calls Try.prog 57 #[.agg #[.int .i64 K, .int .i64 h, .slice A n c, .slice A' n c'], .slice P n pc] w fun e w' =>
      e = .returned (.int .i64 ((tk K h cs ds).cost (pl ps) n)) ∧ Below w.heap.size w w' := by
  have HT := hide hT
  have HPr := hide hP
  obtain ⟨b, off, r⟩ := hT.1
  obtain ⟨bp, offp, rp⟩ := hP
  obtain rfl := r.at_ (by omega)
  obtain rfl := rp.at_ (by omega)
  have hcap := r.cap
  have hmax := r.max
  have hcapp := rp.cap
  have hmaxp := rp.max
  have R := hide r
  have RP := hide rp
  have OK := hide ok
  have HP := hide hp
  have hK0 := ok.K0
  have hK1 := ok.K1
  replace hK0 : 0 ≤ K := hK0
  replace hK1 : K ≤ 999 := hK1
  clear hT r rp ok hp
  have B0 := hide ((Below.refl w.heap.size w).alloc (Nat.le_refl _) (.cells #[.int .i64 K, .int .i64 h, .slice (some ⟨b, off, none⟩) n c, .slice A' n c'] 24))
  have K0 := hide (Bk.born w 24 #[.int .i64 K, .int .i64 h, .slice (some ⟨b, off, none⟩) n c, .slice A' n c'])
  go_enter Try.func57, Try.ntmps57
  go_wp2_with fail
  have W0 : (w.alloc (.cells #[.int .i64 K, .int .i64 h, .slice (some ⟨b, off, none⟩) n c, .slice A' n c'] 24)).cell? ⟨w.heap.size, 0, none⟩ = some (.int .i64 K) := K0.out.four.1
  go_region_held3 (fun w' => w'.cell? ⟨w.heap.size, 0, none⟩ = some (.int .i64 K))
    (first
      | go_keep
      | (rw [b1.cell (by simp)]; assumption))
    (first
      | (go_at_call 65; refine (pumped_any _ _ _ ps _ ((HPr.out.alloc _).drewN 1) hn).mono ?_; rintro e w1 ⟨A1, n1, c1, rfl, o1, b1⟩))
  obtain rfl := o1.len
  have hpl := pumpL_len (pl ps) n
  have hbe := (tk K h cs ds).begs_len (pl ps) n
  have hbi := OK.out.begs_in (p := pl ps) (i := n)
  replace hbe : ((pumpL (pl ps) n).length : Int) * K = (tk K h cs ds).begs (pl ps) n := hbe
  have hw : IntKind.i64.wrap (((pumpL (pl ps) n).length : Int) * K) = (tk K h cs ds).begs (pl ps) n := by rw [hbe]; exact IntWalk.i64_in _ (by omega)
  rw [hw]
  have B1 := hide ((below_drewN B0.out 1).trans (b1.mono (by simp)))
  have K1 := hide ((K0.out.draws 1).keep b1 (by simp))
  clear hw hbe o1 b1 B0 K0 W0 hpl
  obtain ⟨k0, k1, k2, k3, _⟩ := K1.out.four
  go_wp2_with fail
  refine (stock_any K h _ n c cs _ c' ds _ pc ps _ (HT.out.below B1.out (Nat.le_refl _)) (HPr.out.below B1.out (Nat.le_refl _)) OK.out HP.out hn1 hn).mono ?_
  rintro e w2 ⟨A2, rfl, o2, b2⟩
  have B2 := hide (B1.out.trans (b2.mono B1.out.size))
  have K2 := hide (K1.out.keep b2 K1.out.in_)
  rcases o2.form with ⟨_, h0, _⟩ | ⟨g, rfl, hg1, hg2, _⟩
  · omega
  have O2 := hide o2
  have RB := hide (R.out.below B2.out (Nat.le_refl _))
  have RPB := hide (RP.out.below B2.out (Nat.le_refl _))
  clear o2 b2 B1 K1 k0 k1 k2 k3
  generalize hBE : (tk K h cs ds).begs (pl ps) n = be at *
  have HBE := hide hBE
  clear hBE
  go_wp2_with fail
  go_loopw [5, 18] (fun s i wr => ∃ k m : Nat, k ≤ n ∧ i = .int .i64 k ∧ s = .int .i64 (be + (tk K h cs ds).runs (pl ps) k) ∧ wr = w2.drewN m) (fun _ i _ => n - (intOf i).toNat)
  case atStart => exact ⟨0, 0, by omega, rfl, by simp [Tk.runs, sm], rfl⟩
  case round =>
    obtain ⟨k, m, hk, rfl, rfl, rfl⟩ := hrel
    by_cases hlt : k < n
    · have cd := RB.out.cell k hlt
      have cp := RPB.out.cell k hlt
      have cl := O2.out.cell hlt
      rw [← tk_c K h cs ds k] at cd
      rw [show ps.getD k 0 = pl ps k from rfl] at cp
      rw [Tk.stkL_get _ _ hlt] at cl
      have x0 := OK.out.cp_in HP.out hlt
      have x1 := OK.out.hs_in HP.out hn (i := k + 1) (by omega)
      have x2 := OK.out.runs_in HP.out hn (i := k) (by omega)
      replace x1 : -12000 ≤ h * (tk K h cs ds).stk (pl ps) (k + 1) ∧ h * (tk K h cs ds).stk (pl ps) (k + 1) ≤ 144000 := x1
      have HS := (tk K h cs ds).runs_succ (pl ps) k
      replace HS : (tk K h cs ds).runs (pl ps) (k + 1) = (tk K h cs ds).runs (pl ps) k + ((tk K h cs ds).c k * pl ps k + h * (tk K h cs ds).stk (pl ps) (k + 1)) := HS
      have HS := hide HS
      generalize (tk K h cs ds).runs (pl ps) k = x at *
      generalize (tk K h cs ds).stk (pl ps) (k + 1) = v at *
      generalize (tk K h cs ds).c k = y at *
      generalize pl ps k = z at *
      obtain ⟨k0, k1, k2, k3, _⟩ := K2.out.four
      have w1 : IntKind.i64.wrap (y * z) = y * z := IntWalk.i64_in _ (by omega)
      have w3 : IntKind.i64.wrap (h * v) = h * v := IntWalk.i64_in _ (by omega)
      have w4 : IntKind.i64.wrap (y * z + h * v) = y * z + h * v := IntWalk.i64_in _ (by omega)
      have w5 : IntKind.i64.wrap (be + x + (y * z + h * v)) = be + x + (y * z + h * v) := IntWalk.i64_in _ (by omega)
      have l2 : (k : Int) < n := by omega
      go_wp2_with fail
      go_quiet (fail)
      clear w1 w3 w4 w5
      go_wp2
      go_roundw
      case rel => exact ⟨k + 1, _, by omega, by go_num, by rw [HS.out]; go_num, rfl⟩
      case measure => simp [intOf]; omega
    · go_wp2_with fail
      go_ret
      obtain rfl : k = n := by omega
      exact ⟨ret_i64 (by rw [Tk.cost, HBE.out]), below_drewN B2.out _⟩

end Go.Proofs.Ytlndjjdggedljaa

/- WalkG -/
namespace Go.Proofs.Ytlndjjdggedljaa
open Go.RowKit

/-- No stock is below 0, and the last one is 0. -/
def Tk.Fit (t : Tk) (p : Nat → Int) (n : Nat) : Prop := (∀ i, i < n → 0 ≤ t.stk p (i + 1)) ∧ t.stk p n = 0
instance (t : Tk) (p : Nat → Int) (n : Nat) : Decidable (t.Fit p n) := inferInstanceAs (Decidable (_ ∧ _))
def errP (K h : Int) (cs ds ps : List Int) : Int := if OkT K h cs ds ∧ AllOk ps ds.length 600 then (if (tk K h cs ds).Fit (pl ps) ds.length then 0 else 6) else 1
theorem errP_task {K h : Int} {cs ds ps : List Int} (o : ¬ OkT K h cs ds) : errP K h cs ds ps = 1 := by unfold errP; rw [if_neg (fun x => o x.1)]
theorem errP_arg {K h : Int} {cs ds ps : List Int} (o : ¬ AllOk ps ds.length 600) : errP K h cs ds ps = 1 := by unfold errP; rw [if_neg (fun x => o x.2)]
theorem errP_rule {K h : Int} {cs ds ps : List Int} (o : OkT K h cs ds) (a : AllOk ps ds.length 600) (r : ¬ (tk K h cs ds).Fit (pl ps) ds.length) : errP K h cs ds ps = 6 := by
  unfold errP; rw [if_pos ⟨o, a⟩, if_neg r]
theorem errP_ok {K h : Int} {cs ds ps : List Int} (o : OkT K h cs ds) (a : AllOk ps ds.length 600) (r : (tk K h cs ds).Fit (pl ps) ds.length) : errP K h cs ds ps = 0 := by
  unfold errP; rw [if_pos ⟨o, a⟩, if_pos r]
theorem errP_zero {K h : Int} {cs ds ps : List Int} (e : errP K h cs ds ps = 0) : OkT K h cs ds ∧ AllOk ps ds.length 600 ∧ (tk K h cs ds).Fit (pl ps) ds.length := by
  unfold errP at e
  split at e
  · rename_i h
    split at e
    · exact ⟨h.1, h.2, by assumption⟩
    · contradiction
  · contradiction
theorem AllOk.plan {ps : List Int} {n : Nat} (h : AllOk ps n 600) : PlanIn (pl ps) n := fun i hi => h.2 i (by have := h.1; omega)
theorem errP_right {K h : Int} {cs ds ps : List Int} (e : errP K h cs ds ps = 0) : (tk K h cs ds).Right (pl ps) ds.length := by
  obtain ⟨_, a, f⟩ := errP_zero e
  exact ⟨a.plan, f.1, f.2⟩
theorem fit_least {t : Tk} {p : Nat → Int} {n : Nat} {m : Int} (hm : LeastTo (t.stkL p n) n m) : (0 ≤ m) ↔ ∀ i, i < n → 0 ≤ t.stk p (i + 1) := by
  obtain ⟨h1, j, hj, h2⟩ := hm
  constructor
  · intro h i hi
    have := h1 i hi
    rw [Tk.stkL_get _ _ hi] at this
    omega
  · intro h
    rw [Tk.stkL_get _ _ hj] at h2
    have := h j hj
    omega

set_option maxHeartbeats 4000000 in
theorem validatePlan_any (K h : Int) (A : Option Addr) (n c : Nat) (cs : List Int) (A' : Option Addr) (n' c' : Nat) (ds : List Int) (P : Option Addr) (np pc : Nat) (ps : List Int) (w : World)
    (hT : Tin w A n c cs A' n' c' ds) (hP : Row w P np pc ps) :
    Calls Try.prog 56 #[.agg #[.int .i64 K, .int .i64 h, .slice A n c, .slice A' n' c'], .slice P np pc] w fun e w' =>
      e = .returned (.int .i64 (errP K h cs ds ps)) ∧ Below w.heap.size w w' := by
  have HT := hide hT
  have HPr := hide hP
  have L1 := hT.1.length
  have L2 := hT.2.length
  have L3 := hP.length
  have B0 := hide ((Below.refl w.heap.size w).alloc (Nat.le_refl _) (.cells #[.int .i64 K, .int .i64 h, .slice A n c, .slice A' n' c'] 24))
  have K0 := hide (Bk.born w 24 #[.int .i64 K, .int .i64 h, .slice A n c, .slice A' n' c'])
  clear hT hP
  by_cases o : OkT K h cs ds
  case neg =>
    have HV := hide (errP_task (ps := ps) o)
    have HE := hide (errT_no o)
    clear o
    go_enter Try.func56, Try.ntmps56
    go_wp2_with fail
    refine (Validate_any K h _ n c cs _ n' c' ds _ (HT.out.alloc _)).mono ?_
    rw [HE.out]
    rintro e w1 ⟨rfl, b1⟩
    go_wp2_with fail
    go_ret
    exact ⟨ret_i64 HV.out.symm, B0.out.trans (b1.mono (by simp))⟩
  have hn1 : 1 ≤ n' := by have := o.n1; omega
  have hn2 : n' ≤ 12 := by have := o.n2; omega
  have hcn : cs.length = ds.length := by have := o.c.1; omega
  obtain rfl : n = n' := by omega
  have HE := hide (errT_ok o)
  have HN := hide L2
  by_cases a : AllOk ps ds.length 600
  case neg =>
    have HV := hide (errP_arg (K := K) (h := h) (cs := cs) a)
    have ha := allB_false a
    rw [L2] at ha
    clear o a L1 L2 L3 hcn
    go_enter Try.func56, Try.ntmps56
    go_wp2_with fail
    refine (Validate_any K h _ n c cs _ n c' ds _ (HT.out.alloc _)).mono ?_
    rw [HE.out]
    rintro e w1 ⟨rfl, b1⟩
    have B1 := hide (B0.out.trans (b1.mono (by simp)))
    have K1 := hide (K0.out.keep b1 (by simp))
    obtain ⟨k0, k1, k2, k3, _⟩ := K1.out.four
    clear b1
    go_wp2_with fail
    refine (isForEach_any n _ np pc ps 600 _ (HPr.out.below B1.out (Nat.le_refl _)) (by omega) (by omega)).mono ?_
    rw [ha]
    rintro e w2 ⟨rfl, rfl⟩
    go_wp2_with fail
    go_ret
    exact ⟨ret_i64 HV.out.symm, B1.out⟩
  have ha := allB_true a
  rw [L2] at ha
  obtain rfl : np = n := by have := a.1; omega
  have OT := hide o
  have OK := hide (by have := o.tk; rw [L2] at this; exact this)
  have AL := hide a
  have HPl := hide (by have := a.plan; rw [L2] at this; exact this)
  have HF := hide (fun (f : (tk K h cs ds).Fit (pl ps) np) => errP_ok o a (by rw [L2]; exact f))
  have HFn := hide (fun (f : ¬ (tk K h cs ds).Fit (pl ps) np) => errP_rule o a (by rw [L2]; exact f))
  clear o a L1 L2 L3 hcn
  go_enter Try.func56, Try.ntmps56
  go_wp2_with fail
  refine (Validate_any K h _ np c cs _ np c' ds _ (HT.out.alloc _)).mono ?_
  rw [HE.out]
  rintro e w1 ⟨rfl, b1⟩
  have B1 := hide (B0.out.trans (b1.mono (by simp)))
  have K1 := hide (K0.out.keep b1 (by simp))
  obtain ⟨k0, k1, k2, k3, _⟩ := K1.out.four
  clear b1
  go_wp2_with fail
  refine (isForEach_any np _ np pc ps 600 _ (HPr.out.below B1.out (Nat.le_refl _)) (by omega) (by omega)).mono ?_
  rw [ha]
  rintro e w2 ⟨rfl, rfl⟩
  go_wp2_with fail
  refine (stock_any K h _ np c cs _ c' ds _ pc ps _ (HT.out.below B1.out (Nat.le_refl _)) (HPr.out.below B1.out (Nat.le_refl _)) OK.out HPl.out hn1 hn2).mono ?_
  rintro e w2 ⟨A2, rfl, o2, b2⟩
  have B2 := hide (B1.out.trans (b2.mono B1.out.size))
  have O2 := hide o2
  clear o2 b2 k0 k1 k2 k3 K1 B1
  go_wp2_with fail
  refine (Min_any _ _ _ _ _ O2.out.row hn1 (by omega)).mono ?_
  rintro e w3 ⟨m, rfl, hm, rfl⟩
  have HM := hide (fit_least hm)
  clear hm
  by_cases hm0 : m < 0
  · have HV := hide (HFn.out fun f => by have := HM.out.2 f.1; omega)
    go_wp2_with fail
    go_ret
    exact ⟨ret_i64 HV.out.symm, B2.out⟩
  · rcases O2.out.form with ⟨_, h0, _⟩ | ⟨g, rfl, hg1, hg2, _⟩
    · omega
    have cl := O2.out.cell (k := np - 1) (by omega)
    rw [Tk.stkL_get _ _ (by omega), show np - 1 + 1 = np from by omega] at cl
    have HV := hide (fun (hz : (tk K h cs ds).stk (pl ps) np = 0) => HF.out ⟨HM.out.1 (by omega), hz⟩)
    have HVn := hide (fun (hz : ¬ (tk K h cs ds).stk (pl ps) np = 0) => HFn.out fun f => hz f.2)
    generalize (tk K h cs ds).stk (pl ps) np = v at *
    have w1 : IntKind.i64.wrap ((np : Int) - 1) = ((np - 1 : Nat) : Int) := by rw [IntWalk.i64_in _ (by omega)]; omega
    have l2 : ((np - 1 : Nat) : Int) < np := by omega
    by_cases hv : v = 0
    · go_wp2_with fail
      go_ret
      exact ⟨ret_i64 (HV.out hv).symm, B2.out⟩
    · have hv' : (v != 0) = true := by simpa using hv
      go_wp2_with fail
      go_ret
      exact ⟨ret_i64 (HVn.out hv).symm, B2.out⟩

end Go.Proofs.Ytlndjjdggedljaa

/- WalkH -/
namespace Go.Proofs.Ytlndjjdggedljaa
open Go.RowKit

def okv (e v : Int) : Int := if e = 0 then v else 0
theorem okv_zero {e : Int} (h : e = 0) (v : Int) : okv e v = v := by unfold okv; rw [if_pos h]
theorem okv_ne {e : Int} (h : e ≠ 0) (v : Int) : okv e v = 0 := by unfold okv; rw [if_neg h]
def okb (e : Int) (v : Bool) : Bool := if e = 0 then v else false
theorem okb_zero {e : Int} (h : e = 0) (v : Bool) : okb e v = v := by unfold okb; rw [if_pos h]
theorem okb_ne {e : Int} (h : e ≠ 0) (v : Bool) : okb e v = false := by unfold okb; rw [if_neg h]
def okl (e : Int) (l : List Int) : List Int := if e = 0 then l else []
theorem okl_zero {e : Int} (h : e = 0) (v : List Int) : okl e v = v := by unfold okl; rw [if_pos h]
theorem okl_ne {e : Int} (h : e ≠ 0) (v : List Int) : okl e v = [] := by unfold okl; rw [if_neg h]
/-- The call hands back a number and an error. -/
def NumPost (v er : Int) (w : World) (e : Ending) (w' : World) : Prop := e = .returned (.tuple #[.int .i64 v, .int .i64 er]) ∧ Below w.heap.size w w'
def BoolPost (v : Bool) (er : Int) (w : World) (e : Ending) (w' : World) : Prop := e = .returned (.tuple #[.bool v, .int .i64 er]) ∧ Below w.heap.size w w'
/-- The call hands back a list of its own and an error. -/
def ListPost (l : List Int) (er : Int) (w : World) (e : Ending) (w' : World) : Prop := ∃ A n c, e = .returned (.tuple #[.slice A n c, .int .i64 er]) ∧ Own w' w.heap.size A n c l ∧ Below w.heap.size w w'
/-- No start in an hour before which there is stock. -/
def Tk.Tidy (t : Tk) (p : Nat → Int) (n : Nat) : Prop := ∀ i, i < n → ¬ (0 < p i ∧ 0 < t.stk p i)
instance (t : Tk) (p : Nat → Int) (n : Nat) : Decidable (t.Tidy p n) := inferInstanceAs (Decidable (∀ i, i < n → _))
def TidyTo (t : Tk) (p : Nat → Int) (k : Nat) : Prop := ∀ i, i < k → ¬ (0 < p i ∧ 0 < t.stk p i)
theorem tidyTo_zero (t : Tk) (p : Nat → Int) : TidyTo t p 0 := fun _ h => absurd h (Nat.not_lt_zero _)
theorem tidyTo_one (t : Tk) (p : Nat → Int) : TidyTo t p 1 := fun i h => by
  obtain rfl : i = 0 := by omega
  rw [Tk.stk_zero]
  omega
theorem tidyTo_succ {t : Tk} {p : Nat → Int} {k : Nat} (h : TidyTo t p k) (e : ¬ (0 < p k ∧ 0 < t.stk p k)) : TidyTo t p (k + 1) := fun i hi => by
  by_cases hik : i = k
  · subst hik; exact e
  · exact h i (by omega)

section
variable (K h : Int) (A : Option Addr) (n c : Nat) (cs : List Int) (A' : Option Addr) (n' c' : Nat) (ds : List Int) (P : Option Addr) (np pc : Nat) (ps : List Int) (w : World)
    (hT : Tin w A n c cs A' n' c' ds) (hP : Row w P np pc ps)
include hT hP

set_option maxHeartbeats 2000000 in
theorem CheckPlan_any :
    Calls Try.prog 20 #[.agg #[.int .i64 K, .int .i64 h, .slice A n c, .slice A' n' c'], .slice P np pc] w (NumPost (okv (errP K h cs ds ps) ((tk K h cs ds).cost (pl ps) ds.length)) (errP K h cs ds ps) w) := by
  have HT := hide hT
  have HPr := hide hP
  have L1 := hT.1.length
  have L2 := hT.2.length
  have L3 := hP.length
  have B0 := hide ((Below.refl w.heap.size w).alloc (Nat.le_refl _) (.cells #[.int .i64 K, .int .i64 h, .slice A n c, .slice A' n' c'] 24))
  have K0 := hide (Bk.born w 24 #[.int .i64 K, .int .i64 h, .slice A n c, .slice A' n' c'])
  clear hT hP
  by_cases he : errP K h cs ds ps = 0
  case neg =>
    have HE := hide he
    have he' : (errP K h cs ds ps != 0) = true := by simpa using he
    clear he
    go_enter Try.func20, Try.ntmps20
    go_wp2_with fail
    refine (validatePlan_any K h _ n c cs _ n' c' ds _ np pc ps _ (HT.out.alloc _) (HPr.out.alloc _)).mono ?_
    rintro e w1 ⟨rfl, b1⟩
    go_wp2_with fail
    go_ret2
    exact ⟨ret2_ii (okv_ne HE.out _).symm rfl, B0.out.trans (b1.mono (by simp))⟩
  obtain ⟨o, a, f⟩ := errP_zero he
  have hn1 : 1 ≤ n' := by have := o.n1; omega
  have hn2 : n' ≤ 12 := by have := o.n2; omega
  obtain rfl : n = n' := by have := o.c.1; omega
  obtain rfl : np = n := by have := a.1; omega
  have OK := hide (by have := o.tk; rw [L2] at this; exact this)
  have HPl := hide (by have := a.plan; rw [L2] at this; exact this)
  have HE := hide he
  have HN := hide L2
  clear o a f he L1 L3
  go_enter Try.func20, Try.ntmps20
  go_wp2_with fail
  refine (validatePlan_any K h _ np c cs _ np c' ds _ np pc ps _ (HT.out.alloc _) (HPr.out.alloc _)).mono ?_
  rw [HE.out]
  rintro e w1 ⟨rfl, b1⟩
  have B1 := hide (B0.out.trans (b1.mono (by simp)))
  have K1 := hide (K0.out.keep b1 (by simp))
  obtain ⟨k0, k1, k2, k3, _⟩ := K1.out.four
  clear b1
  go_wp2_with fail
  refine (cost_any K h _ np c cs _ c' ds _ pc ps _ (HT.out.below B1.out (Nat.le_refl _)) (HPr.out.below B1.out (Nat.le_refl _)) OK.out HPl.out hn1 hn2).mono ?_
  rintro e w2 ⟨rfl, b2⟩
  go_wp2_with fail
  go_ret2
  exact ⟨ret2_ii (by rw [okv_zero HE.out, HN.out]) HE.out.symm, B1.out.trans (b2.mono B1.out.size)⟩

set_option maxHeartbeats 2000000 in
theorem Stock_any :
    Calls Try.prog 24 #[.agg #[.int .i64 K, .int .i64 h, .slice A n c, .slice A' n' c'], .slice P np pc] w (ListPost (okl (errP K h cs ds ps) ((tk K h cs ds).stkL (pl ps) ds.length)) (errP K h cs ds ps) w) := by
  have HT := hide hT
  have HPr := hide hP
  have L1 := hT.1.length
  have L2 := hT.2.length
  have L3 := hP.length
  have B0 := hide ((Below.refl w.heap.size w).alloc (Nat.le_refl _) (.cells #[.int .i64 K, .int .i64 h, .slice A n c, .slice A' n' c'] 24))
  have K0 := hide (Bk.born w 24 #[.int .i64 K, .int .i64 h, .slice A n c, .slice A' n' c'])
  clear hT hP
  by_cases he : errP K h cs ds ps = 0
  case neg =>
    have HE := hide he
    have he' : (errP K h cs ds ps != 0) = true := by simpa using he
    clear he
    go_enter Try.func24, Try.ntmps24
    go_wp2_with fail
    refine (validatePlan_any K h _ n c cs _ n' c' ds _ np pc ps _ (HT.out.alloc _) (HPr.out.alloc _)).mono ?_
    rintro e w1 ⟨rfl, b1⟩
    go_wp2_with fail
    go_ret2
    exact ⟨none, 0, 0, rfl, by rw [okl_ne HE.out]; exact Own.nil _ _, B0.out.trans (b1.mono (by simp))⟩
  obtain ⟨o, a, f⟩ := errP_zero he
  have hn1 : 1 ≤ n' := by have := o.n1; omega
  have hn2 : n' ≤ 12 := by have := o.n2; omega
  obtain rfl : n = n' := by have := o.c.1; omega
  obtain rfl : np = n := by have := a.1; omega
  have OK := hide (by have := o.tk; rw [L2] at this; exact this)
  have HPl := hide (by have := a.plan; rw [L2] at this; exact this)
  have HE := hide he
  have HN := hide L2
  clear o a f he L1 L3
  go_enter Try.func24, Try.ntmps24
  go_wp2_with fail
  refine (validatePlan_any K h _ np c cs _ np c' ds _ np pc ps _ (HT.out.alloc _) (HPr.out.alloc _)).mono ?_
  rw [HE.out]
  rintro e w1 ⟨rfl, b1⟩
  have B1 := hide (B0.out.trans (b1.mono (by simp)))
  have K1 := hide (K0.out.keep b1 (by simp))
  obtain ⟨k0, k1, k2, k3, _⟩ := K1.out.four
  clear b1
  go_wp2_with fail
  refine (stock_any K h _ np c cs _ c' ds _ pc ps _ (HT.out.below B1.out (Nat.le_refl _)) (HPr.out.below B1.out (Nat.le_refl _)) OK.out HPl.out hn1 hn2).mono ?_
  rintro e w2 ⟨A2, rfl, o2, b2⟩
  go_wp2_with fail
  go_ret2
  exact ⟨_, _, _, by rw [HE.out]; rfl, by rw [okl_zero HE.out, HN.out]; exact o2.more B1.out.size, B1.out.trans (b2.mono B1.out.size)⟩

set_option maxHeartbeats 2000000 in
theorem Starts_any :
    Calls Try.prog 26 #[.agg #[.int .i64 K, .int .i64 h, .slice A n c, .slice A' n' c'], .slice P np pc] w (ListPost (okl (errP K h cs ds ps) (pumpL (pl ps) ds.length)) (errP K h cs ds ps) w) := by
  have HT := hide hT
  have HPr := hide hP
  have L1 := hT.1.length
  have L2 := hT.2.length
  have L3 := hP.length
  have B0 := hide ((Below.refl w.heap.size w).alloc (Nat.le_refl _) (.cells #[.int .i64 K, .int .i64 h, .slice A n c, .slice A' n' c'] 24))
  have K0 := hide (Bk.born w 24 #[.int .i64 K, .int .i64 h, .slice A n c, .slice A' n' c'])
  clear hT hP
  by_cases he : errP K h cs ds ps = 0
  case neg =>
    have HE := hide he
    have he' : (errP K h cs ds ps != 0) = true := by simpa using he
    clear he
    go_enter Try.func26, Try.ntmps26
    go_wp2_with fail
    refine (validatePlan_any K h _ n c cs _ n' c' ds _ np pc ps _ (HT.out.alloc _) (HPr.out.alloc _)).mono ?_
    rintro e w1 ⟨rfl, b1⟩
    go_wp2_with fail
    go_ret2
    exact ⟨none, 0, 0, rfl, by rw [okl_ne HE.out]; exact Own.nil _ _, B0.out.trans (b1.mono (by simp))⟩
  obtain ⟨o, a, f⟩ := errP_zero he
  have hn1 : 1 ≤ n' := by have := o.n1; omega
  have hn2 : n' ≤ 12 := by have := o.n2; omega
  obtain rfl : n = n' := by have := o.c.1; omega
  obtain rfl : np = n := by have := a.1; omega
  have OK := hide (by have := o.tk; rw [L2] at this; exact this)
  have HPl := hide (by have := a.plan; rw [L2] at this; exact this)
  have HE := hide he
  have HN := hide L2
  clear o a f he L1 L3
  go_enter Try.func26, Try.ntmps26
  go_wp2_with fail
  refine (validatePlan_any K h _ np c cs _ np c' ds _ np pc ps _ (HT.out.alloc _) (HPr.out.alloc _)).mono ?_
  rw [HE.out]
  rintro e w1 ⟨rfl, b1⟩
  have B1 := hide (B0.out.trans (b1.mono (by simp)))
  have K1 := hide (K0.out.keep b1 (by simp))
  obtain ⟨k0, k1, k2, k3, _⟩ := K1.out.four
  clear b1
  go_wp2_with fail
  refine (pumped_any _ np pc ps _ (HPr.out.below B1.out (Nat.le_refl _)) hn2).mono ?_
  rintro e w2 ⟨A2, n2, c2, rfl, o2, b2⟩
  go_wp2_with fail
  go_ret2
  exact ⟨_, _, _, by rw [HE.out]; rfl, by rw [okl_zero HE.out, HN.out]; exact o2.more B1.out.size, B1.out.trans (b2.mono B1.out.size)⟩

set_option maxHeartbeats 2000000 in
theorem IsTidy_any :
    Calls Try.prog 28 #[.agg #[.int .i64 K, .int .i64 h, .slice A n c, .slice A' n' c'], .slice P np pc] w (BoolPost (okb (errP K h cs ds ps) (decide ((tk K h cs ds).Tidy (pl ps) ds.length))) (errP K h cs ds ps) w) := by
  have HT := hide hT
  have HPr := hide hP
  have L1 := hT.1.length
  have L2 := hT.2.length
  have L3 := hP.length
  have B0 := hide ((Below.refl w.heap.size w).alloc (Nat.le_refl _) (.cells #[.int .i64 K, .int .i64 h, .slice A n c, .slice A' n' c'] 24))
  have K0 := hide (Bk.born w 24 #[.int .i64 K, .int .i64 h, .slice A n c, .slice A' n' c'])
  clear hT hP
  by_cases he : errP K h cs ds ps = 0
  case neg =>
    have HE := hide he
    have he' : (errP K h cs ds ps != 0) = true := by simpa using he
    clear he
    go_enter Try.func28, Try.ntmps28
    go_wp2_with fail
    refine (validatePlan_any K h _ n c cs _ n' c' ds _ np pc ps _ (HT.out.alloc _) (HPr.out.alloc _)).mono ?_
    rintro e w1 ⟨rfl, b1⟩
    go_wp2_with fail
    go_ret2
    exact ⟨ret2_bi (okb_ne HE.out _).symm rfl, B0.out.trans (b1.mono (by simp))⟩
  obtain ⟨o, a, f⟩ := errP_zero he
  have hn1 : 1 ≤ n' := by have := o.n1; omega
  have hn2 : n' ≤ 12 := by have := o.n2; omega
  obtain rfl : n = n' := by have := o.c.1; omega
  obtain rfl : np = n := by have := a.1; omega
  have OK := hide (by have := o.tk; rw [L2] at this; exact this)
  have HPl := hide (by have := a.plan; rw [L2] at this; exact this)
  have HE := hide he
  have HN := hide L2
  clear o a f he L1 L3
  go_enter Try.func28, Try.ntmps28
  go_wp2_with fail
  refine (validatePlan_any K h _ np c cs _ np c' ds _ np pc ps _ (HT.out.alloc _) (HPr.out.alloc _)).mono ?_
  rw [HE.out]
  rintro e w1 ⟨rfl, b1⟩
  have B1 := hide (B0.out.trans (b1.mono (by simp)))
  have K1 := hide (K0.out.keep b1 (by simp))
  obtain ⟨k0, k1, k2, k3, _⟩ := K1.out.four
  clear b1
  go_wp2_with fail
  refine (stock_any K h _ np c cs _ c' ds _ pc ps _ (HT.out.below B1.out (Nat.le_refl _)) (HPr.out.below B1.out (Nat.le_refl _)) OK.out HPl.out hn1 hn2).mono ?_
  rintro e w2 ⟨A2, rfl, o2, b2⟩
  have B2 := hide (B1.out.trans (b2.mono B1.out.size))
  rcases o2.form with ⟨_, h0, _⟩ | ⟨g, rfl, hg1, hg2, _⟩
  · omega
  have O2 := hide o2
  have RP := hide (HPr.out.below B2.out (Nat.le_refl _))
  obtain ⟨bp, offp, rp⟩ := RP.out
  obtain rfl := rp.at_ (by omega)
  have RPA := hide rp
  clear k0 k1 k2 k3 o2 b2 rp
  go_wp2_with fail
  go_loop [7, 20] (fun s i => ∃ k : Nat, k ≤ np ∧ i = .int .i64 k ∧ s = .int .i64 ((tk K h cs ds).stk (pl ps) k) ∧ TidyTo (tk K h cs ds) (pl ps) k) (fun _ i => np - (intOf i).toNat)
  case atStart => exact ⟨0, by omega, rfl, rfl, tidyTo_zero _ _⟩
  case round =>
    obtain ⟨k, hk, rfl, rfl, ht⟩ := hrel
    have HTT := hide ht
    clear ht
    by_cases hlt : k < np
    · have cp := RPA.out.cell k hlt
      have cl := O2.out.cell hlt
      rw [show ps.getD k 0 = pl ps k from rfl] at cp
      rw [Tk.stkL_get _ _ hlt] at cl
      have HY := hide (fun e => tidyTo_succ HTT.out (k := k) e)
      have HN' := hide (fun (e : 0 < pl ps k ∧ 0 < (tk K h cs ds).stk (pl ps) k) => decide_eq_false (p := (tk K h cs ds).Tidy (pl ps) np) fun f => f k hlt e)
      generalize hy : (tk K h cs ds).stk (pl ps) (k + 1) = y at *
      have HYE := hide hy
      clear hy
      generalize (tk K h cs ds).stk (pl ps) k = x at *
      generalize pl ps k = z at *
      by_cases hz : 0 < z
      · by_cases hx : 0 < x
        · go_wp2_with fail
          go_ret2
          exact ⟨ret2_bi (by rw [okb_zero HE.out]; (try rw [HN.out]); exact (HN'.out ⟨hz, hx⟩).symm) HE.out.symm, B2.out⟩
        · go_wp2_with fail
          go_round
          case rel => exact ⟨k + 1, by omega, by go_num, by rw [HYE.out], HY.out fun e => hx e.2⟩
          case measure => simp [intOf]; omega
      · go_wp2_with fail
        go_round
        case rel => exact ⟨k + 1, by omega, by go_num, by rw [HYE.out], HY.out fun e => hz e.1⟩
        case measure => simp [intOf]; omega
    · obtain rfl : k = np := by omega
      go_wp2_with fail
      go_ret2
      exact ⟨ret2_bi (by rw [okb_zero HE.out]; (try rw [HN.out]); exact (decide_eq_true (p := (tk K h cs ds).Tidy (pl ps) k) HTT.out).symm) HE.out.symm, B2.out⟩

end

end Go.Proofs.Ytlndjjdggedljaa
