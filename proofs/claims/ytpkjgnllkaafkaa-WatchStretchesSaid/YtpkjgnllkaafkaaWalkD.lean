/- The shifts with their numbers in the order of their beginnings, or of their ends, as an iterator. -/
import Derived.Test.YtpkjgnllkaafkaaWalkC
namespace Go.Proofs.Ytpkjgnllkaafkaa
open Go.RowKit

theorem made_cells {α : Type} (E : Enc α) (hE : 0 < E.size) (n : Nat) : (madeCells (E.enc E.d).toArray (n * E.size)).toList = E.cells (List.replicate n E.d) := by
  have hs := E.len E.d
  refine List.ext_getElem? fun j => ?_
  have hl : (madeCells (E.enc E.d).toArray (n * E.size)).size = n * E.size := size_madeCells _ _
  by_cases hj : j < n * E.size
  · have hq : j / E.size < n := Nat.div_lt_of_lt_mul (by rw [Nat.mul_comm]; exact hj)
    have hr : j % E.size < E.size := Nat.mod_lt _ hE
    have g1 := E.cells_get (List.replicate n E.d) (k := j / E.size) (j := j % E.size) (by simpa using hq) hr
    have e1 : (List.replicate n E.d).getD (j / E.size) E.d = E.d := by
      rw [List.getD_eq_getElem?_getD, List.getElem?_replicate]
      split <;> rfl
    rw [show j / E.size * E.size + j % E.size = j by rw [Nat.mul_comm]; exact Nat.div_add_mod _ _, e1] at g1
    rw [g1, Array.getElem?_toList, Array.getElem?_eq_getElem (by omega)]
    simp only [madeCells, Array.getElem_map, Array.getElem_range, List.size_toArray]
    rw [hs]
    rw [List.getElem?_eq_getElem (by omega)]
    simp [hs, hr]
  · rw [List.getElem?_eq_none (by simp [hl]; omega), List.getElem?_eq_none (by rw [E.cells_len]; simp; omega)]
section
variable {α : Type} {E : Enc α} {P : Program} (w : World) {ops : Array Oper} {rest : List Oper} {o : Oper} {a : Act} {Q : Exit → Act → World → Prop}
/-- make([]T, n). -/
theorem wpList_mk (z : Value) (bytes : Nat) (hgd : o.guard = none) (lo co : Operand) (t e : TypeId) (hop : o.op = Op.makeSlice t lo co)
    (hu : P.underlying t = some (.slice e)) (hinfo : (P.info? e).map (fun i => (i.zero, i.size, i.bytes)) = some (some z, E.size, bytes)) (hz : z.cells = (E.enc E.d).toArray) (hE : 0 < E.size) (hby : bytes ≤ 64) (B n : Nat) (hl : a.eval lo = .int .i64 n) (hc : a.eval co = .int .i64 n)
    (hn : n ≤ 1000000) (hB : B ≤ w.heap.size)
    (h : ∀ w', Own E w' B e (some ⟨w.heap.size, 0, none⟩) n n (List.replicate n E.d) → Below w.heap.size w w' → w.heap.size < w'.heap.size → wpList P ops Q rest (a.put o.dst (.slice (some ⟨w.heap.size, 0, none⟩) n n)) w') :
    wpList P ops Q (o :: rest) a w := by
  obtain ⟨i0, hi, hz0, hz1, hz2⟩ := info_parts hinfo
  refine wpList_make_full (P := P) w hgd lo co t hop B e i0 z E.size hu hi hz0 hz1 .i64 .i64 n n n hl hc rfl rfl ?_ (by unfold maxLen; omega) hB fun w' hown hg => ?_
  · rw [hz2]
    have : bytes * n ≤ 64 * n := Nat.mul_le_mul_right _ hby
    omega
  · rw [hz, made_cells E hE] at hown
    have ho : Own E w' B e (some ⟨w.heap.size, 0, none⟩) n n (List.replicate n E.d) := ⟨by simp, hown⟩
    refine h w' ho ((Below.refl _ w).grown hg (Nat.le_refl _) fun k hk => by cases hk) ?_
    rcases ho.form with ⟨hh, _⟩ | ⟨g, hA, _, hlt, _⟩
    · cases hh
    · injection hA with hA; injection hA with hA; omega
end
theorem info_num : (Try.prog.info? 75).map (fun i => (i.zero, i.size, i.bytes)) = some (some (.agg #[.int .i64 0, .int .i64 0, .int .i64 0, .int .i64 0]), 4, 32) := by kernel_rfl
theorem info_shift : (Try.prog.info? 57).map (fun i => (i.zero, i.size, i.bytes)) = some (some (.agg #[.int .i64 0, .int .i64 0, .int .i64 0]), 3, 24) := by kernel_rfl
theorem info_int : (Try.prog.info? 3).map (fun i => (i.zero, i.size, i.bytes)) = some (some (.int .i64 0), 1, 8) := by kernel_rfl
/-- The first k shifts with their numbers, the rest as made. -/
def numTo (xs : Ls) (k : Nat) : Ns := (num xs).take k ++ List.replicate (xs.length - k) nm0
theorem numTo_zero (xs : Ls) : numTo xs 0 = List.replicate xs.length nm0 := by simp [numTo]
theorem numTo_all (xs : Ls) : numTo xs xs.length = num xs := by
  unfold numTo
  rw [List.take_of_length_le (by rw [num_len]; exact Nat.le_refl _)]
  simp
theorem numTo_succ {xs : Ls} {k : Nat} (h : k < xs.length) {x : Sh} (hx : xs.getD k sh0 = x) : numTo xs (k + 1) = (numTo xs k).set k (x.1, x.2.1, x.2.2, (k : Int)) := by
  have hl : ((num xs).take k).length = k := by rw [List.length_take, num_len]; omega
  have e0 : (num xs)[k]'(by rw [num_len]; exact h) = (x.1, x.2.1, x.2.2, (k : Int)) := by
    have := gt_num h
    rw [hx] at this
    simpa [gt, List.getD_eq_getElem?_getD, num_len, h] using this
  unfold numTo
  rw [List.take_succ_eq_append_getElem (by rw [num_len]; exact h), e0, List.set_append_right _ _ (by omega), hl, Nat.sub_self, show xs.length - k = xs.length - (k + 1) + 1 by omega, List.replicate_succ, List.set_cons_zero]
  simp
/-- An iterator over a row of the shifts in the order of a key. -/
def OrdPost (key : Nm → Int) (xs : Ls) (n : Nat) (w : World) (e : Ending) (w' : World) : Prop :=
  ∃ (g Bs c' : Nat) (L : Ns), e = .returned (.func (.func 100) #[] #[.pointer (some ⟨Bs, 0, none⟩)]) ∧ Own E4 w' w.heap.size 75 (some ⟨g, 0, none⟩) n c' L ∧
    w'.cell? ⟨Bs, 0, none⟩ = some (.slice (some ⟨g, 0, none⟩) n c') ∧ Bs < w'.heap.size ∧ w.heap.size ≤ Bs ∧ g < Bs ∧ Ord key xs L ∧ Below w.heap.size w w'
set_option maxHeartbeats 400000 in
theorem Values_any (A : Option Addr) (n c : Nat) (w : World) :
    Calls Try.prog 89 #[.slice A n c] w fun e w' => e = .returned (.func (.func 100) #[] #[.pointer (some ⟨w.heap.size, 0, none⟩)]) ∧ w' = w.alloc (.cells #[.slice A n c] 84) := by
  go_enter Try.func89, Try.ntmps89
  go_wp2
  go_ret
  exact ⟨rfl, rfl⟩

set_option maxHeartbeats 1000000 in
theorem insFrom_zero (g c : Nat) (w : World) :
    Calls Try.prog 114 #[.slice (some ⟨g, 0, none⟩) 0 c, .int .i64 0, .int .i64 0, .func (.func 67) #[] #[]] w fun e w' => e = .returned (.tuple #[]) ∧ w = w' := by
  go_enter Try.func114, Try.ntmps114
  go_wp2_with fail
  go_loopw [8] (fun i wr => i = .int .i64 1 ∧ w = wr) (fun i _ => 0)
  case atStart => exact ⟨by go_num, rfl⟩
  case round =>
    obtain ⟨rfl, rfl⟩ := hrel
    go_wp2_with fail
    exact bodyPost_end (results_none rfl _ _ _) rfl ⟨rfl, rfl⟩
theorem insFrom_all (g n c : Nat) (L : Ns) (B : Nat) (w : World) (h : Own E4 w B 75 (some ⟨g, 0, none⟩) n c L) (hn : n ≤ 12) :
    Calls Try.prog 114 #[.slice (some ⟨g, 0, none⟩) n c, .int .i64 0, .int .i64 n, .func (.func 67) #[] #[]] w (SortPost kf B g n c L w) := by
  by_cases h0 : n = 0
  · subst h0
    refine (insFrom_zero g c w).mono ?_
    rintro e w' ⟨rfl, rfl⟩
    exact ⟨L, rfl, h, List.Perm.refl _, upto_one _ _ (by omega), Below.refl _ _⟩
  · exact insFrom_any g n c L B w h (by omega) hn
set_option maxHeartbeats 1000000 in
theorem stableFrom_any (g n c : Nat) (L : Ns) (B : Nat) (w : World) (h : Own E4 w B 75 (some ⟨g, 0, none⟩) n c L) (hn : n ≤ 12) :
    Calls Try.prog 99 #[.slice (some ⟨g, 0, none⟩) n c, .int .i64 n, .func (.func 67) #[] #[]] w (SortPost kf B g n c L w) := by
  go_enter Try.func99, Try.ntmps99
  go_wp2_with fail
  go_loopw [7, 8] (fun i j wr => i = .int .i64 0 ∧ j = .int .i64 20 ∧ w = wr) (fun _ _ _ => 0)
  case atStart => exact ⟨rfl, rfl, rfl⟩
  case round =>
    obtain ⟨rfl, rfl, rfl⟩ := hrel
    go_wp2_with fail
    refine (insFrom_all g n c L B w h hn).mono ?_
    rintro e w1 ⟨L', rfl, ho, hp, hu, hb⟩
    have HO := hide ho
    have HP := hide hp
    have HU := hide hu
    have HB := hide hb
    clear ho hp hu hb
    go_wp2_with fail
    go_loopw [6] (fun i wr => i = .int .i64 20 ∧ w1 = wr) (fun _ _ => 0)
    case atStart => exact ⟨rfl, rfl⟩
    case round =>
      obtain ⟨rfl, rfl⟩ := hrel
      go_wp2_with fail
      exact bodyPost_end (results_none rfl _ _ _) rfl ⟨L', rfl, HO.out, HP.out, HU.out, HB.out⟩
set_option maxHeartbeats 1000000 in
theorem sortFrom_any (g n c : Nat) (L : Ns) (B : Nat) (w : World) (h : Own E4 w B 75 (some ⟨g, 0, none⟩) n c L) (hn : n ≤ 12) :
    Calls Try.prog 88 #[.slice (some ⟨g, 0, none⟩) n c, .func (.func 67) #[] #[]] w (SortPost kf B g n c L w) := by
  go_enter Try.func88, Try.ntmps88
  go_wp2_with fail
  refine (stableFrom_any g n c L B w h hn).mono ?_
  rintro e w1 ⟨L', rfl, ho, hp, hu, hb⟩
  go_wp2_with fail
  exact bodyPost_end (results_none rfl _ _ _) rfl ⟨L', rfl, ho, hp, hu, hb⟩
set_option maxRecDepth 100000 in
set_option maxHeartbeats 3200000 in
theorem inOrderFrom_any (A : Option Addr) (n c : Nat) (xs : Ls) (w : World) (h : R E3 w A n c xs) (hn : n ≤ 12) :
    Calls Try.prog 66 #[.slice A n c, .func (.func 67) #[] #[]] w (OrdPost kf xs n w) := by
  obtain ⟨b, off, hr⟩ := h
  have HR := hide hr
  have HL := hide hr.len
  have hcap := hr.cap
  have hmax := hr.max
  clear hr
  go_enter Try.func66, Try.ntmps66
  go_wp2_with (at_make; refine wpList_mk (E := E4) _ (.agg #[.int .i64 0, .int .i64 0, .int .i64 0, .int .i64 0]) 32 rfl (.tmp 9) (.tmp 9) 84 75 rfl Try.underlying84 info_num rfl (by decide) (by omega) w.heap.size n rfl rfl (by omega) (Nat.le_refl _) ?_; intro w1 o1 b1 z1)
  have O1 := hide (show Own E4 w1 w.heap.size 75 (some ⟨w.heap.size, 0, none⟩) n n (numTo xs 0) by rw [numTo_zero, HL.out]; exact o1)
  have B1 := hide b1
  clear o1 b1
  go_loopw [13] (fun i wr => ∃ k : Nat, k ≤ n ∧ i = .int .i64 k ∧ Hid (Own E4 wr w.heap.size 75 (some ⟨w.heap.size, 0, none⟩) n n (numTo xs k)) ∧ Hid (Below w.heap.size w wr)) (fun i _ => n - (intOf i).toNat)
  case atStart => exact ⟨0, Nat.zero_le _, rfl, O1, B1⟩
  case round =>
    clear O1 B1
    obtain ⟨k, hk, rfl, HO, HB⟩ := hrel
    by_cases hlt : k < n
    · obtain rfl := HR.out.at_ (by omega)
      have hbl := HR.out.lt (by omega)
      obtain ⟨c1, c2, c3⟩ := c3 (HR.out.under HB.out fun _ => hbl) hlt
      obtain ⟨gx, hg1, hg2, hg3, _⟩ := HO.out.addr (by omega)
      injection hg1 with hg1
      injection hg1 with hg1
      subst hg1
      have HS := hide (numTo_succ (xs := xs) (k := k) (by rw [HL.out]; exact hlt) (x := xs.getD k sh0) rfl)
      generalize hx : xs.getD k sh0 = x at *
      have HX := hide hx
      clear hx
      obtain ⟨x1, x2, x3⟩ := x
      simp only at c1 c2 c3
      have f1 := HO.out.frozen (k * 4)
      have f2 := HO.out.frozen (k * 4 + 1)
      have f3 := HO.out.frozen (k * 4 + 2)
      have f4 := HO.out.frozen (k * 4 + 3)
      obtain ⟨d1, d2, d3, d4⟩ := own4 HO.out hlt
      have hblr : b < wr.heap.size := Nat.lt_of_lt_of_le hbl HB.out.size
      go_wp2_with fail
      go_roundw
      case rel => exact ⟨k + 1, by omega, by go_num, hide (by rw [HS.out]; exact (HO.out.stored4 hlt x1 x2 x3 k).alloc _), hide (((((HB.out.setCell (Nat.le_refl _) _).setCell (Nat.le_refl _) _).setCell (Nat.le_refl _) _).setCell (Nat.le_refl _) _).alloc (by simpa using HB.out.size) _)⟩
      case measure => simp [intOf]; omega
    · obtain rfl : k = n := by omega
      have HO1 := hide (show Own E4 wr w.heap.size 75 (some ⟨w.heap.size, 0, none⟩) k k (num xs) by have := HO.out; rw [← numTo_all, HL.out]; exact this)
      go_wp2_with fail
      refine (sortFrom_any w.heap.size k k (num xs) w.heap.size wr HO1.out hn).mono ?_
      rintro e w2 ⟨L, rfl, ho, hp, hu, hb⟩
      have HO2 := hide ho
      have HP := hide hp
      have HU := hide hu
      have HB2 := hide (HB.out.trans hb)
      clear ho hp hu hb
      go_wp2_with (go_at_call 89; refine (Values_any _ _ _ _).mono ?_; rintro e w3 ⟨rfl, rfl⟩)
      go_ret
      have hzz := HB2.out.size
      obtain ⟨gx, hg1, hg2, hg3, _⟩ : ∃ gx, some (⟨w.heap.size, 0, none⟩ : Addr) = some ⟨gx, 0, none⟩ ∧ w.heap.size ≤ gx ∧ gx < w2.heap.size ∧ True := by
        rcases HO2.out.form with ⟨hh, _⟩ | ⟨gx, h1, h2, h3, _⟩
        · cases hh
        · exact ⟨gx, h1, h2, h3, trivial⟩
      injection hg1 with hg1
      injection hg1 with hg1
      refine ⟨w.heap.size, w2.heap.size, k, L, rfl, HO2.out.alloc _, by simp, by simp, hzz, by omega, ⟨HP.out, upto_sorted (by rw [HO2.out.len]; exact HU.out)⟩, HB2.out.alloc hzz _⟩

set_option maxHeartbeats 1000000 in
theorem insTo_zero (g c : Nat) (w : World) :
    Calls Try.prog 114 #[.slice (some ⟨g, 0, none⟩) 0 c, .int .i64 0, .int .i64 0, .func (.func 96) #[] #[]] w fun e w' => e = .returned (.tuple #[]) ∧ w = w' := by
  go_enter Try.func114, Try.ntmps114
  go_wp2_with fail
  go_loopw [8] (fun i wr => i = .int .i64 1 ∧ w = wr) (fun i _ => 0)
  case atStart => exact ⟨by go_num, rfl⟩
  case round =>
    obtain ⟨rfl, rfl⟩ := hrel
    go_wp2_with fail
    exact bodyPost_end (results_none rfl _ _ _) rfl ⟨rfl, rfl⟩
theorem insTo_all (g n c : Nat) (L : Ns) (B : Nat) (w : World) (h : Own E4 w B 75 (some ⟨g, 0, none⟩) n c L) (hn : n ≤ 12) :
    Calls Try.prog 114 #[.slice (some ⟨g, 0, none⟩) n c, .int .i64 0, .int .i64 n, .func (.func 96) #[] #[]] w (SortPost kt B g n c L w) := by
  by_cases h0 : n = 0
  · subst h0
    refine (insTo_zero g c w).mono ?_
    rintro e w' ⟨rfl, rfl⟩
    exact ⟨L, rfl, h, List.Perm.refl _, upto_one _ _ (by omega), Below.refl _ _⟩
  · exact insTo_any g n c L B w h (by omega) hn
set_option maxHeartbeats 1000000 in
theorem stableTo_any (g n c : Nat) (L : Ns) (B : Nat) (w : World) (h : Own E4 w B 75 (some ⟨g, 0, none⟩) n c L) (hn : n ≤ 12) :
    Calls Try.prog 99 #[.slice (some ⟨g, 0, none⟩) n c, .int .i64 n, .func (.func 96) #[] #[]] w (SortPost kt B g n c L w) := by
  go_enter Try.func99, Try.ntmps99
  go_wp2_with fail
  go_loopw [7, 8] (fun i j wr => i = .int .i64 0 ∧ j = .int .i64 20 ∧ w = wr) (fun _ _ _ => 0)
  case atStart => exact ⟨rfl, rfl, rfl⟩
  case round =>
    obtain ⟨rfl, rfl, rfl⟩ := hrel
    go_wp2_with fail
    refine (insTo_all g n c L B w h hn).mono ?_
    rintro e w1 ⟨L', rfl, ho, hp, hu, hb⟩
    have HO := hide ho
    have HP := hide hp
    have HU := hide hu
    have HB := hide hb
    clear ho hp hu hb
    go_wp2_with fail
    go_loopw [6] (fun i wr => i = .int .i64 20 ∧ w1 = wr) (fun _ _ => 0)
    case atStart => exact ⟨rfl, rfl⟩
    case round =>
      obtain ⟨rfl, rfl⟩ := hrel
      go_wp2_with fail
      exact bodyPost_end (results_none rfl _ _ _) rfl ⟨L', rfl, HO.out, HP.out, HU.out, HB.out⟩
set_option maxHeartbeats 1000000 in
theorem sortTo_any (g n c : Nat) (L : Ns) (B : Nat) (w : World) (h : Own E4 w B 75 (some ⟨g, 0, none⟩) n c L) (hn : n ≤ 12) :
    Calls Try.prog 88 #[.slice (some ⟨g, 0, none⟩) n c, .func (.func 96) #[] #[]] w (SortPost kt B g n c L w) := by
  go_enter Try.func88, Try.ntmps88
  go_wp2_with fail
  refine (stableTo_any g n c L B w h hn).mono ?_
  rintro e w1 ⟨L', rfl, ho, hp, hu, hb⟩
  go_wp2_with fail
  exact bodyPost_end (results_none rfl _ _ _) rfl ⟨L', rfl, ho, hp, hu, hb⟩
set_option maxRecDepth 100000 in
set_option maxHeartbeats 3200000 in
theorem inOrderTo_any (A : Option Addr) (n c : Nat) (xs : Ls) (w : World) (h : R E3 w A n c xs) (hn : n ≤ 12) :
    Calls Try.prog 66 #[.slice A n c, .func (.func 96) #[] #[]] w (OrdPost kt xs n w) := by
  obtain ⟨b, off, hr⟩ := h
  have HR := hide hr
  have HL := hide hr.len
  have hcap := hr.cap
  have hmax := hr.max
  clear hr
  go_enter Try.func66, Try.ntmps66
  go_wp2_with (at_make; refine wpList_mk (E := E4) _ (.agg #[.int .i64 0, .int .i64 0, .int .i64 0, .int .i64 0]) 32 rfl (.tmp 9) (.tmp 9) 84 75 rfl Try.underlying84 info_num rfl (by decide) (by omega) w.heap.size n rfl rfl (by omega) (Nat.le_refl _) ?_; intro w1 o1 b1 z1)
  have O1 := hide (show Own E4 w1 w.heap.size 75 (some ⟨w.heap.size, 0, none⟩) n n (numTo xs 0) by rw [numTo_zero, HL.out]; exact o1)
  have B1 := hide b1
  clear o1 b1
  go_loopw [13] (fun i wr => ∃ k : Nat, k ≤ n ∧ i = .int .i64 k ∧ Hid (Own E4 wr w.heap.size 75 (some ⟨w.heap.size, 0, none⟩) n n (numTo xs k)) ∧ Hid (Below w.heap.size w wr)) (fun i _ => n - (intOf i).toNat)
  case atStart => exact ⟨0, Nat.zero_le _, rfl, O1, B1⟩
  case round =>
    clear O1 B1
    obtain ⟨k, hk, rfl, HO, HB⟩ := hrel
    by_cases hlt : k < n
    · obtain rfl := HR.out.at_ (by omega)
      have hbl := HR.out.lt (by omega)
      obtain ⟨c1, c2, c3⟩ := c3 (HR.out.under HB.out fun _ => hbl) hlt
      obtain ⟨gx, hg1, hg2, hg3, _⟩ := HO.out.addr (by omega)
      injection hg1 with hg1
      injection hg1 with hg1
      subst hg1
      have HS := hide (numTo_succ (xs := xs) (k := k) (by rw [HL.out]; exact hlt) (x := xs.getD k sh0) rfl)
      generalize hx : xs.getD k sh0 = x at *
      have HX := hide hx
      clear hx
      obtain ⟨x1, x2, x3⟩ := x
      simp only at c1 c2 c3
      have f1 := HO.out.frozen (k * 4)
      have f2 := HO.out.frozen (k * 4 + 1)
      have f3 := HO.out.frozen (k * 4 + 2)
      have f4 := HO.out.frozen (k * 4 + 3)
      obtain ⟨d1, d2, d3, d4⟩ := own4 HO.out hlt
      have hblr : b < wr.heap.size := Nat.lt_of_lt_of_le hbl HB.out.size
      go_wp2_with fail
      go_roundw
      case rel => exact ⟨k + 1, by omega, by go_num, hide (by rw [HS.out]; exact (HO.out.stored4 hlt x1 x2 x3 k).alloc _), hide (((((HB.out.setCell (Nat.le_refl _) _).setCell (Nat.le_refl _) _).setCell (Nat.le_refl _) _).setCell (Nat.le_refl _) _).alloc (by simpa using HB.out.size) _)⟩
      case measure => simp [intOf]; omega
    · obtain rfl : k = n := by omega
      have HO1 := hide (show Own E4 wr w.heap.size 75 (some ⟨w.heap.size, 0, none⟩) k k (num xs) by have := HO.out; rw [← numTo_all, HL.out]; exact this)
      go_wp2_with fail
      refine (sortTo_any w.heap.size k k (num xs) w.heap.size wr HO1.out hn).mono ?_
      rintro e w2 ⟨L, rfl, ho, hp, hu, hb⟩
      have HO2 := hide ho
      have HP := hide hp
      have HU := hide hu
      have HB2 := hide (HB.out.trans hb)
      clear ho hp hu hb
      go_wp2_with (go_at_call 89; refine (Values_any _ _ _ _).mono ?_; rintro e w3 ⟨rfl, rfl⟩)
      go_ret
      have hzz := HB2.out.size
      obtain ⟨gx, hg1, hg2, hg3, _⟩ : ∃ gx, some (⟨w.heap.size, 0, none⟩ : Addr) = some ⟨gx, 0, none⟩ ∧ w.heap.size ≤ gx ∧ gx < w2.heap.size ∧ True := by
        rcases HO2.out.form with ⟨hh, _⟩ | ⟨gx, h1, h2, h3, _⟩
        · cases hh
        · exact ⟨gx, h1, h2, h3, trivial⟩
      injection hg1 with hg1
      injection hg1 with hg1
      refine ⟨w.heap.size, w2.heap.size, k, L, rfl, HO2.out.alloc _, by simp, by simp, hzz, by omega, ⟨HP.out, upto_sorted (by rw [HO2.out.len]; exact HU.out)⟩, HB2.out.alloc hzz _⟩

end Go.Proofs.Ytpkjgnllkaafkaa
