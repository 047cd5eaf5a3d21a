/- slices.Insert of one integer into a row of ours. -/
import Derived.Test.YtndfdminjegldaaShl
import Derived.Test.YtndfdminjegldaaOwn
namespace Go.Proofs.Ytndfdminjegldaa
open Go.RowKit Go.Shelf

theorem heap_setCell_same' (w : World) (b o : Nat) (v : Value) {cur : Array Value} {e : TypeId} {fz : Nat × Nat} (h : w.heap[b]? = some (.cells cur e fz)) : ∃ cur', (w.setCell ⟨b, o, none⟩ v).heap[b]? = some (.cells cur' e fz) ∧ cur'.size = cur.size := by
  refine ⟨cur.setIfInBounds o v, ?_, by simp⟩
  show (w.heap.modify b _)[b]? = _
  rw [Array.getElem?_modify, if_pos rfl, h]
  rfl
theorem setCells_heap (b : Nat) : ∀ (vs : List Value) (o : Nat) (w : World) {cur : Array Value} {e : TypeId} {fz : Nat × Nat}, w.heap[b]? = some (.cells cur e fz) → ∃ cur', (w.setCells b o vs).heap[b]? = some (.cells cur' e fz) ∧ cur'.size = cur.size
  | [], _, w, cur, e, fz, h => ⟨cur, h, rfl⟩
  | v :: r, o, w, cur, e, fz, h => by
    obtain ⟨c1, h1, hs⟩ := heap_setCell_same' w b o v h
    obtain ⟨c2, h2, hs2⟩ := setCells_heap b r (o + 1) _ h1
    exact ⟨c2, h2, hs2.trans hs⟩
theorem below_setCells {B : Nat} {a : World} (b : Nat) (hb : B ≤ b) : ∀ (vs : List Value) (o : Nat) (w : World), Below B a w → Below B a (w.setCells b o vs)
  | [], _, _, h => h
  | v :: r, o, w, h => below_setCells b hb r (o + 1) _ (h.setCell (p := ⟨b, o, none⟩) hb v)
theorem cell_heap {w : World} {g k : Nat} {cur : Array Value} {e : TypeId} {fz : Nat × Nat} (h : w.heap[g]? = some (.cells cur e fz)) : w.cell? ⟨g, k, none⟩ = cur[k]? := by
  simp [World.cell?, h]
theorem own_of {w : World} {B g n c : Nat} {e : TypeId} {cur : Array Value} {l : List Int} (hh : w.heap[g]? = some (.cells cur e (0, 0))) (hB : B ≤ g) (hc : n ≤ c) (hm : c ≤ maxLen) (hs : cur.size = c) (hl : l.length = n)
    (hcell : ∀ k, k < n → w.cell? ⟨g, k, none⟩ = some (.int .i64 (l.getD k 0))) : Own E1 w B e (some ⟨g, 0, none⟩) n c l := by
  refine ⟨hl, ⟨by rw [E1.cells_len, hl], .inr ⟨g, c, cur, rfl, hB, hh, hc, hm, by rw [hs]; exact (Nat.mul_one c).symm, ?_⟩⟩⟩
  apply List.ext_getElem?
  intro j
  rw [show n * E1.size = n from Nat.mul_one n]
  by_cases hj : j < n
  · have h1 := E1.cells_get l (k := j) (j := 0) (by omega) (by decide)
    rw [show j * E1.size + 0 = j from Nat.mul_one j] at h1
    rw [List.getElem?_take, if_pos hj, Array.getElem?_toList, h1, ← cell_heap hh, hcell j hj]
    rfl
  · rw [List.getElem?_take, if_neg hj, List.getElem?_eq_none]
    rw [E1.cells_len, hl]
    exact Nat.le_trans (Nat.le_of_eq (Nat.mul_one n)) (by omega)
theorem ins_get {xs : List Int} {i : Nat} (x : Int) (hi : i ≤ xs.length) {k : Nat} (hk : k ≤ xs.length) : (xs.take i ++ x :: xs.drop i).getD k 0 = if k < i then xs.getD k 0 else if k = i then x else xs.getD (k - 1) 0 := by
  simp only [List.getD_eq_getElem?_getD]
  by_cases h1 : k < i
  · rw [if_pos h1, List.getElem?_append_left (by rw [List.length_take]; omega), List.getElem?_take, if_pos h1]
  · rw [if_neg h1, List.getElem?_append_right (by rw [List.length_take]; omega), List.length_take, Nat.min_eq_left hi]
    by_cases h2 : k = i
    · subst h2; simp
    · rw [if_neg h2, show k - i = (k - i - 1) + 1 by omega, List.getElem?_cons_succ, List.getElem?_drop, show i + (k - i - 1) = k - 1 by omega]
theorem cells_at {xs : List Int} {j : Nat} {v : Value} (h : (E1.cells xs)[j]? = some v) : j < xs.length ∧ v = .int .i64 (xs.getD j 0) := by
  have hj : j < xs.length := by
    have := (List.getElem?_eq_some_iff.1 h).1
    rw [E1.cells_len] at this
    have e : xs.length * E1.size = xs.length := Nat.mul_one _
    omega
  refine ⟨hj, ?_⟩
  have h1 := E1.cells_get xs (k := j) (j := 0) hj (by decide)
  rw [show j * E1.size + 0 = j from Nat.mul_one j, h] at h1
  simpa [E1] using h1
theorem cells_len1 (xs : List Int) : (E1.cells xs).length = xs.length := by rw [E1.cells_len]; exact Nat.mul_one _
theorem cells_get1 (xs : List Int) {j : Nat} (hj : j < xs.length) : (E1.cells xs)[j]? = some (.int .i64 (xs.getD j 0)) := by
  have h1 := E1.cells_get xs (k := j) (j := 0) hj (by decide)
  rw [show j * E1.size + 0 = j from Nat.mul_one j] at h1
  simpa [E1] using h1
theorem Own.heap {w : World} {B g n c : Nat} {e : TypeId} {l : List Int} (h : Own E1 w B e (some ⟨g, 0, none⟩) n c l) : ∃ cur, w.heap[g]? = some (.cells cur e (0, 0)) ∧ cur.size = c ∧ B ≤ g ∧ n ≤ c ∧ c ≤ maxLen := by
  rcases h.2.2 with ⟨hv, hn⟩ | ⟨g', cap, cur, hv, hb, hg, hnc, hcm, hs, _⟩
  · cases hv
  · simp at hv
    obtain ⟨rfl, rfl⟩ := hv
    exact ⟨cur, hg, by rw [hs]; exact Nat.mul_one _, hb, hnc, hcm⟩
def InsPost (B n i : Nat) (xs : List Int) (x : Int) (w : World) (e : Ending) (w' : World) : Prop :=
  ∃ A' c', e = .returned (.slice A' (n + 1) c') ∧ Own E1 w' B 3 A' (n + 1) c' (xs.take i ++ x :: xs.drop i) ∧ Below B w w'
set_option maxHeartbeats 1000000 in
theorem InsertI_any (A : Option Addr) (B n c i vb : Nat) (x : Int) (xs : List Int) (w : World) (HO : Own E1 w B 3 A n c xs) (HV : Own E1 w B 3 (some ⟨vb, 0, none⟩) 1 1 [x]) (hne : A ≠ some ⟨vb, 0, none⟩) (hi : i ≤ n) (hn : n ≤ 100000) (hB : B ≤ w.heap.size) :
    Calls Try.prog 83 #[.slice A n c, .int .i64 i, .slice (some ⟨vb, 0, none⟩) 1 1] w (InsPost B n i xs x w) := by
  have hl := HO.len
  have hll : (xs.take i ++ x :: xs.drop i).length = n + 1 := by simp; omega
  have hcl : (E1.cells xs).length = n := by rw [cells_len1, hl]
  have hvc := own1 HV (k := 0) (by omega)
  have hvs : ∀ (j : Nat) (v : Value), [Value.int .i64 x][j]? = some v → w.cell? ⟨vb, 0 + j, none⟩ = some v := fun j v hj => by
    cases j with
    | zero => simp at hj; subst hj; exact hvc
    | succ j => simp at hj
  have h1v : ∀ v ∈ [Value.int .i64 x], v.oneCell' = true := fun v hv => by
    simp at hv; subst hv; rfl
  have h1c := E1.cells_one xs
  have hbd : (n + 1) * 8 ≤ 140737488355328 := by omega
  have hmx : ∀ (w : World) (c : Nat), grownCap w (n + 1) c 3 ≤ maxLen := fun w c => grownCap_le_maxLen w (n + 1) c _ (by unfold maxLen; omega)
  rcases HO.form with ⟨rfl, rfl, rfl, rfl⟩ | ⟨g, rfl, hBg, hgl, hnc, hcm⟩
  · have hi0 : i = 0 := by omega
    subst hi0
    refine (Any2.slices_Insert_int_end_grow insLays none 0 0 vb 0 1 1 [] [.int .i64 x] w (by omega) (by omega) (by omega) (by omega) rfl rfl (fun _ => rfl) (fun a h => by cases h) hvs h1v).mono ?_
    rintro e w' ⟨rfl, rfl⟩
    refine ⟨_, _, rfl, own_of (g := w.heap.size) (cur := _) (Array.getElem?_push_size ..) hB (grownCap_ge w _ _ _) (hmx _ _) ?_ (by simp) ?_, ((Below.refl B w).drew.alloc (by simpa using hB) _)⟩
    · have := grownCap_ge w 1 0 3
      simp [Builtin.zeroCells, Value.cells, insRen]
      omega
    · intro k hk
      have hk0 : k = 0 := by omega
      subst hk0
      rw [cell_heap (Array.getElem?_push_size ..), Array.getElem?_append_left (by simp)]
      simp
  · obtain ⟨cur, hh, hsz, _, _, _⟩ := HO.heap
    obtain ⟨cv, hhv, hsv, _, _, _⟩ := HV.heap
    have hvg : vb ≠ g := fun e => hne (by rw [e])
    have hcs : ∀ (j : Nat) (v : Value), (E1.cells xs)[j]? = some v → w.cell? ⟨g, 0 + j, none⟩ = some v := fun j v hj => by
      obtain ⟨h1, h2⟩ := cells_at hj
      subst h2
      rw [Nat.zero_add]
      exact own1 HO (by omega)
    have hsp : ∀ j, j < c → (w.cell? ⟨g, j, none⟩).isSome = true := fun j hj => by
      rw [cell_heap hh, Array.getElem?_eq_getElem (by omega)]; rfl
    by_cases hin : i = n
    · subst hin
      have htk : xs.take i = xs := by rw [← hl]; exact List.take_length
      have hdr : xs.drop i = [] := by rw [← hl]; exact List.drop_length
      by_cases hroom : i + 1 ≤ c
      · refine (Any2.slices_Insert_int_end_room insLays g 0 i c vb 0 1 1 [.int .i64 x] w (by omega) hroom (by unfold maxLen at hcm; omega) rfl (fun j hj => hsp _ (by omega)) (fun j hj => HO.frozen _) hvs h1v).mono ?_
        rintro e w' ⟨rfl, rfl⟩
        obtain ⟨cur', hh', hs'⟩ := setCells_heap g [.int .i64 x] (0 + i) w hh
        refine ⟨_, _, rfl, own_of (cur := cur') hh' hBg hroom hcm (by omega) hll ?_, below_setCells g hBg _ _ _ (Below.refl B w)⟩
        intro k hk
        rw [ins_get x (by omega) (by omega)]
        by_cases hk1 : k < i
        · rw [if_pos hk1, World.cell?_setCells_out _ _ _ _ _ (fun _ _ => .inl (by show k < 0 + i; omega))]
          exact own1 HO hk1
        · have hki : k = i := by omega
          subst hki
          rw [if_neg (by omega), if_pos rfl]
          have := World.cell?_setCells_in g [.int .i64 x] (0 + k) w (fun j hj => hsp _ (by simp at hj; omega)) 0 (by simp)
          rw [show 0 + k + 0 = k by omega] at this
          simpa using this
      · refine (Any2.slices_Insert_int_end_grow insLays (some ⟨g, 0, none⟩) i c vb 0 1 1 (E1.cells xs) [.int .i64 x] w (by omega) hnc (by omega) hbd hcl rfl (fun h => by cases h) (fun a ha j v hj => by injection ha with ha; subst ha; have := hcs j v hj; rwa [Addr.add_lit]) hvs h1v).mono ?_
        rintro e w' ⟨rfl, rfl⟩
        refine ⟨_, _, rfl, own_of (g := w.heap.size) (cur := _) (Array.getElem?_push_size ..) hB (grownCap_ge w _ _ _) (hmx _ _) ?_ hll ?_, ((Below.refl B w).drew.alloc (by simpa using hB) _)⟩
        · have := grownCap_ge w (i + 1) c 3
          simp [Builtin.zeroCells, Value.cells, insRen, hcl]
          omega
        · intro k hk
          rw [cell_heap (Array.getElem?_push_size ..), ins_get x (by omega) (by omega)]
          rw [Array.getElem?_append_left (by simp [hcl]; omega), List.getElem?_toArray]
          by_cases hk1 : k < i
          · rw [if_pos hk1, List.getElem?_append_left (by omega)]
            exact cells_get1 xs (by omega)
          · have hki : k = i := by omega
            subst hki
            rw [if_neg (by omega), if_pos rfl, List.getElem?_append_right (by omega), hcl]
            simp
    · have hlt : i < n := by omega
      by_cases hroom : n + 1 ≤ c
      · refine (Any2.slices_Insert_int_shift insLays g 0 n c i vb 0 1 1 (E1.cells xs) [.int .i64 x] w hlt (by omega) hroom (by unfold maxLen at hcm; omega) hvg hcl rfl hcs (fun j hj => hsp _ (by omega)) (fun j hj => HO.frozen _) hvs h1c h1v _ _ _ _ (by unfold World.shape?; rw [hhv]) (by unfold World.shape?; rw [hh]) (by omega) (HV.frozen _) (HV.frozen _)).mono ?_
        rintro e w' ⟨rfl, rfl⟩
        obtain ⟨cur1, hh1, hs1⟩ := setCells_heap g ((E1.cells xs).drop i) (0 + (i + 1)) w.drew (show w.drew.heap[g]? = _ from hh)
        obtain ⟨cur2, hh2, hs2⟩ := setCells_heap g [.int .i64 x] (0 + i) _ hh1
        refine ⟨_, _, rfl, own_of (cur := cur2) hh2 hBg hroom hcm (by omega) hll ?_, below_setCells g hBg _ _ _ (below_setCells g hBg _ _ _ (Below.refl B w).drew)⟩
        have hdl : ((E1.cells xs).drop i).length = n - i := by rw [List.length_drop, hcl]
        have hsp1 : ∀ j, j < c → ((w.drew.setCells g (0 + (i + 1)) ((E1.cells xs).drop i)).cell? ⟨g, j, none⟩).isSome = true := fun j hj => by
          rw [cell_heap hh1, Array.getElem?_eq_getElem (by omega)]; rfl
        intro k hk
        rw [ins_get x (by omega) (by omega)]
        by_cases hk1 : k < i
        · rw [if_pos hk1, World.cell?_setCells_out _ _ _ _ _ (fun _ _ => .inl (by show k < 0 + i; omega)), World.cell?_setCells_out _ _ _ _ _ (fun _ _ => .inl (by show k < 0 + (i + 1); omega))]
          exact own1 HO (by omega)
        · rw [if_neg hk1]
          by_cases hk2 : k = i
          · subst hk2
            rw [if_pos rfl]
            have := World.cell?_setCells_in g [.int .i64 x] (0 + k) (w.drew.setCells g (0 + (k + 1)) ((E1.cells xs).drop k)) (fun j hj => hsp1 _ (by simp at hj; omega)) 0 (by simp)
            rw [show 0 + k + 0 = k by omega] at this
            simpa using this
          · rw [if_neg hk2, World.cell?_setCells_out _ _ _ _ _ (fun _ _ => .inr (by show 0 + i + _ ≤ k; simp; omega))]
            have := World.cell?_setCells_in g ((E1.cells xs).drop i) (0 + (i + 1)) w.drew (fun j hj => hsp _ (by rw [hdl] at hj; omega)) (k - (i + 1)) (by rw [hdl]; omega)
            rw [show 0 + (i + 1) + (k - (i + 1)) = k by omega] at this
            rw [this, ← List.getElem?_eq_getElem, List.getElem?_drop, show i + (k - (i + 1)) = k - 1 by omega]
            exact cells_get1 xs (by omega)
      · refine (Any2.slices_Insert_int_grow insLays g 0 n c i vb 0 1 1 (E1.cells xs) [.int .i64 x] w hlt (by omega) hnc (by omega) hbd hcl rfl hcs hvs h1c h1v).mono ?_
        rintro e w' ⟨rfl, rfl⟩
        have hdl : ((E1.cells xs).drop i).length = n - i := by rw [List.length_drop, hcl]
        have hge := grownCap_ge w (n + 1) c 3
        generalize hG : grownCap w (n + 1) c (insRen.t 3) = G
        have hG2 : grownCap w (n + 1) c 3 = G := hG
        rw [hG2] at hge
        generalize hROW : (((E1.cells xs).take i).toArray ++ Builtin.zeroCells (Value.int .i64 0).cells (n + 1 - i) ++ Builtin.zeroCells (Value.int .i64 0).cells (G - (n + 1))) = ROW
        have hRs : ROW.size = G := by
          rw [← hROW]
          simp [Builtin.zeroCells, Value.cells, hcl]
          omega
        have hh0 : (w.alloc (.cells ROW (insRen.t 3))).drew.heap[w.heap.size]? = some (.cells ROW 3 (0, 0)) := Array.getElem?_push_size ..
        obtain ⟨cur1, hh1, hs1⟩ := setCells_heap w.heap.size [.int .i64 x] i _ hh0
        obtain ⟨cur2, hh2, hs2⟩ := setCells_heap w.heap.size ((E1.cells xs).drop i) (i + 1) _ (show (((w.alloc (.cells ROW (insRen.t 3))).drew.setCells w.heap.size i [.int .i64 x]).drew).heap[w.heap.size]? = _ from hh1)
        have hb : Below B w ((((w.alloc (.cells ROW (insRen.t 3))).drew.setCells w.heap.size i [.int .i64 x]).drew).setCells w.heap.size (i + 1) ((E1.cells xs).drop i)) := below_setCells _ hB _ _ _ (Below.drew (below_setCells _ hB _ _ _ (((Below.refl B w).alloc hB _).drew)))
        have hm2 : G ≤ maxLen := by rw [← hG2]; exact hmx _ _
        refine ⟨_, _, rfl, own_of (cur := cur2) hh2 hB hge hm2 (by omega) hll ?_, hb⟩
        have hsp1 : ∀ j, j < n + 1 → (((w.alloc (.cells ROW (insRen.t 3))).drew.setCells w.heap.size i [.int .i64 x]).drew.cell? ⟨w.heap.size, j, none⟩).isSome = true := fun j hj => by
          rw [cell_heap (show (((w.alloc (.cells ROW (insRen.t 3))).drew.setCells w.heap.size i [.int .i64 x]).drew).heap[w.heap.size]? = _ from hh1), Array.getElem?_eq_getElem (by omega)]; rfl
        intro k hk
        rw [ins_get x (by omega) (by omega)]
        by_cases hk1 : k < i
        · rw [if_pos hk1, World.cell?_setCells_out _ _ _ _ _ (fun _ _ => .inl (by show k < i + 1; omega))]
          show ((w.alloc (.cells ROW (insRen.t 3))).drew.setCells w.heap.size i [.int .i64 x]).cell? _ = _
          rw [World.cell?_setCells_out _ _ _ _ _ (fun _ _ => .inl (by show k < i; omega)), cell_heap hh0, ← hROW, Array.append_assoc, Array.getElem?_append_left (by simp [hcl]; omega), List.getElem?_toArray, List.getElem?_take, if_pos hk1]
          exact cells_get1 xs (by omega)
        · rw [if_neg hk1]
          by_cases hk2 : k = i
          · subst hk2
            rw [if_pos rfl, World.cell?_setCells_out _ _ _ _ _ (fun _ _ => .inl (by show k < k + 1; omega))]
            have := World.cell?_setCells_in w.heap.size [.int .i64 x] k (w.alloc (.cells ROW (insRen.t 3))).drew (fun j hj => by rw [cell_heap hh0, Array.getElem?_eq_getElem (by simp at hj; omega)]; rfl) 0 (by simp)
            rw [Nat.add_zero] at this
            simpa using this
          · rw [if_neg hk2]
            have := World.cell?_setCells_in w.heap.size ((E1.cells xs).drop i) (i + 1) (((w.alloc (.cells ROW (insRen.t 3))).drew.setCells w.heap.size i [.int .i64 x]).drew) (fun j hj => hsp1 _ (by rw [hdl] at hj; omega)) (k - (i + 1)) (by rw [hdl]; omega)
            rw [show i + 1 + (k - (i + 1)) = k by omega] at this
            rw [this, ← List.getElem?_eq_getElem, List.getElem?_drop, show i + (k - (i + 1)) = k - 1 by omega]
            exact cells_get1 xs (by omega)
end Go.Proofs.Ytndfdminjegldaa
