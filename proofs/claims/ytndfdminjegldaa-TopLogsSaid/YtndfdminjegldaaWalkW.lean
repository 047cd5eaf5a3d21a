/- Walks: is it a table. -/
import Derived.Test.YtndfdminjegldaaMV
import Derived.Test.YtndfdminjegldaaLift2
import Derived.Test.YtndfdminjegldaaWalkF
import Derived.Ground.NamesProg
import Derived.Shelf.Slices.Turned
namespace Go.Proofs.Ytndfdminjegldaa
open Go.RowKit Go.Shelf
attribute [local go_sem] Oper.semAt_some

def maxRen : Go.Shelf.Ren := ⟨fun | 113 => 87 | n => n, fun | 28 => 22 | 3 => 3 | 4 => 4 | 0 => 0 | 9 => 9 | 20 => 20 | n => n, fun | n => n⟩
theorem maxLays : Lays.n113 Try.prog maxRen where
  mixed := by kernel_rfl
  f113 := Try.func87.trans (congrArg some (by kernel_rfl))
  t0 := Try.underlying0
  a0 := Try.isAgg0
  z0 := Try.sizeOf0
  v0 := Try.zeroValue0
  t3 := Try.underlying3
  a3 := Try.isAgg3
  z3 := Try.sizeOf3
  v3 := Try.zeroValue3
  t4 := Try.underlying4
  a4 := Try.isAgg4
  z4 := Try.sizeOf4
  v4 := Try.zeroValue4
  t9 := Try.underlying9
  a9 := Try.isAgg9
  z9 := Try.sizeOf9
  v9 := Try.zeroValue9
  t20 := Try.underlying20
  a20 := Try.isAgg20
  z20 := Try.sizeOf20
  v20 := Try.zeroValue20
  t28 := Try.underlying22
  a28 := Try.isAgg22
  z28 := Try.sizeOf22
  v28 := Try.zeroValue22
def minRen : Go.Shelf.Ren := ⟨fun | 114 => 86 | n => n, fun | 28 => 22 | 3 => 3 | 4 => 4 | 0 => 0 | 9 => 9 | 20 => 20 | n => n, fun | n => n⟩
theorem minLays : Lays.n114 Try.prog minRen where
  mixed := by kernel_rfl
  f114 := Try.func86.trans (congrArg some (by kernel_rfl))
  t0 := Try.underlying0
  a0 := Try.isAgg0
  z0 := Try.sizeOf0
  v0 := Try.zeroValue0
  t3 := Try.underlying3
  a3 := Try.isAgg3
  z3 := Try.sizeOf3
  v3 := Try.zeroValue3
  t4 := Try.underlying4
  a4 := Try.isAgg4
  z4 := Try.sizeOf4
  v4 := Try.zeroValue4
  t9 := Try.underlying9
  a9 := Try.isAgg9
  z9 := Try.sizeOf9
  v9 := Try.zeroValue9
  t20 := Try.underlying20
  a20 := Try.isAgg20
  z20 := Try.sizeOf20
  v20 := Try.zeroValue20
  t28 := Try.underlying22
  a28 := Try.isAgg22
  z28 := Try.sizeOf22
  v28 := Try.zeroValue22
theorem foldl_max (f : Int → Int → Int) (hf : ∀ a b, (f a b = a ∨ f a b = b) ∧ a ≤ f a b ∧ b ≤ f a b) : ∀ (l : List Int) (a : Int), (l.foldl f a = a ∨ l.foldl f a ∈ l) ∧ a ≤ l.foldl f a ∧ ∀ x ∈ l, x ≤ l.foldl f a
  | [], a => ⟨.inl rfl, Int.le_refl _, fun x h => by cases h⟩
  | b :: l, a => by
    have ih := foldl_max f hf l (f a b)
    have h := hf a b
    rw [List.foldl_cons]
    refine ⟨?_, by omega, fun x hx => ?_⟩
    · rcases ih.1 with e | e
      · rcases h.1 with e2 | e2
        · left; rw [e, e2]
        · right; rw [e, e2]; simp
      · right; simp [e]
    · rcases List.mem_cons.1 hx with rfl | hx
      · omega
      · exact ih.2.2 x hx
theorem foldl_min (f : Int → Int → Int) (hf : ∀ a b, (f a b = a ∨ f a b = b) ∧ f a b ≤ a ∧ f a b ≤ b) : ∀ (l : List Int) (a : Int), (l.foldl f a = a ∨ l.foldl f a ∈ l) ∧ l.foldl f a ≤ a ∧ ∀ x ∈ l, l.foldl f a ≤ x
  | [], a => ⟨.inl rfl, Int.le_refl _, fun x h => by cases h⟩
  | b :: l, a => by
    have ih := foldl_min f hf l (f a b)
    have h := hf a b
    rw [List.foldl_cons]
    refine ⟨?_, by omega, fun x hx => ?_⟩
    · rcases ih.1 with e | e
      · rcases h.1 with e2 | e2
        · left; rw [e, e2]
        · right; rw [e, e2]; simp
      · right; simp [e]
    · rcases List.mem_cons.1 hx with rfl | hx
      · omega
      · exact ih.2.2 x hx
theorem maxOf_all (zs : List Int) (h : 0 < zs.length) : Lib.maxOf zs ∈ zs ∧ ∀ x ∈ zs, x ≤ Lib.maxOf zs := by
  obtain ⟨a, l, rfl⟩ : ∃ a l, zs = a :: l := by cases zs with | nil => simp at h | cons a l => exact ⟨a, l, rfl⟩
  have := foldl_max max (fun a b => by rw [Int.max_def]; split <;> omega) (a :: l) a
  unfold Lib.maxOf
  refine ⟨?_, this.2.2⟩
  rcases this.1 with e | e
  · rw [show (a :: l).headD 0 = a from rfl, e]; simp
  · exact e
theorem minOf_all (zs : List Int) (h : 0 < zs.length) : Lib.minOf zs ∈ zs ∧ ∀ x ∈ zs, Lib.minOf zs ≤ x := by
  obtain ⟨a, l, rfl⟩ : ∃ a l, zs = a :: l := by cases zs with | nil => simp at h | cons a l => exact ⟨a, l, rfl⟩
  have := foldl_min min (fun a b => by rw [Int.min_def]; split <;> omega) (a :: l) a
  unfold Lib.minOf
  refine ⟨?_, this.2.2⟩
  rcases this.1 with e | e
  · rw [show (a :: l).headD 0 = a from rfl, e]; simp
  · exact e
theorem mem_at {zs : List Int} {x : Int} (h : x ∈ zs) : ∃ k, k < zs.length ∧ zs.getD k 0 = x := by
  obtain ⟨k, hk, e⟩ := List.getElem_of_mem h
  exact ⟨k, hk, by rw [List.getD_eq_getElem?_getD, List.getElem?_eq_getElem hk]; exact e⟩
theorem Max_any (A : Option Addr) (n c : Nat) (xs : List Int) (w : World) (h : R E1 w A n c xs) (hn : 0 < n) :
    Calls Try.prog 87 #[.slice A n c] w fun e w' => e = .returned (.int .i64 (Lib.maxOf xs)) ∧ w' = w := by
  obtain ⟨b, off, hr⟩ := h
  obtain rfl := hr.at_ hn
  have hl := hr.len
  have hc := hr.cap
  have hm := hr.max
  have := Any.slices_Max_int maxLays b off n c xs w hn (by omega) (by omega) (fun j hj => c1 hr (by omega))
  rwa [List.take_of_length_le (by omega)] at this
theorem Min_any (A : Option Addr) (n c : Nat) (xs : List Int) (w : World) (h : R E1 w A n c xs) (hn : 0 < n) :
    Calls Try.prog 86 #[.slice A n c] w fun e w' => e = .returned (.int .i64 (Lib.minOf xs)) ∧ w' = w := by
  obtain ⟨b, off, hr⟩ := h
  obtain rfl := hr.at_ hn
  have hl := hr.len
  have hc := hr.cap
  have hm := hr.max
  have := Any.slices_Min_int minLays b off n c xs w hn (by omega) (by omega) (fun j hj => c1 hr (by omega))
  rwa [List.take_of_length_le (by omega)] at this
theorem shR_iff {M : Nat} {xs : List Int} (hM : 0 < M) (hl : xs.length = M) : ShR M xs ↔ -1000 ≤ Lib.minOf xs ∧ Lib.maxOf xs ≤ 1000 := by
  have h1 := minOf_all xs (by omega)
  have h2 := maxOf_all xs (by omega)
  constructor
  · intro ⟨_, h⟩
    obtain ⟨a, ha, ea⟩ := mem_at h1.1
    obtain ⟨b, hb, eb⟩ := mem_at h2.1
    have := h a (by omega)
    have := h b (by omega)
    omega
  · intro ⟨h3, h4⟩
    refine ⟨hl, fun k hk => ?_⟩
    have hm := getD_mem (es := xs) (t := k) (by omega)
    have := h1.2 _ hm
    have := h2.2 _ hm
    omega
/-- The headers of a table that comes in. -/
theorem rr_some {w : World} {A : Option Addr} {n c : Nat} {T : Tbl} (h : RR w A n c T) (hn : 0 < n) : ∃ b off, A = some ⟨b, off, none⟩ ∧ n ≤ c ∧ c ≤ 9223372036854775807 := by
  obtain ⟨hs, ⟨b, off, hr⟩, _⟩ := h
  exact ⟨b, off, hr.at_ hn, hr.cap, hr.max⟩
theorem rr_le {w : World} {A : Option Addr} {n c : Nat} {T : Tbl} (h : RR w A n c T) : n ≤ 9223372036854775807 ∧ T.length = n := by
  obtain ⟨hs, h1, h2, _⟩ := h
  exact ⟨h1.le, h2⟩
theorem rr_at {w : World} {b off n c : Nat} {T : Tbl} (h : RR w (some ⟨b, off, none⟩) n c T) {r : Nat} (hr : r < n) :
    b < w.heap.size ∧ ∃ A' n' c', w.cell? ⟨b, off + r, none⟩ = some (.slice A' n' c') ∧ R E1 w A' n' c' (T.getD r []) := by
  obtain ⟨hs, ⟨b', off', hrr⟩, _, h3⟩ := h
  have e := hrr.at_ (by omega)
  simp only [Option.some.injEq, Addr.mk.injEq] at e
  obtain ⟨rfl, rfl, _⟩ := e
  exact ⟨hrr.lt (by omega), _, _, _, cH hrr hr, h3 r hr⟩
set_option maxRecDepth 100000 in
set_option maxHeartbeats 4000000 in
theorem isTable_any (A : Option Addr) (nt ct : Nat) (T : Tbl) (N M : Nat) (w : World) (h : RR w A nt ct T) (hM : 0 < M) (hN : 0 < N) (hM2 : M ≤ 1000) (hN2 : N ≤ 1000) :
    Calls Try.prog 70 #[.slice A nt ct, .int .i64 N, .int .i64 M] w fun e w' => e = .returned (.bool (shB N M T)) ∧ w = w' := by
  have HLT := hide (rr_le h).2
  have hle := (rr_le h).1
  by_cases hnn : nt = N
  · subst hnn
    obtain ⟨bt, ot, rfl, hct, hmt⟩ := rr_some h hN
    have H := hide h
    clear h
    go_enter Try.func70, Try.ntmps70
    go_wp2_with fail
    go_loopw [15] (fun a15 wr => ∃ t : Nat, t ≤ nt ∧ a15 = .int .i64 t ∧ Hid (ShTo M T t) ∧ w = wr) (fun a15 _ => nt - (intOf a15).toNat)
    case atStart => exact ⟨0, Nat.zero_le _, rfl, hide (fun r hr => by omega), rfl⟩
    case round =>
      obtain ⟨t, ht, rfl, HS, rfl⟩ := hrel
      by_cases hlt : t < nt
      · have htn : (t : Int) < (nt : Int) := by omega
        obtain ⟨hbt, Ar, nr, cr, hcell, hrow⟩ := rr_at H.out hlt
        have hlr := hrow.length
        have HR := hide hrow
        have hler := hrow.le
        have HNO := hide (fun (hb : ¬ ShR M (T.getD t [])) => shB_false (N := nt) (M := M) (T := T) (fun hs => hb (hs.2 t hlt)))
        have HSU := hide (fun (hb : ShR M (T.getD t [])) => sh_succ HS.out hb)
        by_cases hm : nr = M
        · have HIF := hide (shR_iff (xs := T.getD t []) hM (by omega))
          subst hm
          have HMin := hide (Min_any Ar nr cr _ w hrow hM)
          have HMax := hide (Max_any Ar nr cr _ w hrow hM)
          clear hrow hlr HS
          generalize Lib.minOf (T.getD t []) = mn at *
          generalize Lib.maxOf (T.getD t []) = mx at *
          by_cases h1 : mn < -1000
          · have HK := hide (HNO.out (by rw [HIF.out]; omega))
            go_wp2_with (go_at_call 86; refine HMin.out.mono ?_; rintro e2 w2 ⟨rfl, rfl⟩)
            go_ret
            exact ⟨ret_bool HK.out.symm, rfl⟩
          · have h1' : -1000 ≤ mn := by omega
            by_cases h2 : 1000 < mx
            · have HK := hide (HNO.out (by rw [HIF.out]; omega))
              go_wp2_with (first
                | (go_at_call 86; refine HMin.out.mono ?_; rintro e2 w2 ⟨rfl, rfl⟩)
                | (go_at_call 87; refine HMax.out.mono ?_; rintro e2 w2 ⟨rfl, rfl⟩))
              go_ret
              exact ⟨ret_bool HK.out.symm, rfl⟩
            · have h2' : mx ≤ 1000 := by omega
              have HS2 := hide (HSU.out (by rw [HIF.out]; omega))
              go_wp2_with (first
                | (go_at_call 86; refine HMin.out.mono ?_; rintro e2 w2 ⟨rfl, rfl⟩)
                | (go_at_call 87; refine HMax.out.mono ?_; rintro e2 w2 ⟨rfl, rfl⟩))
              go_roundw
              case rel => exact ⟨t + 1, by omega, by go_num, HS2, by trivial⟩
              case measure => simp [intOf]; omega
        · have HK := hide (HNO.out (fun hs => hm (by rw [← hlr]; exact hs.1)))
          have hmi : ¬ (nr : Int) = (M : Int) := by omega
          clear hm
          go_wp2_with fail
          go_ret
          exact ⟨ret_bool HK.out.symm, rfl⟩
      · obtain rfl : t = nt := by omega
        have HK := hide (shB_true.2 (show Shp t M T from ⟨HLT.out, HS.out⟩))
        go_wp2_with fail
        go_ret
        exact ⟨ret_bool HK.out.symm, rfl⟩
  · have HK := hide (shB_false (N := N) (M := M) (T := T) (fun hs => hnn (by rw [← HLT.out]; exact hs.1)))
    have hmi : ¬ (nt : Int) = (N : Int) := by omega
    clear hnn h
    go_enter Try.func70, Try.ntmps70
    go_wp2_with fail
    go_ret
    exact ⟨ret_bool HK.out.symm, rfl⟩
end Go.Proofs.Ytndfdminjegldaa
