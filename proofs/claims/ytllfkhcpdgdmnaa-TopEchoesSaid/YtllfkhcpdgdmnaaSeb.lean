/- The search at the closure that keeps what is normal. -/
import Derived.Test.YtllfkhcpdgdmnaaAll
namespace Go.Proofs.Ytllfkhcpdgdmnaa
open Go.RowKit

/-- What the search leaves. -/
def SeeAll (B ga gb n c : Nat) (Av : Nat → Prop) (b : List Int) (rows : List (List Int)) (w : World) (e : Ending) (w' : World) : Prop :=
  e = .returned (.tuple #[]) ∧ Own E1 w' B 3 (some ⟨gb, 0, none⟩) n c b ∧ AllAt w' B ga (fun x => Av x ∨ x = gb) rows ∧ (∀ x, Av x → x ≠ gb → w'.heap[x]? = w.heap[x]?) ∧ Below B w w'
/-- Behind an append to a beginning and a call with the longer one: what is kept. -/
theorem kept_all {w w3 w5 w6 : World} {B ga gb n c g5 c5 : Nat} {Av : Nat → Prop} {b t : List Int} {p : Int} {rows rows' : List (List Int)} (hb : gb < w.heap.size) (hAv : ∀ x, Av x → x < w.heap.size) (hs : w.heap.size < w3.heap.size)
    (k5 : Own E1 w5 B 3 (some ⟨gb, 0, none⟩) n c b) (r5 : w3.drew.grownBy w5 (some gb)) (e5 : g5 = gb ∧ c5 = c ∨ w3.drew.heap.size ≤ g5)
    (hA3 : AllAt w3 B ga (fun x => Av x ∨ x = gb ∨ x = w.heap.size) rows) (hT3 : Arr w3 w.heap.size t) (hK3 : ∀ x, Av x → x ≠ gb → w3.heap[x]? = w.heap[x]?) (hB3 : Below B w w3) (hBs : B ≤ gb) :
    AllAt w5 B ga (fun x => (Av x ∨ x = gb ∨ x = w.heap.size) ∨ x = g5) rows ∧
    (SeeAll B ga g5 (n + 1) c5 (fun x => Av x ∨ x = gb ∨ x = w.heap.size) (b ++ [p]) rows' w5 (.returned (.tuple #[])) w6 →
      Own E1 w6 B 3 (some ⟨gb, 0, none⟩) n c b ∧ AllAt w6 B ga (fun x => Av x ∨ x = gb ∨ x = w.heap.size) rows' ∧ Arr w6 w.heap.size t ∧ (∀ x, Av x → x ≠ gb → w6.heap[x]? = w.heap[x]?) ∧ Below B w w6 ∧ w.heap.size < w6.heap.size) := by
  have r5' := gb_undrew r5
  have e5' : g5 = gb ∨ w3.heap.size ≤ g5 := by
    rcases e5 with e | e
    · exact .inl e.1
    · exact .inr e
  have hK5 : ∀ x, x < w3.heap.size → x ≠ gb → w5.heap[x]? = w3.heap[x]? := fun x h1 h2 => r5'.block x h1 (fun e => h2 (by injection e))
  refine ⟨AllAt.held (w := w3) (hA3.avoid fun g hg h => ?_) (fun g hg h => hK5 g hg (fun e => h (.inl (.inr (.inl e))))), ?_⟩
  · rcases h with h | rfl
    · exact h
    · rcases e5' with e | e
      · exact .inr (.inl e)
      · omega
  · rintro ⟨_, o6, a6, k6, b6⟩
    have hn5 : ∀ x, (Av x ∨ x = gb ∨ x = w.heap.size) → x ≠ gb → x ≠ g5 := by
      intro x hx hne e
      subst e
      have : x < w3.heap.size := by
        rcases hx with h | h | h
        · have := hAv x h; omega
        · omega
        · omega
      rcases e5' with e | e
      · exact hne e
      · omega
    have hT6 : w6.heap[w.heap.size]? = w3.heap[w.heap.size]? := (k6 _ (.inr (.inr rfl)) (hn5 _ (.inr (.inr rfl)) (by omega))).trans (hK5 _ hs (by omega))
    refine ⟨?_, a6.avoid fun g _ h => .inl h, hT6.trans hT3, fun x hx hne => (k6 x (.inl hx) (hn5 x (.inl hx) hne)).trans ((hK5 x (by have := hAv x hx; omega) hne).trans (hK3 x hx hne)), ?_, ?_⟩
    · rcases e5 with ⟨e1, e2⟩ | e
      · rw [e1, e2] at o6
        exact own_pre o6
      · have hg5 : gb ≠ g5 := by
          have : w3.heap.size ≤ g5 := e
          omega
        exact k5.held (fun g hg => by cases hg; exact k6 gb (.inr (.inl rfl)) hg5)
    · exact (hB3.trans (below_gb r5' hBs (by have := hB3.size; omega))).trans b6
    · have h1 := r5'.size
      have h2 := b6.size
      omega
set_option maxRecDepth 100000 in
set_option maxHeartbeats 4000000 in
theorem search_all (B ga : Nat) : ∀ (k : Nat) (gb n c : Nat) (Av : Nat → Prop) (b t : List Int) (rows : List (List Int)) (w : World), Own E1 w B 3 (some ⟨gb, 0, none⟩) n c b → AllAt w B ga (fun x => Av x ∨ x = gb) rows → (∀ x, Av x → x < w.heap.size) → rows.length + (vis k b t).length ≤ 1000000000 → 1 ≤ n → n + k ≤ 10 → Beg b → Tal t → B ≤ w.heap.size →
    Calls Try.prog 72 #[.slice (some ⟨gb, 0, none⟩) n c, .int .i64 ((n + k : Nat) : Int), tv t, .func (.func 75) #[] #[.pointer (some ⟨ga, 0, none⟩)]] w (SeeAll B ga gb n c Av b (rows ++ (vis k b t).filter norB) w)
  | 0, gb, n, c, Av, b, t, rows, w, ho, hal, hAv, hlen, hn1, hn, hb, ht, hB => by
    have HAL := hide hal
    have HL := hide ho.len
    have HBB := hide (fun (k : Nat) (hk : k < n) => (show -1000 ≤ b.getD k 0 ∧ b.getD k 0 ≤ 1000 from by
      have h1 := hb.all k (by rw [HL.out]; exact hk)
      have h2 := hb.top
      omega))
    clear hal
    have HO := hide ho
    have hgb : gb < w.heap.size := by
      rcases ho.form with ⟨h, _⟩ | ⟨g, h, _, h2, _⟩
      · cases h
      · injection h with h; injection h with h; omega
    clear ho
    have hcn : ((n : Int) == ((n + 0 : Nat) : Int)) = true := by simp
    go_enter Try.func72, Try.ntmps72
    go_wp2_with (first
      | (refine Go.Great.wpList_boxTo (o := ⟨some 6, _, _, _, _, _⟩) rfl 52 (.tmp 2) rfl (some 6) rfl w.heap.size rfl (intsV t).toArray rfl ?_)
      | (go_at_call 92; refine (CloneI_any _ _ _ b _ (HO.out.alloc _).row (by omega)).mono ?_; rintro e w2 ⟨A2, c2, rfl, o2, b2⟩; have HO2 := hide o2; have B2 := hide b2; clear o2 b2)
      | (go_at_call 75; trace_state; fail))
    obtain ⟨g2, rfl, hg2, hg2', _, _⟩ := HO2.out.addr hn1
    simp at hg2
    have hs2 := B2.out.size
    simp at hs2
    have hB2 : Below w.heap.size w w2 := ((Below.refl _ w).alloc (Nat.le_refl _) _).trans (B2.out.mono (by simp))
    refine (All1_any B ga g2 n c2 (fun x => Av x ∨ x = gb) b rows w2 (HAL.out.below hB2) (HO2.out.more (by simp; omega)) ?_ ?_ hn1 hn HBB.out ?_ (by omega)).mono ?_
    · rintro (h | h)
      · have := hAv _ h; omega
      · omega
    · rintro x (h | h)
      · have := hAv _ h; omega
      · omega
    · simp [vis] at hlen
      omega
    rintro e w3 ⟨rfl, a3, k3, b3⟩
    go_wp2_with fail
    go_end0
    refine ⟨rfl, ?_, ?_, fun x hx hne => (k3 x (.inl hx)).trans (hB2.block x (hAv x hx)), (hB2.mono hB).trans b3⟩
    · refine (HO.out.below hB2 (Nat.le_refl _)).held (fun g hg => by cases hg; exact k3 gb (.inr rfl))
    · have e1 : rows ++ (vis 0 b t).filter norB = if norB b then rows ++ [b] else rows := by
        simp only [vis, List.filter_cons, List.filter_nil]
        split <;> simp
      rw [e1]
      exact a3
  | k + 1, gb, n, c, Av, b, t, rows, w, ho, hal, hAv, hlen, hn1, hn, hb, ht, hB => by
    have HAL := hide hal
    have HLE := hide hlen
    clear hal hlen
    have HO := hide ho
    obtain ⟨hgb, hnc, hcm, hBg⟩ := own_gt ho
    have hcm' : c ≤ 9223372036854775807 := hcm
    have HL := hide ho.len
    have HB := hide hb
    have HT := hide ht
    have hts := ht.len
    have a1 := own1 ho (k := n - 1) (by omega)
    have hlast : lastB b = gi b (n - 1) := by unfold lastB; rw [HL.out]
    rw [← hlast] at a1
    have b1 := hb.top
    have b2 := hb.bot
    clear ho hb hlast hcm ht
    have HW0 := hide (show visN (vis k) b t (lastB b + 1).toNat = [] from visN_start (by omega))
    have HWE := hide (show vis (k + 1) b t = visN (vis k) b t 61 from rfl)
    have HS := hide (fun (m : Nat) (h : lastB b < (m : Int)) => visN_succ (V := vis k) (b := b) (t := t) h)
    have HBS := hide (fun (p : Int) (h1 : lastB b < p) (h2 : p ≤ 60) => HB.out.snoc h1 h2)
    have HBA := hide (fun (p : Int) (h1 : lastB b < p) (j : Nat) (hj : j < n) => (show 0 ≤ b.getD j 0 ∧ b.getD j 0 < p from by
      have h2 := HB.out.all j (by rw [HL.out]; exact hj)
      omega))
    generalize lastB b = lb at *
    obtain ⟨m0, rfl⟩ : ∃ m0 : Nat, lb = (m0 : Int) := ⟨lb.toNat, by omega⟩
    have hcn : ((n : Int) == (n : Int) + ((k : Int) + 1)) = false := by
      rw [beq_eq_false_iff_ne]; omega
    have hnk : (((n + 1) + k : Nat) : Int) = (n : Int) + ((k : Int) + 1) := by omega
    have i1 : (0 : Int) ≤ (n : Int) - 1 := by omega
    have i2 : (n : Int) - 1 < (n : Int) := by omega
    have i3 : ((n : Int) - 1).toNat = n - 1 := by omega
    go_enter Try.func72, Try.ntmps72
    go_wp2_with (first
      | (refine Go.Great.wpList_boxTo (o := ⟨some 6, _, _, _, _, _⟩) rfl 52 (.tmp 2) rfl (some 6) rfl w.heap.size rfl (intsV t).toArray rfl ?_))
    clear a1 i1 i2 i3
    go_loopw [8] (fun i wr => ∃ p : Nat, m0 + 1 ≤ p ∧ p ≤ 61 ∧ i = .int .i64 p ∧ Hid (Own E1 wr B 3 (some ⟨gb, 0, none⟩) n c b) ∧ Hid (Arr wr w.heap.size t) ∧ Hid (AllAt wr B ga (fun x => Av x ∨ x = gb ∨ x = w.heap.size) (rows ++ (visN (vis k) b t p).filter norB)) ∧ Hid (∀ x, Av x → x ≠ gb → wr.heap[x]? = w.heap[x]?) ∧ Hid (Below B w wr)) (fun i _ => 61 - (intOf i).toNat)
    case atStart =>
      have h0 : visN (vis k) b t (m0 + 1) = [] := by have := HW0.out; rwa [show ((m0 : Int) + 1).toNat = m0 + 1 by omega] at this
      have hA : Below w.heap.size w (w.alloc (.cells (intsV t).toArray 52)) := (Below.refl _ w).alloc (Nat.le_refl _) _
      refine ⟨m0 + 1, by omega, by omega, by go_num, hide (HO.out.alloc _), hide (heap_alloc_new w _), hide ?_, hide (fun x hx _ => hA.block x (hAv x hx)), hide (hA.mono hB)⟩
      rw [h0, List.filter_nil, List.append_nil]
      refine AllAt.below (HAL.out.avoid fun g hg h => ?_) hA
      rcases h with h | h | h
      · exact .inl h
      · exact .inr h
      · omega
    case round =>
      obtain ⟨p, hp0, hp, rfl, HOr, HA, HG, HK, HD⟩ := hrel
      by_cases hlt : p ≤ 60
      · have i1 : (p : Int) ≤ 60 := by omega
        have hsr := HD.out.size
        have hAt := HA.out.lt
        have HVS := hide (HS.out p (by omega))
        have hgr := (own_gt HOr.out).1
        cases hwo : wo b (p : Int) t with
        | none =>
          have HVN := hide (show visN (vis k) b t (p + 1) = visN (vis k) b t p from by rw [HVS.out]; unfold visP; rw [hwo]; simp)
          have HWO := hide hwo
          clear hwo HVS
          go_wp2_with (first
            | (refine wpList_load_row (o := ⟨some 31, _, _, _, _, _⟩) rfl 52 (.tmp 6) rfl w.heap.size rfl 52 (intsV t).toArray (0, 0) _ HA.out.eq und_tally rfl (tally_size hts) ?_)
            | (go_at_call 95; refine (without_any t _ n c b p _ HOr.out.row (by omega) HT.out (HBA.out p (by omega)) i1).mono ?_; rintro e w1 ⟨rfl, d1⟩; rw [HWO.out]; have D1 := hide d1; have hs1 := d1.size; clear d1; dsimp only [woV])
            | (refine wpList_storeNew w1 (o := ⟨none, Op.store 52 _ _, _, _, _, _⟩) rfl (.tmp 9) (.tmp 35) rfl _ none61_eq none61 rfl rfl rfl ?_; intro w3 A3 d3 hs3; have D3 := hide d3; clear A3 d3))
          have hd3 : Below wr.heap.size wr w3 := D1.out.trans (D3.out.mono D1.out.size)
          go_roundw
          case rel => exact ⟨p + 1, by omega, by omega, by go_num, hide (HOr.out.below hd3 (Nat.le_refl _)), hide (HA.out.below hd3 hAt), hide (by rw [HVN.out]; exact HG.out.below hd3), hide (fun x hx hne => (hd3.block x (by have := hAv x hx; omega)).trans (HK.out x hx hne)), hide (HD.out.trans (hd3.mono (by omega)))⟩
          case measure => simp [intOf]; omega
        | some t' =>
          have HT' := hide (HT.out.wo hwo (fun x hx => by
            obtain ⟨j, hj, e⟩ := List.getElem_of_mem hx
            have h1 := HBA.out p (by omega) j (by rw [← HL.out]; exact hj)
            have h2 : b.getD j 0 = x := by rw [List.getD_eq_getElem?_getD, List.getElem?_eq_getElem hj]; exact e
            rw [h2] at h1
            omega))
          have hts' := HT'.out.len
          have HVN := hide (show visN (vis k) b t (p + 1) = visN (vis k) b t p ++ vis k (b ++ [(p : Int)]) t' from by rw [HVS.out]; unfold visP; rw [hwo])
          have HWO := hide hwo
          clear hwo HVS
          go_wp2_with (first
            | (refine wpList_load_row (o := ⟨some 31, _, _, _, _, _⟩) rfl 52 (.tmp 6) rfl w.heap.size rfl 52 (intsV t).toArray (0, 0) _ HA.out.eq und_tally rfl (tally_size hts) ?_)
            | (go_at_call 95; refine (without_any t _ n c b p _ HOr.out.row (by omega) HT.out (HBA.out p (by omega)) i1).mono ?_; rintro e w1 ⟨rfl, d1⟩; rw [HWO.out]; have D1 := hide d1; have hs1 := d1.size; clear d1; dsimp only [woV])
            | (refine wpList_storeNew w1 (o := ⟨none, Op.store 52 _ _, _, _, _, _⟩) rfl (.tmp 9) (.tmp 35) rfl _ none61_eq t' hts' rfl rfl ?_; intro w3 A3 d3 hs3; have D3 := hide d3; have HA3 := hide A3; clear A3 d3))
          have hd3 : Below wr.heap.size wr w3 := D1.out.trans (D3.out.mono D1.out.size)
          have HO3 := hide (HOr.out.below hd3 (Nat.le_refl _))
          have HT3 := hide (HA.out.below hd3 hAt)
          have HAL3 := hide (HG.out.below hd3)
          have HK3 := hide (fun x (hx : Av x) (hne : x ≠ gb) => (hd3.block x (by have := hAv x hx; omega)).trans (HK.out x hx hne))
          have HB3 := hide (HD.out.trans (hd3.mono (by omega)))
          have hw3 : w.heap.size < w3.heap.size := by have := hd3.size; omega
          have HLN := hide (show (rows ++ (visN (vis k) b t p).filter norB).length + (vis k (b ++ [(p : Int)]) t').length ≤ 1000000000 from by
            obtain ⟨r, hr⟩ := visN_more (V := vis k) (b := b) (t := t) (p + 1) (60 - p)
            have h1 := HLE.out
            rw [HWE.out, show 61 = p + 1 + (60 - p) by omega, hr, HVN.out] at h1
            have h2 := List.length_filter_le norB (visN (vis k) b t p)
            simp only [List.length_append] at h1 ⊢
            omega)
          have HFE := hide (show rows ++ (visN (vis k) b t (p + 1)).filter norB = (rows ++ (visN (vis k) b t p).filter norB) ++ (vis k (b ++ [(p : Int)]) t').filter norB from by rw [HVN.out, List.filter_append, List.append_assoc])
          have HAV := hide (fun x (h : Av x ∨ x = gb ∨ x = w.heap.size) => (show x < w3.heap.size from by
            rcases h with h | h | h
            · have := hAv x h; omega
            · omega
            · omega))
          have HA4 := fun {g5 c5 : Nat} {w5 : World} (_ : Own E1 w5 B 3 (some ⟨g5, 0, none⟩) (n + 1) c5 (b ++ [(p : Int)])) (_ : Own E1 w5 B 3 (some ⟨gb, 0, none⟩) n c b) (r : w3.drew.grownBy w5 (some gb)) => (gb_arr (gb_undrew r) HA3.out HO3.out)
          clear HOr HA HG HK HD D1 D3 hd3
          refine wp_region_any (by kernel_rfl) ?_
          change wpAny _ _ _ _ _ _ _ (World.drew _)
          refine wpAny_take (i := 0) (v := .slice (some ⟨gb, 0, none⟩) n c) rfl (by kernel_rfl) (by kernel_rfl) (by kernel_rfl) (fun _ _ _ h => h) (Or.inl ⟨by rfl, by intro w0; go_simp⟩) ?_
          refine wpAny_take (i := 1) (v := .int .i64 p) rfl (by kernel_rfl) (by kernel_rfl) (by kernel_rfl) (fun _ _ _ h => h) (Or.inl ⟨by rfl, by intro w0; go_simp⟩) ?_
          refine wpAny_take (i := 4) (v := .int .i64 ((n : Int) + ((k : Int) + 1))) rfl (by kernel_rfl) (by kernel_rfl) (by kernel_rfl) (fun _ _ _ h => h) (Or.inl ⟨by rfl, by intro w0; go_simp⟩) ?_
          refine wpAny_take (i := 6) (v := .func (.func 75) #[] #[.pointer (some ⟨ga, 0, none⟩)]) rfl (by kernel_rfl) (by kernel_rfl) (by kernel_rfl) (fun _ _ _ h => h) (Or.inl ⟨by rfl, by intro w0; go_simp⟩) ?_
          refine wpAny_ready (rs := [2, 5]) (by kernel_rfl) (by simp) (AllReady.cons rfl (fun K hK => ?_) (AllReady.cons rfl (fun K hK => ?_) AllReady.nil))
          · go_simp
            refine hK _ _ ?_
            clear hK K
            refine wpAny_ready (rs := [3, 5]) (by kernel_rfl) (by simp) (AllReady.cons rfl (fun K hK => ?_) (AllReady.cons rfl (fun K hK => ?_) AllReady.nil))
            · refine step_appB (E := E1) w3.drew (.int .i64 0) 8 rfl (.tmp 38) (.tmp 40) 22 rfl Try.underlying22 info_int rfl (by decide) (by omega) B n c gb b p _ rfl rfl rfl (HO3.out.drew) (by omega) (by simp; omega) ?_
              intro g5 c5 w5 o5 k5 r5 e5
              refine hK _ _ ?_
              clear hK K
              refine wpAny_ready (rs := [5]) (by kernel_rfl) (by simp) (AllReady.cons rfl (fun K hK => ?_) AllReady.nil)
              refine step_loadT _ rfl (.tmp 9) rfl w1.heap.size rfl t' hts' (HA4 o5 k5 r5) ?_
              refine hK _ _ ?_
              clear hK K
              refine wpAny_ready (rs := [7]) (by kernel_rfl) (by simp) (AllReady.cons rfl (fun K hK => ?_) AllReady.nil)
              go_simp
              obtain ⟨a5, K6⟩ := kept_all (w6 := (default : World)) (rows' := []) (p := (p : Int)) hgb hAv hw3 k5 r5 e5 HAL3.out HT3.out HK3.out HB3.out hBg
              have hcs := search_all B ga k g5 (n + 1) c5 (fun x => Av x ∨ x = gb ∨ x = w.heap.size) (b ++ [(p : Int)]) t' _ w5 o5 a5 (fun x hx => by have h1 := HAV.out x hx; have h2 := (gb_undrew r5).size; omega) HLN.out (by omega) (by omega) (HBS.out p (by omega) i1) HT'.out (by have h2 := (gb_undrew r5).size; omega)
              rw [hnk] at hcs
              refine hcs.mono ?_
              clear hcs K6
              intro e w6 h6
              obtain rfl := h6.1
              obtain ⟨O6, L6, T6, K6, B6, S6⟩ := (kept_all (w6 := w6) (p := (p : Int)) hgb hAv hw3 k5 r5 e5 HAL3.out HT3.out HK3.out HB3.out hBg).2 h6
              refine hK _ _ ?_
              refine wpAny_done (by kernel_rfl) ?_ _
              have HO6 := hide O6
              have HT6 := hide T6
              have HK6 := hide K6
              have HB6 := hide B6
              have HL6 := hide (show AllAt w6 B ga (fun x => Av x ∨ x = gb ∨ x = w.heap.size) (rows ++ (visN (vis k) b t (p + 1)).filter norB) from by rw [HFE.out]; exact L6)
              clear hK K h6 O6 L6 T6 K6 B6 a5 o5 k5 r5
              go_wp2_with fail
              go_roundw
              case rel => exact ⟨p + 1, by omega, by omega, by go_num, HO6, HT6, HL6, HK6, HB6⟩
              case measure => simp [intOf]; omega
            · refine step_loadT _ rfl (.tmp 9) rfl w1.heap.size rfl t' hts' (HA3.out.more _) ?_
              refine hK _ _ ?_
              clear hK K
              refine wpAny_ready (rs := [3]) (by kernel_rfl) (by simp) (AllReady.cons rfl (fun K hK => ?_) AllReady.nil)
              refine step_appB (E := E1) w3.drew (.int .i64 0) 8 rfl (.tmp 38) (.tmp 40) 22 rfl Try.underlying22 info_int rfl (by decide) (by omega) B n c gb b p _ rfl rfl rfl (HO3.out.drew) (by omega) (by simp; omega) ?_
              intro g5 c5 w5 o5 k5 r5 e5
              refine hK _ _ ?_
              clear hK K
              refine wpAny_ready (rs := [7]) (by kernel_rfl) (by simp) (AllReady.cons rfl (fun K hK => ?_) AllReady.nil)
              go_simp
              obtain ⟨a5, K6⟩ := kept_all (w6 := (default : World)) (rows' := []) (p := (p : Int)) hgb hAv hw3 k5 r5 e5 HAL3.out HT3.out HK3.out HB3.out hBg
              have hcs := search_all B ga k g5 (n + 1) c5 (fun x => Av x ∨ x = gb ∨ x = w.heap.size) (b ++ [(p : Int)]) t' _ w5 o5 a5 (fun x hx => by have h1 := HAV.out x hx; have h2 := (gb_undrew r5).size; omega) HLN.out (by omega) (by omega) (HBS.out p (by omega) i1) HT'.out (by have h2 := (gb_undrew r5).size; omega)
              rw [hnk] at hcs
              refine hcs.mono ?_
              clear hcs K6
              intro e w6 h6
              obtain rfl := h6.1
              obtain ⟨O6, L6, T6, K6, B6, S6⟩ := (kept_all (w6 := w6) (p := (p : Int)) hgb hAv hw3 k5 r5 e5 HAL3.out HT3.out HK3.out HB3.out hBg).2 h6
              refine hK _ _ ?_
              refine wpAny_done (by kernel_rfl) ?_ _
              have HO6 := hide O6
              have HT6 := hide T6
              have HK6 := hide K6
              have HB6 := hide B6
              have HL6 := hide (show AllAt w6 B ga (fun x => Av x ∨ x = gb ∨ x = w.heap.size) (rows ++ (visN (vis k) b t (p + 1)).filter norB) from by rw [HFE.out]; exact L6)
              clear hK K h6 O6 L6 T6 K6 B6 a5 o5 k5 r5
              go_wp2_with fail
              go_roundw
              case rel => exact ⟨p + 1, by omega, by omega, by go_num, HO6, HT6, HL6, HK6, HB6⟩
              case measure => simp [intOf]; omega
          · refine step_loadT _ rfl (.tmp 9) rfl w1.heap.size rfl t' hts' HA3.out ?_
            refine hK _ _ ?_
            clear hK K
            refine wpAny_ready (rs := [2]) (by kernel_rfl) (by simp) (AllReady.cons rfl (fun K hK => ?_) AllReady.nil)
            go_simp
            refine hK _ _ ?_
            clear hK K
            refine wpAny_ready (rs := [3]) (by kernel_rfl) (by simp) (AllReady.cons rfl (fun K hK => ?_) AllReady.nil)
            refine step_appB (E := E1) w3.drew (.int .i64 0) 8 rfl (.tmp 38) (.tmp 40) 22 rfl Try.underlying22 info_int rfl (by decide) (by omega) B n c gb b p _ rfl rfl rfl (HO3.out.drew) (by omega) (by simp; omega) ?_
            intro g5 c5 w5 o5 k5 r5 e5
            refine hK _ _ ?_
            clear hK K
            refine wpAny_ready (rs := [7]) (by kernel_rfl) (by simp) (AllReady.cons rfl (fun K hK => ?_) AllReady.nil)
            go_simp
            obtain ⟨a5, K6⟩ := kept_all (w6 := (default : World)) (rows' := []) (p := (p : Int)) hgb hAv hw3 k5 r5 e5 HAL3.out HT3.out HK3.out HB3.out hBg
            have hcs := search_all B ga k g5 (n + 1) c5 (fun x => Av x ∨ x = gb ∨ x = w.heap.size) (b ++ [(p : Int)]) t' _ w5 o5 a5 (fun x hx => by have h1 := HAV.out x hx; have h2 := (gb_undrew r5).size; omega) HLN.out (by omega) (by omega) (HBS.out p (by omega) i1) HT'.out (by have h2 := (gb_undrew r5).size; omega)
            rw [hnk] at hcs
            refine hcs.mono ?_
            clear hcs K6
            intro e w6 h6
            obtain rfl := h6.1
            obtain ⟨O6, L6, T6, K6, B6, S6⟩ := (kept_all (w6 := w6) (p := (p : Int)) hgb hAv hw3 k5 r5 e5 HAL3.out HT3.out HK3.out HB3.out hBg).2 h6
            refine hK _ _ ?_
            refine wpAny_done (by kernel_rfl) ?_ _
            have HO6 := hide O6
            have HT6 := hide T6
            have HK6 := hide K6
            have HB6 := hide B6
            have HL6 := hide (show AllAt w6 B ga (fun x => Av x ∨ x = gb ∨ x = w.heap.size) (rows ++ (visN (vis k) b t (p + 1)).filter norB) from by rw [HFE.out]; exact L6)
            clear hK K h6 O6 L6 T6 K6 B6 a5 o5 k5 r5
            go_wp2_with fail
            go_roundw
            case rel => exact ⟨p + 1, by omega, by omega, by go_num, HO6, HT6, HL6, HK6, HB6⟩
            case measure => simp [intOf]; omega
      · obtain rfl : p = 61 := by omega
        go_wp2_with fail
        go_end0
        refine ⟨rfl, HOr.out, ?_, HK.out, HD.out⟩
        rw [HWE.out]
        exact HG.out.avoid fun g _ h => by
          rcases h with h | h
          · exact .inl h
          · exact .inr (.inl h)
end Go.Proofs.Ytllfkhcpdgdmnaa
