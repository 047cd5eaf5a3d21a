/- Walk of the document's own Copy. -/
import Derived.Test.YtjhnfcmijijdcaaWalkDe
import Derived.Deep.RegionLawGrows
namespace Go.Proofs.Ytjhnfcmijijdcaa
open Go.RowKit

/-- append([]int{}, xs...) as one step of a region. -/
theorem step_app {ops : Array Oper} {o : Oper} {a : Act} {w : World} {K : Act → World → Prop} {Q : Exit → Act → World → Prop} {E : Prop}
    (hg : o.guard = none) (s x : Operand) (hop : o.op = Op.call { callee := Callee.builtin Builtin.append, args := #[s, x], argTypes := #[22, 22] })
    (b : Addr) (A : Option Addr) (m c : Nat) (xs : List Int) (hs : a.eval s = .slice (some b) 0 0) (hx : a.eval x = .slice A m c) (hrow : Row w A m c xs) (hm1 : 1 ≤ m) (hm : m ≤ 1000)
    (hK : ∀ A' c' w', Own w' w.heap.size A' m c' xs → Below w.heap.size w w' → K (a.put o.dst (.slice A' m c')) w') :
    if Region.wanted o (yielded ops a.tmps) = true then Oper.wp Try.prog o a w K Q else E := by
  obtain ⟨i0, hi, hz0, hz1, hz2⟩ := info_parts info_int
  obtain ⟨bb, off, r⟩ := hrow
  obtain rfl := r.at_ (by omega)
  have hl := r.len
  refine step_append_grows (P := Try.prog) hg s x 22 hop 3 i0 (.int .i64 0) 1 8 Try.underlying22 hi hz0 hz1 hz2 rfl (by decide) (some b) 0 0 [] hs (fun h => by cases h) rfl (fun _ _ j u hu => by simp at hu)
    ⟨bb, off, none⟩ m c (ints xs) hx (by rw [ints_length]; omega) ?_ (ints_one xs) (by omega) (by unfold maxLen; omega) (by omega) ?_
  · intro j u hu
    have hj : j < xs.length := by
      have := (Array.getElem?_eq_some_iff (xs := (ints xs).toArray) (i := j) (b := u)).1 (by simpa using hu)
      have := this.1
      simpa [ints_length] using this
    rw [ints_get hj] at hu
    have := r.cell j (by omega)
    rw [hu] at this
    unfold Addr.add
    split
    · rename_i h0; subst h0; exact this
    · exact this
  · intro v' w' hown hgrow
    rw [Nat.zero_add, List.nil_append] at hown
    have hv : ∃ A' c', v' = .slice A' m c' := by
      rcases hown.2 with ⟨_, hn0⟩ | ⟨g, cap, cur, hv, _⟩
      · omega
      · exact ⟨_, _, hv⟩
    obtain ⟨A', c', rfl⟩ := hv
    exact hK A' c' w' hown ((Below.refl _ w).grown hgrow (Nat.le_refl _) fun k hk => by cases hk)

theorem own_step {w W w8 : World} {A : Option Addr} {m c g : Nat} {xs : List Int} {t : TypeId} {cs : Array Value} (o : Own w8 W.heap.size A m c xs) (b : Below W.heap.size W w8) (R : Bk W g t cs) (h : Below w.heap.size w W) :
    Own w8 (g + 1) A m c xs ∧ Bk w8 g t cs ∧ Below w.heap.size w w8 := ⟨o.more R.in_, R.keep b R.in_, h.trans (b.mono h.size)⟩
set_option maxHeartbeats 4000000 in
theorem rCopy_any (K h : Int) (A : Option Addr) (n c : Nat) (cs : List Int) (A' : Option Addr) (n' c' : Nat) (ds : List Int) (w : World)
    (hT : Tin w A n c cs A' n' c' ds) (hn1 : 1 ≤ n) (hn : n ≤ 1000) (hn1' : 1 ≤ n') (hn' : n' ≤ 1000) :
    Calls Try.prog 43 #[.agg #[.int .i64 K, .int .i64 h, .slice A n c, .slice A' n' c']] w (CopyPost K h cs ds w) := by
  have HT := hide hT
  have B0 := hide ((Below.refl w.heap.size w).alloc (Nat.le_refl _) (.cells #[.int .i64 K, .int .i64 h, .slice A n c, .slice A' n' c'] 24))
  have K0 := hide (Bk.born w 24 #[.int .i64 K, .int .i64 h, .slice A n c, .slice A' n' c'])
  have R0 := hide (Bk.bornAt (w := w.alloc (.cells #[.int .i64 K, .int .i64 h, .slice A n c, .slice A' n' c'] 24)) (g := w.heap.size + 1) (t := 24) (cs := #[.int .i64 0, .int .i64 0, .slice none 0 0, .slice none 0 0]) (by simp))
  replace K0 := hide (K0.out.more (.cells #[.int .i64 0, .int .i64 0, .slice none 0 0, .slice none 0 0] 24))
  replace B0 := hide (B0.out.alloc (by simp) (.cells #[.int .i64 0, .int .i64 0, .slice none 0 0, .slice none 0 0] 24))
  clear hT
  go_enter Try.func43, Try.ntmps43
  go_wp2_with fail
  obtain ⟨k0, k1, k2, k3, _⟩ := K0.out.four
  have B1 := hide (below_drewN B0.out 1)
  have K1 := hide (K0.out.draws 1)
  have R1 := hide (R0.out.draws 1)
  go_region_held3 (fun w' => w'.cell? ⟨w.heap.size, 0, none⟩ = some (.int .i64 K) ∧ w'.cell? ⟨w.heap.size, 1, none⟩ = some (.int .i64 h) ∧ w'.cell? ⟨w.heap.size, 2, none⟩ = some (.slice A n c) ∧ w'.cell? ⟨w.heap.size, 3, none⟩ = some (.slice A' n' c'))
    (first
      | go_keep
      | (go_split_ands
         refine ⟨?_, ?_, ?_, ?_⟩ <;> (rw [b8.cell (by simp; omega)]; first | assumption | (simp; assumption)))
      | (go_split_ands
         refine ⟨?_, ?_, ?_, ?_⟩ <;> (rw [b9.cell (by have := B8.out.size; simp; omega)]; first | assumption | (simp; assumption))))
    (first
      | (refine step_app rfl (.tmp 7) (.tmp 9) rfl _ A n c cs (by simp [Act.eval, Act.put]; rfl) (by simp [Act.eval, Act.put]) (HT.out.1.below (by first | exact (B0.out.alloc B0.out.size _).drew | exact ((B0.out.alloc B0.out.size _).alloc (B0.out.alloc B0.out.size _).size _).drew | exact B8.out | exact B8.out.alloc B8.out.size _ | exact B9.out | exact B9.out.alloc B9.out.size _) (Nat.le_refl _)) hn1 hn ?_; intro A8 c8 w8 o8 b8; obtain ⟨o8', r8', z8'⟩ := own_step o8 b8 (by first | exact (R0.out.more _).draw | exact ((R0.out.more _).more _).draw | exact R8.out | exact R8.out.more _ | exact R9.out | exact R9.out.more _) (by first | exact (B0.out.alloc B0.out.size _).drew | exact ((B0.out.alloc B0.out.size _).alloc (B0.out.alloc B0.out.size _).size _).drew | exact B8.out | exact B8.out.alloc B8.out.size _ | exact B9.out | exact B9.out.alloc B9.out.size _); (first | have O9 := hide (Own.below (w' := w8) (by first | exact O9.out | exact O9.out.alloc _) b8 (Nat.le_refl _)) | skip); have O8 := hide o8'; have R8 := hide r8'; have B8 := hide z8'; obtain ⟨r0, r1, r2, r3, _⟩ := R8.out.four; have f0 := R8.out.fr 0; have f1 := R8.out.fr 1; have f2 := R8.out.fr 2; have f3 := R8.out.fr 3; clear o8 o8' r8' z8')
      | (refine step_app rfl (.tmp 11) (.tmp 13) rfl _ A' n' c' ds (by simp [Act.eval, Act.put]; rfl) (by simp [Act.eval, Act.put]) (HT.out.2.below (by first | exact (B0.out.alloc B0.out.size _).drew | exact ((B0.out.alloc B0.out.size _).alloc (B0.out.alloc B0.out.size _).size _).drew | exact B8.out | exact B8.out.alloc B8.out.size _ | exact B9.out | exact B9.out.alloc B9.out.size _) (Nat.le_refl _)) hn1' hn' ?_; intro A9 c9 w9 o9 b9; obtain ⟨o9', r9', z9'⟩ := own_step o9 b9 (by first | exact (R0.out.more _).draw | exact ((R0.out.more _).more _).draw | exact R8.out | exact R8.out.more _ | exact R9.out | exact R9.out.more _) (by first | exact (B0.out.alloc B0.out.size _).drew | exact ((B0.out.alloc B0.out.size _).alloc (B0.out.alloc B0.out.size _).size _).drew | exact B8.out | exact B8.out.alloc B8.out.size _ | exact B9.out | exact B9.out.alloc B9.out.size _); (first | have DJ := hide (own_apart O8.out o9 (by simp)) | skip); (first | have O8 := hide (Own.below (w' := w9) (by first | exact O8.out | exact O8.out.alloc _) b9 (Nat.le_refl _)) | skip); have O9 := hide o9'; have R9 := hide r9'; have B9 := hide z9'; obtain ⟨r0, r1, r2, r3, _⟩ := R9.out.four; have f0 := R9.out.fr 0; have f1 := R9.out.fr 1; have f2 := R9.out.fr 2; have f3 := R9.out.fr 3; clear o9 o9' r9' z9'))
  all_goals
    obtain ⟨z0, z1, z2, z3, _⟩ := (R9.out.set4 (.int .i64 K) (.int .i64 h) (.slice A8 n c8) (.slice A9 n' c9)).four
    go_wp2_with fail
    refine bodyPost_ret (v := .agg #[.int .i64 K, .int .i64 h, .slice A8 n c8, .slice A9 n' c9]) ?_ rfl ⟨_, _, _, _, _, _, rfl, (O8.out.set4 (by omega) _ _ _ _).more (by omega), (O9.out.set4 (by omega) _ _ _ _).more (by omega), below_set4 B9.out (by omega) _ _ _ _, DJ.out⟩
    simp [results, Try.results43, go_sem, z0, z1, z2, z3]

set_option maxHeartbeats 4000000 in
theorem rtold_any (K h : Int) (A : Option Addr) (n c : Nat) (cs : List Int) (A' : Option Addr) (n' c' : Nat) (ds : List Int) (w : World) (hT : Tin w A n c cs A' n' c' ds) :
    Calls Try.prog 77 #[.agg #[.int .i64 K, .int .i64 h, .slice A n c, .slice A' n' c']] w fun e w' => e = .returned (toldV K h A n c A' n' c' (errT K h cs ds)) ∧ Below w.heap.size w w' := by
  have HT := hide hT
  have B0 := hide ((Below.refl w.heap.size w).alloc (Nat.le_refl _) (.cells #[.int .i64 K, .int .i64 h, .slice A n c, .slice A' n' c'] 24))
  have K0 := hide (Bk.born w 24 #[.int .i64 K, .int .i64 h, .slice A n c, .slice A' n' c'])
  have R0 := hide (Bk.bornAt (w := w.alloc (.cells #[.int .i64 K, .int .i64 h, .slice A n c, .slice A' n' c'] 24)) (g := w.heap.size + 1) (t := 24) (cs := #[.int .i64 0, .int .i64 0, .slice none 0 0, .slice none 0 0]) (by simp))
  replace K0 := hide (K0.out.more (.cells #[.int .i64 0, .int .i64 0, .slice none 0 0, .slice none 0 0] 24))
  replace B0 := hide (B0.out.alloc (by simp) (.cells #[.int .i64 0, .int .i64 0, .slice none 0 0, .slice none 0 0] 24))
  clear hT
  go_enter Try.func77, Try.ntmps77
  go_wp2_with fail
  refine (rValidate_any K h _ n c cs _ n' c' ds _ (HT.out.below B0.out (Nat.le_refl _))).mono ?_
  rintro e w1 ⟨rfl, b1⟩
  have B1 := hide (B0.out.trans (b1.mono B0.out.size))
  have K1 := hide (K0.out.keep b1 K0.out.in_)
  have R1 := hide (R0.out.keep b1 R0.out.in_)
  clear b1
  obtain ⟨k0, k1, k2, k3, _⟩ := K1.out.four
  obtain ⟨r0, r1, r2, r3, _⟩ := R1.out.four
  have f0 := R1.out.fr 0
  have f1 := R1.out.fr 1
  have f2 := R1.out.fr 2
  have f3 := R1.out.fr 3
  by_cases he : errT K h cs ds = 0
  · have HE := hide (toldV_ok (K := K) (h := h) (A := A) (n := n) (c := c) (A' := A') (n' := n') (c' := c') he)
    rw [he]
    clear he
    obtain ⟨z0, z1, z2, z3, _⟩ := (R1.out.set4 (.int .i64 K) (.int .i64 h) (.slice A n c) (.slice A' n' c')).four
    go_wp2_with fail
    refine bodyPost_ret (v := .tuple #[.agg #[.int .i64 K, .int .i64 h, .slice A n c, .slice A' n' c'], .int .i64 0]) ?_ rfl ⟨by rw [HE.out], below_set4 B1.out (by omega) _ _ _ _⟩
    simp [results, Try.results77, go_sem, z0, z1, z2, z3]
  · have HEN := hide he
    have HE := hide (toldV_no (K := K) (h := h) (A := A) (n := n) (c := c) (A' := A') (n' := n') (c' := c') he)
    have he' : (errT K h cs ds != 0) = true := by simpa using he
    obtain ⟨z0, z1, z2, z3, _⟩ := (R1.out.set4 (.int .i64 0) (.int .i64 0) (.slice none 0 0) (.slice none 0 0)).four
    go_wp2_with fail
    refine bodyPost_ret (v := .tuple #[.agg #[.int .i64 0, .int .i64 0, .slice none 0 0, .slice none 0 0], .int .i64 1]) ?_ rfl ⟨by rw [HE.out, errT_ne HEN.out], below_set4 B1.out (by omega) _ _ _ _⟩
    simp [results, Try.results77, go_sem, z0, z1, z2, z3]

end Go.Proofs.Ytjhnfcmijijdcaa
