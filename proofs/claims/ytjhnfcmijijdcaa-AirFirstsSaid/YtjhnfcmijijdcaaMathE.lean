/- Plain mathematics of plans: the plan that the table tells: it is right, tidy, and costs the least. No program. -/
import Derived.Test.YtjhnfcmijijdcaaMathD
namespace Go.Proofs.Ytjhnfcmijijdcaa

/-- What the blocks of the first e hours pump in the hour i. -/
def Tk.bp (t : Tk) (e : Nat) (i : Nat) : Int := if _h : 0 < e ∧ t.q e < e then (if i = t.q e then t.units (t.q e) e else 0) + Tk.bp t (t.q e) i else 0
termination_by e
theorem Tk.bp_zero (t : Tk) (i : Nat) : t.bp 0 i = 0 := by rw [Tk.bp, dif_neg (by omega)]
theorem Tk.bp_eq (t : Tk) {e : Nat} (h : 0 < e) (i : Nat) : t.bp e i = (if i = t.q e then t.units (t.q e) e else 0) + t.bp (t.q e) i := by
  rw [Tk.bp, dif_pos ⟨h, (t.f_eq h).2.1⟩]
theorem sm_head {f : Nat → Int} {s n : Nat} (h : s < n) : sm f s n = f s + sm f (s + 1) n := by
  rw [sm_split (by omega : s ≤ s + 1) (by omega : s + 1 ≤ n), sm_succ (Nat.le_refl _), sm_self]
  omega
theorem sm_none {f : Nat → Int} {s n : Nat} (h : ∀ i, s ≤ i → i < n → f i = 0) : sm f s n = 0 := by
  rw [sm_congr (g := fun _ => 0) h, sm_zero]
/-- What is kept in a block: each unit from its start to its hour. -/
theorem block_kept (d : Nat → Int) (s : Nat) : ∀ {e : Nat}, s ≤ e → sm (fun i => sm d 0 e - sm d 0 (i + 1)) s e = sm (fun u => d u * ((u : Int) - (s : Int))) s e := by
  intro e
  induction e with
  | zero => intro h; obtain rfl : s = 0 := by omega
            rfl
  | succ e ih =>
    intro h
    by_cases hs : s ≤ e
    · rw [sm_succ hs, sm_succ hs, ← ih hs]
      have e1 : sm (fun i => sm d 0 (e + 1) - sm d 0 (i + 1)) s e = sm (fun i => sm d 0 e - sm d 0 (i + 1)) s e + d e * ((e : Int) - (s : Int)) := by
        have hc : ∀ m, s ≤ m → sm (fun _ => d e) s m = d e * ((m : Int) - (s : Int)) := by
          intro m
          induction m with
          | zero => intro hm; obtain rfl : s = 0 := by omega
                    simp [sm]
          | succ m ihm =>
            intro hm
            by_cases h2 : s ≤ m
            · rw [sm_succ h2, ihm h2, show ((m + 1 : Nat) : Int) - (s : Int) = ((m : Int) - (s : Int)) + 1 by omega, Int.mul_add]
              omega
            · obtain rfl : s = m + 1 := by omega
              rw [sm_self]
              simp
        rw [← hc e hs, ← sm_add]
        exact sm_congr fun i _ _ => by rw [sm_succ (f := d) (s := 0) (n := e) (Nat.zero_le _)]; omega
      rw [e1]
      omega
    · obtain rfl : s = e + 1 := by omega
      rw [sm_self, sm_self]

/-- What is true of the plan of the first e hours. -/
structure Tk.Good (t : Tk) (e : Nat) : Prop where
  past : ∀ i, e ≤ i → t.bp e i = 0
  nn : ∀ i, 0 ≤ t.bp e i
  all : sm (t.bp e) 0 e = sm t.d 0 e
  enough : ∀ i, i ≤ e → sm t.d 0 i ≤ sm (t.bp e) 0 i
  cost : t.cost (t.bp e) e = t.f e
  tidy : ∀ i, i < e → ¬ (0 < t.bp e i ∧ 0 < t.stk (t.bp e) i)

theorem Tk.good_zero (t : Tk) : t.Good 0 := by
  refine ⟨fun i _ => t.bp_zero i, fun i => ?_, rfl, fun i hi => ?_, ?_, fun i hi => by omega⟩
  · rw [t.bp_zero]; omega
  · obtain rfl : i = 0 := by omega
    exact Int.le_refl _
  · rw [Tk.f_zero]; rfl
section
variable {t : Tk} {n : Nat}
theorem Tk.good_next (ok : t.Ok n) {e : Nat} (h0 : 0 < e) (he : e ≤ n) (g : t.Good (t.q e)) : t.Good e := by
  obtain ⟨hf, hs, _⟩ := t.f_eq h0
  have hb := fun i => t.bp_eq h0 i
  generalize hq : t.q e = s at *
  have u0 := ok.units0 s (m := e) he
  generalize hU : t.units s e = U at *
  have lo : ∀ i, i < s → t.bp e i = t.bp s i := fun i hi => by rw [hb, if_neg (by omega)]; omega
  have at_ : t.bp e s = U := by rw [hb, if_pos rfl, g.past s (Nat.le_refl _)]; omega
  have hi0 : ∀ i, s < i → t.bp e i = 0 := fun i hi => by rw [hb, if_neg (by omega), g.past i (by omega)]; rfl
  have cum_lo : ∀ i, i ≤ s → sm (t.bp e) 0 i = sm (t.bp s) 0 i := fun i hi => sm_congr fun j _ hj => lo j (by omega)
  have cum_s : sm (t.bp e) 0 s = sm t.d 0 s := by rw [cum_lo s (Nat.le_refl _), g.all]
  have De : sm t.d 0 e = sm t.d 0 s + U := by rw [sm_split (Nat.zero_le _) (Nat.le_of_lt hs), ← hU]; rfl
  have cum_hi : ∀ i, s < i → i ≤ e → sm (t.bp e) 0 i = sm t.d 0 e := fun i h1 h2 => by
    rw [sm_split (Nat.zero_le _) (Nat.le_of_lt h1), cum_s, sm_head h1, at_, sm_none fun j hj _ => hi0 j (by omega), De]
    omega
  refine ⟨fun i hi => hi0 i (by omega), fun i => ?_, cum_hi e hs (Nat.le_refl _), fun i hi => ?_, ?_, fun i hi => ?_⟩
  · rw [hb]
    have := g.nn i
    split <;> omega
  · by_cases h : i ≤ s
    · rw [cum_lo i h]; exact g.enough i h
    · rw [cum_hi i (by omega) hi]
      exact cum_mono ok.d0 hi he
  · have stk_lo : ∀ i, i ≤ s → t.stk (t.bp e) i = t.stk (t.bp s) i := fun i hi => by rw [Tk.stk_eq, Tk.stk_eq, cum_lo i hi]
    have b1 : t.begs (t.bp e) e = t.begs (t.bp s) s + (if U = 0 then 0 else t.K) := by
      unfold Tk.begs
      have e2 : sm (fun i => if 0 < t.bp e i then t.K else 0) (s + 1) e = 0 := sm_none fun j hj _ => by rw [hi0 j (by omega), if_neg (by omega)]
      rw [sm_split (Nat.zero_le _) (Nat.le_of_lt hs), sm_head hs, at_, e2]
      have e1 : sm (fun i => if 0 < t.bp e i then t.K else 0) 0 s = sm (fun i => if 0 < t.bp s i then t.K else 0) 0 s := sm_congr fun i _ hi => by rw [lo i hi]
      rw [e1]
      by_cases hU0 : U = 0
      · rw [if_neg (by omega), if_pos hU0]; omega
      · rw [if_pos (by omega), if_neg hU0]; omega
    have r1 : t.runs (t.bp e) e = t.runs (t.bp s) s + t.save s e := by
      unfold Tk.runs
      rw [sm_split (Nat.zero_le _) (Nat.le_of_lt hs)]
      have e1 : sm (fun i => t.c i * t.bp e i + t.h * t.stk (t.bp e) (i + 1)) 0 s = sm (fun i => t.c i * t.bp s i + t.h * t.stk (t.bp s) (i + 1)) 0 s :=
        sm_congr fun i _ hi => by rw [lo i hi, stk_lo (i + 1) (by omega)]
      have e2 : sm (fun i => t.c i * t.bp e i + t.h * t.stk (t.bp e) (i + 1)) s e = t.save s e := by
        rw [sm_add, sm_mul]
        have a1 : sm (fun i => t.c i * t.bp e i) s e = t.c s * U := by
          rw [sm_head hs, at_, sm_none fun j hj _ => by rw [hi0 j (by omega), Int.mul_zero]]
          omega
        have a2 : sm (fun i => t.stk (t.bp e) (i + 1)) s e = sm (fun u => t.d u * ((u : Int) - (s : Int))) s e := by
          rw [← block_kept t.d s (Nat.le_of_lt hs)]
          exact sm_congr fun i h1 h2 => by rw [Tk.stk_eq, cum_hi (i + 1) (by omega) (by omega)]
        rw [a1, a2, ← hU]
        unfold Tk.save Tk.units
        rw [← sm_mul, ← sm_mul, ← sm_add]
        exact sm_congr fun u _ _ => by
          unfold Tk.way
          rw [Int.mul_add, Int.mul_comm (t.c s), ← Int.mul_assoc, ← Int.mul_assoc, Int.mul_comm t.h (t.d u)]
      rw [e1, e2]
    have gc := g.cost
    unfold Tk.cost at gc ⊢
    rw [b1, r1, hf]
    unfold Tk.tog
    rw [hU]
    by_cases hU0 : U = 0
    · rw [if_pos hU0, if_pos hU0, ok.save_zero he (by rw [hU]; exact hU0)]
      omega
    · rw [if_neg hU0, if_neg hU0]
      omega
  · by_cases h : i < s
    · rw [lo i h, Tk.stk_eq, cum_lo i (by omega), ← Tk.stk_eq]
      exact g.tidy i h
    · by_cases h2 : i = s
      · subst h2
        rw [Tk.stk_eq, cum_s]
        omega
      · rw [hi0 i (by omega)]
        omega
theorem Tk.Ok.good (ok : t.Ok n) : ∀ {e : Nat}, e ≤ n → t.Good e := by
  intro e
  induction e using Nat.strongRecOn with
  | ind e ih =>
    intro he
    by_cases h : e = 0
    · subst h; exact t.good_zero
    · have hs := (t.f_eq (n := e) (by omega)).2.1
      exact Tk.good_next ok (by omega) he (ih _ hs (by omega))
theorem Tk.Ok.bp_in (ok : t.Ok n) (hn : n ≤ 12) {e : Nat} (he : e ≤ n) (i : Nat) : 0 ≤ t.bp e i ∧ t.bp e i ≤ 600 := by
  have g := ok.good he
  refine ⟨g.nn i, ?_⟩
  by_cases h : i < e
  · have a := sm_pos (f := t.bp e) (s := 0) (n := e) (fun j _ _ => g.nn j) (Nat.zero_le _) h
    have b := ok.units1 0 he hn
    unfold Tk.units at b
    rw [g.all] at a
    omega
  · rw [g.past i (by omega)]; omega
/-- The plan is right. -/
theorem Tk.Ok.bp_right (ok : t.Ok n) (hn : n ≤ 12) : t.Right (t.bp n) n := by
  have g := ok.good (Nat.le_refl n)
  refine ⟨fun i _ => ok.bp_in hn (Nat.le_refl _) i, fun i hi => ?_, ?_⟩
  · rw [Tk.stk_eq]
    have := g.enough (i + 1) (by omega)
    omega
  · rw [Tk.stk_eq, g.all]
    omega
end

/-- The plan while it is filled: all that is behind e, and, of the block that ends at e, u units in the hour s. -/
def Tk.bpTo (t : Tk) (n e s : Nat) (u : Int) : List Int := (List.range n).map fun i => t.bp n i - t.bp e i + (if i = s then u else 0)
theorem Tk.bpTo_get (t : Tk) {n e s : Nat} {u : Int} {i : Nat} (h : i < n) : (t.bpTo n e s u).getD i 0 = t.bp n i - t.bp e i + (if i = s then u else 0) := by
  simp [Tk.bpTo, List.getD_eq_getElem?_getD, h]
theorem Tk.bpTo_len (t : Tk) (n e s : Nat) (u : Int) : (t.bpTo n e s u).length = n := by simp [Tk.bpTo]
theorem Tk.bpTo_start (t : Tk) (n s : Nat) : t.bpTo n n s 0 = List.replicate n 0 := by
  refine List.ext_getElem (by simp [Tk.bpTo]) fun i h1 h2 => ?_
  simp [Tk.bpTo]
theorem Tk.bpTo_more (t : Tk) {n e s : Nat} {u d x : Int} (hs : s < n) (hx : (t.bpTo n e s u).getD s 0 + d = x) : (t.bpTo n e s u).set s x = t.bpTo n e s (u + d) := by
  refine List.ext_getElem (by simp [Tk.bpTo]) fun i h1 h2 => ?_
  rw [Tk.bpTo_get _ hs, if_pos rfl] at hx
  simp [Tk.bpTo] at h1
  rw [List.getElem_set]
  by_cases e : s = i
  · subst e
    simp [Tk.bpTo]
    omega
  · rw [if_neg e]
    simp [Tk.bpTo, show ¬ i = s by omega]
theorem Tk.bpTo_next (t : Tk) {n e : Nat} (h : 0 < e) (s' : Nat) : t.bpTo n e (t.q e) (t.units (t.q e) e) = t.bpTo n (t.q e) s' 0 := by
  unfold Tk.bpTo
  exact List.map_congr_left fun i _ => by
    rw [t.bp_eq h i]
    have : (if i = s' then (0 : Int) else 0) = 0 := by split <;> rfl
    rw [this]
    split <;> omega
theorem Tk.bpTo_any (t : Tk) (n e s s' : Nat) : t.bpTo n e s 0 = t.bpTo n e s' 0 := by
  unfold Tk.bpTo
  exact List.map_congr_left fun i _ => by
    have a : (if i = s then (0 : Int) else 0) = 0 := by split <;> rfl
    have b : (if i = s' then (0 : Int) else 0) = 0 := by split <;> rfl
    rw [a, b]
theorem Tk.bpTo_end (t : Tk) (n s : Nat) : t.bpTo n 0 s 0 = (List.range n).map (t.bp n) := by
  unfold Tk.bpTo
  exact List.map_congr_left fun i _ => by
    have a : (if i = s then (0 : Int) else 0) = 0 := by split <;> rfl
    rw [a, t.bp_zero]
    omega

end Go.Proofs.Ytjhnfcmijijdcaa
