/- Plain mathematics of tasks whose start and needs are multiplied. No program. -/
import Derived.Test.YtjhnfcmijijdcaaWalkLn
namespace Go.Proofs.Ytjhnfcmijijdcaa

/-- The needs, the first k of them multiplied. -/
def mulTo (ds : List Int) (s : Int) (k : Nat) : List Int := (List.range ds.length).map fun i => if i < k then ds.getD i 0 * s else ds.getD i 0
theorem mulTo_len (ds : List Int) (s : Int) (k : Nat) : (mulTo ds s k).length = ds.length := by simp [mulTo]
theorem mulTo_get {ds : List Int} {s : Int} {k i : Nat} (h : i < ds.length) : (mulTo ds s k).getD i 0 = if i < k then ds.getD i 0 * s else ds.getD i 0 := by
  simp [mulTo, List.getD_eq_getElem?_getD, h]
theorem mulTo_zero (ds : List Int) (s : Int) : mulTo ds s 0 = ds := by
  apply list_ext_getD (mulTo_len _ _ _)
  intro j hj
  rw [mulTo_len] at hj
  rw [mulTo_get hj, if_neg (by omega)]
theorem mulTo_next {ds : List Int} {s : Int} {k : Nat} {x : Int} (h : k < ds.length) (hx : ds.getD k 0 * s = x) : (mulTo ds s k).set k x = mulTo ds s (k + 1) := by
  apply list_ext_getD (by simp [mulTo])
  intro j hj
  have hj' : j < ds.length := by simpa [mulTo] using hj
  rw [mulTo_get hj']
  by_cases e : k = j
  · subst e
    rw [getD_set_eq (by simp [mulTo]; exact h), if_pos (by omega)]
    exact hx.symm
  · rw [getD_set_ne e, mulTo_get hj']
    by_cases g : j < k
    · rw [if_pos g, if_pos (by omega)]
    · rw [if_neg g, if_neg (by omega)]
/-- All needs multiplied. -/
def mulL (ds : List Int) (s : Int) : List Int := mulTo ds s ds.length
theorem mulL_len (ds : List Int) (s : Int) : (mulL ds s).length = ds.length := mulTo_len _ _ _
theorem mulL_get {ds : List Int} {s : Int} {i : Nat} (h : i < ds.length) : (mulL ds s).getD i 0 = ds.getD i 0 * s := by unfold mulL; rw [mulTo_get h, if_pos h]
/-- Nothing is needed, and a start costs nothing. -/
def Idle (K : Int) (ds : List Int) : Prop := K = 0 ∧ ∀ i, i < ds.length → ds.getD i 0 = 0
theorem idle_mul {K : Int} {ds : List Int} (i : Idle K ds) (s : Int) : K * s = K ∧ mulL ds s = ds := by
  refine ⟨by rw [i.1, Int.zero_mul], ?_⟩
  apply list_ext_getD (mulL_len _ _)
  intro j hj
  rw [mulL_len] at hj
  rw [mulL_get hj, i.2 j hj, Int.zero_mul]
theorem big_idle {K h s : Int} {cs ds : List Int} (o : OkT K h cs ds) (hs : s < 0 ∨ 999 < s) (o' : OkT (K * s) h cs (mulL ds s)) : Idle K ds := by
  refine ⟨?_, fun i hi => ?_⟩
  · have a := o'.K0
    have b := o'.K1
    have k0 := o.K0
    by_cases e : K = 0
    · exact e
    · exfalso
      rcases hs with hs | hs
      · have : K * s < 0 := Int.mul_neg_of_pos_of_neg (by omega) hs
        omega
      · have : 1 * s ≤ K * s := Int.mul_le_mul_of_nonneg_right (by omega) (by omega)
        omega
  · have d0 := (o.d.2 i hi).1
    have a := o'.d.2 i (by rw [mulL_len]; exact hi)
    rw [mulL_get hi] at a
    by_cases e : ds.getD i 0 = 0
    · exact e
    · exfalso
      rcases hs with hs | hs
      · have : ds.getD i 0 * s < 0 := Int.mul_neg_of_pos_of_neg (by omega) hs
        omega
      · have : 1 * s ≤ ds.getD i 0 * s := Int.mul_le_mul_of_nonneg_right (by omega) (by omega)
        omega
/-- The number that is used in place of another one, on both sides. -/
def clP (b : Int) : Int := if b < -1 then -1 else if 1000 < b then 1000 else b
def clR (b : Int) : Int := if b < -2000 then -2000 else if 2000 < b then 2000 else b
theorem clP_in (b : Int) : -1 ≤ clP b ∧ clP b ≤ 1000 := by
  unfold clP
  repeat' split
  all_goals omega
theorem clR_in (b : Int) : -2000 ≤ clR b ∧ clR b ≤ 2000 := by
  unfold clR
  repeat' split
  all_goals omega
theorem cl_same (b : Int) : (clP b = b ∧ clR b = b ∧ 0 ≤ b ∧ b ≤ 999) ∨ ((clP b < 0 ∨ 999 < clP b) ∧ (clR b < 0 ∨ 999 < clR b)) := by
  unfold clP clR
  repeat' split
  all_goals omega
theorem told_same {K h : Int} {cs ds : List Int} (o : OkT K h cs ds) (b : Int) : toldF (K * clP b) h cs (mulL ds (clP b)) = toldF (K * clR b) h cs (mulL ds (clR b)) := by
  rcases cl_same b with ⟨e1, e2, _⟩ | ⟨h1, h2⟩
  · rw [e1, e2]
  · by_cases i : Idle K ds
    · rw [(idle_mul i _).1, (idle_mul i _).2, (idle_mul i _).1, (idle_mul i _).2]
    · rw [toldF_no fun o' => i (big_idle o h1 o'), toldF_no fun o' => i (big_idle o h2 o')]
/-- The task with its start and all needs multiplied. -/
def scaleF (K h : Int) (cs ds : List Int) (b : Int) : Four := if OkT K h cs ds then toldF (K * clP b) h cs (mulL ds (clP b)) else Four.none_ 1
theorem scaleF_task {K h : Int} {cs ds : List Int} {b : Int} (o : ¬ OkT K h cs ds) : scaleF K h cs ds b = Four.none_ 1 := by unfold scaleF; rw [if_neg o]
theorem scaleF_ok {K h : Int} {cs ds : List Int} {b : Int} (o : OkT K h cs ds) : scaleF K h cs ds b = toldF (K * clP b) h cs (mulL ds (clP b)) := by unfold scaleF; rw [if_pos o]
theorem scaleF_okR {K h : Int} {cs ds : List Int} {b : Int} (o : OkT K h cs ds) : scaleF K h cs ds b = toldF (K * clR b) h cs (mulL ds (clR b)) := by rw [scaleF_ok o, told_same o]
theorem f_idle {K h : Int} {cs ds : List Int} (i : Idle K ds) (n : Nat) (hn : n ≤ ds.length) : (tk K h cs ds).f n = 0 := by
  have z : ∀ l m, m ≤ ds.length → (tk K h cs ds).units l m = 0 := fun l m hm => sm_none fun j _ hj => i.2 j (by omega)
  induction n using Nat.strongRecOn with
  | ind n ih =>
    by_cases h0 : n = 0
    · subst h0; exact Tk.f_zero _
    · obtain ⟨e1, e2, _⟩ := (tk K h cs ds).f_eq (n := n) (by omega)
      rw [e1, ih _ e2 (by omega)]
      unfold Tk.tog
      rw [if_pos (z _ _ hn)]
      rfl
theorem f_scale {K h s : Int} {cs ds : List Int} (o : OkT K h cs ds) (hs : 0 ≤ s) : ∀ {m : Nat}, m ≤ ds.length → (tk (K * s) h cs (mulL ds s)).f m = (tk K h cs ds).f m * s := by
  have ok := o.tk
  have tg : ∀ l m, m ≤ ds.length → (tk (K * s) h cs (mulL ds s)).tog l m = (tk K h cs ds).tog l m * s := by
    intro l m hm
    have u : (tk (K * s) h cs (mulL ds s)).units l m = s * (tk K h cs ds).units l m := by
      unfold Tk.units
      rw [← sm_mul]
      exact sm_congr fun i _ hi => (mulL_get (by omega)).trans (Int.mul_comm _ _)
    have v : (tk (K * s) h cs (mulL ds s)).save l m = s * (tk K h cs ds).save l m := by
      unfold Tk.save
      rw [← sm_mul]
      refine sm_congr fun i _ hi => ?_
      show (mulL ds s).getD i 0 * _ = s * (ds.getD i 0 * _)
      rw [mulL_get (by omega), Int.mul_comm (ds.getD i 0) s, Int.mul_assoc]
      rfl
    by_cases e : (tk K h cs ds).units l m = 0
    · have z : (tk (K * s) h cs (mulL ds s)).units l m = 0 := by rw [u, e, Int.mul_zero]
      unfold Tk.tog
      rw [if_pos z, if_pos e, Int.zero_mul]
    · by_cases s0 : s = 0
      · subst s0
        have z : (tk (K * 0) h cs (mulL ds 0)).units l m = 0 := by rw [u, Int.zero_mul]
        unfold Tk.tog
        rw [if_pos z, Int.mul_zero]
      · have z : ¬ (tk (K * s) h cs (mulL ds s)).units l m = 0 := by
          rw [u]
          intro hz
          rcases Int.mul_eq_zero.1 hz with q | q
          · exact s0 q
          · exact e q
        rw [Tk.tog_pos z, Tk.tog_pos e, v, Int.add_mul, Int.mul_comm s]
        rfl
  intro m
  induction m using Nat.strongRecOn with
  | ind m ih =>
    intro hm
    by_cases h0 : m = 0
    · subst h0; rw [Tk.f_zero, Tk.f_zero, Int.zero_mul]
    · obtain ⟨a1, a2, a3⟩ := (tk K h cs ds).f_eq (n := m) (by omega)
      obtain ⟨b1, b2, b3⟩ := (tk (K * s) h cs (mulL ds s)).f_eq (n := m) (by omega)
      have c1 := b3 _ a2
      have c2 := a3 _ b2
      rw [ih _ a2 (by omega), tg _ _ hm, ← Int.add_mul, ← a1] at c1
      rw [ih _ b2 (by omega), tg _ _ hm, ← Int.add_mul] at b1
      have c3 := Int.mul_le_mul_of_nonneg_right c2 hs
      omega
theorem scaleF_er {K h : Int} {cs ds : List Int} {b : Int} (e : (scaleF K h cs ds b).er = 0) :
    ∃ K' ds', OkT K h cs ds ∧ OkT K' h cs ds' ∧ ds'.length = ds.length ∧ scaleF K h cs ds b = ⟨K', h, cs, ds', 0⟩ ∧
      ((0 ≤ b ∧ b ≤ 2000 ∧ (tk K' h cs ds').f ds.length = (tk K h cs ds).f ds.length * b) ∨ ((tk K h cs ds).f ds.length = 0 ∧ (tk K' h cs ds').f ds.length = 0)) := by
  by_cases o : OkT K h cs ds
  · by_cases o2 : OkT (K * clP b) h cs (mulL ds (clP b))
    · refine ⟨_, _, o, o2, mulL_len _ _, (scaleF_ok o).trans (toldF_ok o2), ?_⟩
      rcases cl_same b with ⟨e1, _, h0, h1⟩ | ⟨h1, _⟩
      · left
        rw [e1]
        exact ⟨h0, by omega, f_scale o h0 (Nat.le_refl _)⟩
      · right
        have i := big_idle o h1 o2
        rw [(idle_mul i _).1, (idle_mul i _).2]
        exact ⟨f_idle i _ (Nat.le_refl _), f_idle i _ (Nat.le_refl _)⟩
    · rw [scaleF_ok o, toldF_no o2] at e
      cases e
  · rw [scaleF_task o] at e
    cases e

end Go.Proofs.Ytjhnfcmijijdcaa
