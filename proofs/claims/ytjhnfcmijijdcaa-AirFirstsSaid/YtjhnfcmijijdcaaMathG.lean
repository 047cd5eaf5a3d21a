/- Mathematics of the first hours of a task. -/
import Derived.Test.YtjhnfcmijijdcaaWalkBr
namespace Go.Proofs.Ytjhnfcmijijdcaa

theorem own_lt {w : World} {B n c : Nat} {A : Option Addr} {xs : List Int} (o : Own w B A n c xs) : ∀ g, A = some ⟨g, 0, none⟩ → g < w.heap.size := by
  intro g h
  rcases o.form with ⟨e, _⟩ | ⟨g', e, _, l, _⟩
  · rw [e] at h
    cases h
  · rw [e] at h
    injection h with h
    injection h with h
    omega
theorem getD_take {l : List Int} {i j : Nat} (h : j < i) : (l.take i).getD j 0 = l.getD j 0 := by
  simp [List.getD_eq_getElem?_getD, List.getElem?_take, h]
theorem f_take (K h : Int) (cs ds : List Int) (i : Nat) : (tk K h (cs.take i) (ds.take i)).f i = (tk K h cs ds).f i := by
  refine f_same (n := i) (fun l m hl hm => ?_) (Nat.le_refl _)
  have u : (tk K h (cs.take i) (ds.take i)).units l m = (tk K h cs ds).units l m := sm_congr fun j _ hj => getD_take (by omega)
  have s : (tk K h (cs.take i) (ds.take i)).save l m = (tk K h cs ds).save l m := sm_congr fun j h1 hj => by
    show (ds.take i).getD j 0 * ((cs.take i).getD l 0 + h * _) = ds.getD j 0 * (cs.getD l 0 + h * _)
    rw [getD_take (by omega), getD_take (by omega)]
  unfold Tk.tog
  rw [u, s]
  rfl
theorem AllOk.take {l : List Int} {n : Nat} {hi : Int} (a : AllOk l n hi) {i : Nat} (h : i ≤ n) : AllOk (l.take i) i hi := by
  have h1 := a.1
  refine ⟨by rw [List.length_take]; omega, fun j hj => ?_⟩
  rw [List.length_take] at hj
  rw [getD_take (by omega)]
  exact a.2 j (by omega)
theorem OkT.take {K h : Int} {cs ds : List Int} (o : OkT K h cs ds) {i : Nat} (h1 : 1 ≤ i) (h2 : i ≤ ds.length) : OkT K h (cs.take i) (ds.take i) := by
  have hl : (ds.take i).length = i := by rw [List.length_take]; omega
  have n2 := o.n2
  exact ⟨o.K0, o.K1, o.h0, o.h1, by omega, by omega, by rw [hl]; exact o.c.take h2, by rw [hl]; exact o.d.take h2⟩
theorem begF_er {K h : Int} {cs ds : List Int} {b : Int} (e : (begF K h cs ds b).er = 0) :
    ∃ i : Nat, b = (i : Int) ∧ 1 ≤ i ∧ i ≤ ds.length ∧ OkT K h cs ds ∧ OkT K h (cs.take i) (ds.take i) ∧ (ds.take i).length = i ∧ begF K h cs ds b = ⟨K, h, cs.take i, ds.take i, 0⟩ := by
  by_cases o : OkT K h cs ds
  · by_cases e1 : 1 ≤ b ∧ b ≤ ds.length
    · refine ⟨b.toNat, by omega, by omega, by omega, o, o.take (by omega) (by omega), by rw [List.length_take]; omega, begF_ok o e1⟩
    · rw [begF_no o e1] at e
      cases e
  · rw [begF_task o] at e
    cases e
theorem begF_none {K h : Int} {cs ds : List Int} {b : Int} (e : ¬ (begF K h cs ds b).er = 0) : begF K h cs ds b = ⟨0, 0, [], [], 1⟩ := by
  by_cases o : OkT K h cs ds
  · by_cases e1 : 1 ≤ b ∧ b ≤ ds.length
    · rw [begF_ok o e1] at e
      exact absurd rfl e
    · exact begF_no o e1
  · exact begF_task o

end Go.Proofs.Ytjhnfcmijijdcaa
