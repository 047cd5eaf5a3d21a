/- Mathematics: what All answers for the delays of cliffs. -/
import Derived.Test.YtllfkhcpdgdmnaaSou
import Derived.Test.YtllfkhcpdgdmnaaWkWith
namespace Go.Proofs.Ytllfkhcpdgdmnaa

theorem sh0_zero {L : List Int} (h0 : gi L 0 = 0) : sh0 L = L := by
  unfold sh0
  rw [h0]
  simp
theorem norF_fix {L : List Int} (h0 : gi L 0 = 0) (hn : norB L = true) : norF L = L := by
  unfold norF
  rw [sh0_zero h0, if_pos hn]
theorem errB_of {xs ys : List Int} (h1 : errC xs = 0) (h2 : errC ys = 0) : errB xs ys = 0 := by
  unfold errB
  rw [if_pos h1, h2]
/-- Each of all is valid, has the same delays, is its own normal form. -/
theorem among_ok {c L : List Int} (h : errC c = 0) (hm : L ∈ allV (delV c)) : errC L = 0 ∧ samV c L = true ∧ alkV c L = (norF c == L) := by
  rw [delV_ok h] at hm
  obtain ⟨⟨h1, h2, h3⟩, h4⟩ := (all_mem (errD_own h)).1 hm
  refine ⟨h1, ?_, ?_⟩
  · rw [samV_ok (errB_of h h1), h3]
    simp
  · rw [alkV_ok (errB_of h h1), norF_fix h2 h4]
theorem all_nodup (ds : List Int) : (allV ds).Nodup := (all_order ds).imp fun h => h.ne
/-- The normal form is among all just once. -/
theorem among_once {c : List Int} (h : errC c = 0) : (allV (delV c)).count (norF c) = 1 := by
  have h1 := List.nodup_iff_count.1 (all_nodup (delV c)) (norF c)
  have h2 := List.count_pos_iff.2 (nor_among h)
  omega
/-- Cliffs have the same delays just where their normal form is among all. -/
theorem same_found {c d : List Int} (h : errC c = 0) (h' : errC d = 0) : samV c d = (allV (delV c)).any fun L => L == norF d := by
  rw [samV_ok (errB_of h h'), Bool.eq_iff_iff, List.any_eq_true]
  constructor
  · intro e
    have e := eq_of_beq e
    have hm := nor_among h'
    rw [delV_ok h', ← e, ← delV_ok h] at hm
    exact ⟨_, hm, by simp⟩
  · rintro ⟨L, hm, e⟩
    obtain rfl := eq_of_beq e
    rw [delV_ok h] at hm
    have h1 := ((all_mem (errD_own h)).1 hm).1.2.2
    rw [nor_dif (errC_sorted h')] at h1
    rw [h1]
    simp
theorem chk_among {ds L : List Int} (hm : L ∈ allV ds) : chkE ds L = 0 := by
  by_cases hd : errD ds = 0
  · obtain ⟨⟨h1, _, h3⟩, _⟩ := (all_mem hd).1 hm
    unfold chkE
    simp [hd, h1, h3]
  · unfold allV at hm
    rw [if_neg hd] at hm
    cases hm
theorem chk_own {c : List Int} (h : errC c = 0) : chkE (delV c) c = 0 := by
  rw [delV_ok h]
  unfold chkE
  simp [errD_own h, h]
theorem all_some {c : List Int} (h : errC c = 0) : allV (delV c) ≠ [] := fun e => by
  have := nor_among h
  rw [e] at this
  cases this
/-- A ruler with a further cliff was one before. -/
theorem with_ruler {c : List Int} {p : Int} (h : errC c = 0) (h2 : twoB (sortZ (dif (sortZ (c ++ [p])))) = false) : twoB (sortZ (dif c)) = false := by
  rw [twoB_sort] at h2 ⊢
  have := (wit_perm (p := p) h).nodup_iff.1 h2
  exact (List.nodup_append.1 this).1
end Go.Proofs.Ytllfkhcpdgdmnaa
