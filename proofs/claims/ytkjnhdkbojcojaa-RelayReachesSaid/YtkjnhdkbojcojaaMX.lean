/- Which states are reached; plain mathematics, no program. -/
import Derived.Test.YtkjnhdkbojcojaaMW
import Derived.Test.YtkjnhdkbojcojaaPl
namespace Go.Proofs.Ytkjnhdkbojcojaa

/-- All states to which words lead. -/
def rchV (b : Bx) : Pl Nat := plN (aft b) 0 64
def toV (b : Bx) (s : Nat) : Option (List Int) := firstW (rchV b) (fun x => x == s)
def hasV (b : Bx) (s : Nat) : Bool := hasP (rchV b) s
/-- The set of the states that are reached. -/
def rchL (b : Bx) : List Int := ((List.range b.2.length).filter (hasV b)).map fun (s : Nat) => (s : Int)
theorem to_isSome (b : Bx) (s : Nat) : (toV b s).isSome = hasV b s := by
  unfold toV firstW hasV hasP
  rw [Option.isSome_map]
  rw [Bool.eq_iff_iff, List.find?_isSome, List.any_eq_true]
  constructor
  · rintro ⟨x, h1, h2⟩; exact ⟨x, h1, by simpa using h2⟩
  · rintro ⟨x, h1, h2⟩; exact ⟨x, h1, by simpa using h2⟩
section
variable {b : Bx} (hb : Okx b)
include hb
theorem rch_bd (r : Nat) : (plN (aft b) 0 r).length ≤ 6 := plN_bound (f := aft b) (P := fun s => s < b.2.length) (x0 := 0) (fun s => s) (N := 6) hb.n1 (fun _ k h => hb.aft_lt h k) (fun _ h => Nat.lt_of_lt_of_le h hb.n6) (fun _ _ _ _ e => e) r
theorem rch_inv (r : Nat) : Inv (f := aft b) (fun s => s < b.2.length) 0 (plN (aft b) 0 r) := inv_plN (f := aft b) (P := fun s => s < b.2.length) (x0 := 0) hb.n1 (fun _ k h => hb.aft_lt h k) r
theorem to_end {s : Nat} {w : List Int} (h : toV b s = some w) : Inp w ∧ endV b 0 w = s ∧ w.length ≤ 6 := by
  unfold toV firstW at h
  obtain ⟨e, he, rfl⟩ := Option.map_eq_some_iff.1 h
  have hm := List.mem_of_find?_eq_some he
  have hp := List.find?_some he
  have hl := (rch_inv hb 64).leads e hm
  have hE : rchV b = plN (aft b) 0 6 := plN_end (rch_bd hb 6) (by omega)
  rw [hE] at hm
  refine ⟨hl.2, ?_, plN_wlen _ _ 6 e hm⟩
  have : e.1 = s := by simpa using hp
  rw [← this]
  exact hl.1.symm
/-- What breadth first finds, sorted. -/
theorem rch_perm : ((rchV b).map fun e => ((e.1 : Nat) : Int)).Perm (rchL b) := by
  have h1 : ((rchV b).map Prod.fst).Perm ((List.range b.2.length).filter (hasV b)) := by
    rw [List.perm_ext_iff_of_nodup (show ((rchV b).map Prod.fst).Nodup from (rch_inv hb 64).nd) (List.nodup_range.filter _)]
    intro x
    rw [List.mem_filter, List.mem_range]
    constructor
    · intro hx
      obtain ⟨e, he, rfl⟩ := List.mem_map.1 hx
      exact ⟨(rch_inv hb 64).all e he, by unfold hasV; rw [hasP_iff]; exact hx⟩
    · rintro ⟨_, hx⟩
      unfold hasV at hx
      rw [hasP_iff] at hx
      exact hx
  have h2 := h1.map fun (s : Nat) => (s : Int)
  rw [List.map_map] at h2
  exact h2
end
theorem rchL_sorted (b : Bx) : (rchL b).Pairwise (· ≤ ·) := by
  unfold rchL
  rw [List.pairwise_map]
  have h := (List.pairwise_lt_range (n := b.2.length)).filter (hasV b)
  exact h.imp fun h => by omega
theorem sorted_perm : ∀ {l m : List Int}, l.Perm m → l.Pairwise (· ≤ ·) → m.Pairwise (· ≤ ·) → l = m
  | [], m, h, _, _ => (List.nil_perm.1 h).symm ▸ rfl
  | x :: l, [], h, _, _ => absurd h.length_eq (by simp)
  | x :: l, y :: m, h, hl, hm => by
    rw [List.pairwise_cons] at hl hm
    have hx : x ∈ y :: m := h.subset (List.mem_cons_self ..)
    have hy : y ∈ x :: l := h.symm.subset (List.mem_cons_self ..)
    have e : x = y := by
      rcases List.mem_cons.1 hx with e | hx
      · exact e
      · rcases List.mem_cons.1 hy with e | hy
        · exact e.symm
        · have h1 := hm.1 x hx
          have h2 := hl.1 y hy
          omega
    subst e
    rw [sorted_perm (List.Perm.cons_inv h) hl.2 hm.2]
theorem rchL_len {b : Bx} (hb : Okx b) : (rchL b).length = (rchV b).length := by rw [← (rch_perm hb).length_eq, List.length_map]
end Go.Proofs.Ytkjnhdkbojcojaa
