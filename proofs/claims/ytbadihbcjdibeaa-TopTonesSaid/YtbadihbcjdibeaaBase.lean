/- The reading of a slice of integers, and what a call leaves of it: plain lemmas, no program. -/
import Derived.Test.YtbadihbcjdibeaaRows
import Derived.Test.YtbadihbcjdibeaaMathA
import Derived.WalkKit
import Derived.WalkSpells
import Derived.WalkLawsBesides
namespace Go.Proofs.Ytbadihbcjdibeaa
open Go.RowKit

theorem hide {p : Prop} (h : p) : Hid p := h

/-- The slice value '.slice A n c' reads as the integers xs in the world w; b, off say where it lies (they mean nothing where it is empty). -/
structure RowAt (w : World) (A : Option Addr) (n c : Nat) (xs : List Int) (b off : Nat) : Prop where
  len : xs.length = n
  cap : n ≤ c
  max : c ≤ 9223372036854775807
  at_ : 0 < n → A = some ⟨b, off, none⟩
  lt : 0 < n → b < w.heap.size
  cell : ∀ k, k < n → w.cell? ⟨b, off + k, none⟩ = some (.int .i64 (xs.getD k 0))

def Row (w : World) (A : Option Addr) (n c : Nat) (xs : List Int) : Prop := ∃ b off, RowAt w A n c xs b off

theorem Row.below {w w' : World} {A : Option Addr} {n c : Nat} {xs : List Int} {B : Nat} (h : Row w A n c xs) (hb : Below B w w') (hB : w.heap.size ≤ B) : Row w' A n c xs := by
  obtain ⟨b, off, h1, hc, hm, h2, h3, h4⟩ := h
  refine ⟨b, off, h1, hc, hm, h2, fun hn => Nat.lt_of_lt_of_le (h3 hn) hb.size, fun k hk => ?_⟩
  rw [hb.cell (p := ⟨b, off + k, none⟩) (Nat.lt_of_lt_of_le (h3 (by omega)) hB)]
  exact h4 k hk

end Go.Proofs.Ytbadihbcjdibeaa
