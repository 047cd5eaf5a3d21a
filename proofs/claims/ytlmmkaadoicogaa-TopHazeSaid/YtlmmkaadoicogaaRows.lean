/-
  No cell of these rows narrows 'for every input' (looked for: loops, veiled, ifaces, maps, wideKeys, modest, calm, conditions, laid).
  DERIVED. THE GIVEN ROWS OF THIS SEAT. 15 by the template 'for every input the law returns true; each argument reads behind the call as it read before'; 0 by the template 'total and deterministic' (their statements: YtlmmkaadoicogaaTotals.lean).
  GIVEN WITH THE SEED: the statements are not yours to turn. If you find one false, say at which input.
  Laid BY PROGRAM, IN A SANDBOX (cutbox-rows.mjs): the forced cells as the released guide's own fill.sh prints them over the translation 18bfc2aa4bc0db60… (all of the seat's roots in one cut). By AI agents, Wed Nov 11 2026. No macro, syntax, notation, axiom, sorry.
-/
import Derived.Test.YtlmmkaadoicogaaChecked
import GoSem.Claim
import GoSem.ClaimJoined
import GoSem.ClaimMapViews
import Derived.JoinedTies
import Derived.KernelRfl
namespace Go.Proofs.Ytlmmkaadoicogaa
/- THE CELL 'sum', in the pinned program and in every row, IS THE sha256 OF THE DUMP (.gsa) THAT YtlmmkaadoicogaaProg.lean LOADS. Nothing in Lean hashes anything: it is a label: what it is worth is what the hold of that sum in a sandbox is worth. -/
noncomputable def Try.pinned : Pinned := { name := "ytlmmkaadoicogaa", sum := "18bfc2aa4bc0db608285e9576bd161a27f261edf9e82628768fae50b310ba37a", checked := Try.checked }
namespace Rows
def none {H : Type} : Left H := { results := [], args := [] }

/-- 'diaphonelaw02.HazeMeans': WHATEVER THE INPUT: true; the input reads as it did. -/
def hazeMeansSpec : ChangeSpec := { name := "hazeMeans", fn := fun _ => fun
  | [d1, d2, d3] => { results := [.lit (.bool true)], args := [d1, d2, d3] }
  | _ => none }
def hazeMeansRow : OpenClaim := { program := "ytlmmkaadoicogaa", sum := "18bfc2aa4bc0db608285e9576bd161a27f261edf9e82628768fae50b310ba37a", func := "diaphone/diaphonelaw02.HazeMeans", spec := "hazeMeans", apart := false }
def HazeMeansSaid : Prop := hazeMeansRow.holds Try.pinned (OpenSpec.ofChange hazeMeansSpec)

/-- ITS FALSE NEIGHBOUR: 'it returns false'. Refute it at one input. -/
def hazeMeansWrong : ChangeSpec := { name := "hazeMeans", fn := fun _ => fun
  | [d1, d2, d3] => { results := [.lit (.bool false)], args := [d1, d2, d3] }
  | _ => none }
def HazeMeansWrongFalsely : Prop := hazeMeansRow.holds Try.pinned (OpenSpec.ofChange hazeMeansWrong)

/-- 'diaphonelaw02.HazeBest': WHATEVER THE INPUT: true; the input reads as it did. -/
def hazeBestSpec : ChangeSpec := { name := "hazeBest", fn := fun _ => fun
  | [d] => { results := [.lit (.bool true)], args := [d] }
  | _ => none }
def hazeBestRow : OpenClaim := { program := "ytlmmkaadoicogaa", sum := "18bfc2aa4bc0db608285e9576bd161a27f261edf9e82628768fae50b310ba37a", func := "diaphone/diaphonelaw02.HazeBest", spec := "hazeBest", apart := false }
def HazeBestSaid : Prop := hazeBestRow.holds Try.pinned (OpenSpec.ofChange hazeBestSpec)

/-- ITS FALSE NEIGHBOUR: 'it returns false'. Refute it at one input. -/
def hazeBestWrong : ChangeSpec := { name := "hazeBest", fn := fun _ => fun
  | [d] => { results := [.lit (.bool false)], args := [d] }
  | _ => none }
def HazeBestWrongFalsely : Prop := hazeBestRow.holds Try.pinned (OpenSpec.ofChange hazeBestWrong)

/-- 'diaphonelaw02.HazeBlocks': WHATEVER THE INPUT: true; the input reads as it did. -/
def hazeBlocksSpec : ChangeSpec := { name := "hazeBlocks", fn := fun _ => fun
  | [d] => { results := [.lit (.bool true)], args := [d] }
  | _ => none }
def hazeBlocksRow : OpenClaim := { program := "ytlmmkaadoicogaa", sum := "18bfc2aa4bc0db608285e9576bd161a27f261edf9e82628768fae50b310ba37a", func := "diaphone/diaphonelaw02.HazeBlocks", spec := "hazeBlocks", apart := false }
def HazeBlocksSaid : Prop := hazeBlocksRow.holds Try.pinned (OpenSpec.ofChange hazeBlocksSpec)

/-- ITS FALSE NEIGHBOUR: 'it returns false'. Refute it at one input. -/
def hazeBlocksWrong : ChangeSpec := { name := "hazeBlocks", fn := fun _ => fun
  | [d] => { results := [.lit (.bool false)], args := [d] }
  | _ => none }
def HazeBlocksWrongFalsely : Prop := hazeBlocksRow.holds Try.pinned (OpenSpec.ofChange hazeBlocksWrong)

/-- 'diaphonelaw02.HazeChecks': WHATEVER THE INPUT: true; the input reads as it did. -/
def hazeChecksSpec : ChangeSpec := { name := "hazeChecks", fn := fun _ => fun
  | [d1, d2] => { results := [.lit (.bool true)], args := [d1, d2] }
  | _ => none }
def hazeChecksRow : OpenClaim := { program := "ytlmmkaadoicogaa", sum := "18bfc2aa4bc0db608285e9576bd161a27f261edf9e82628768fae50b310ba37a", func := "diaphone/diaphonelaw02.HazeChecks", spec := "hazeChecks", apart := false }
def HazeChecksSaid : Prop := hazeChecksRow.holds Try.pinned (OpenSpec.ofChange hazeChecksSpec)

/-- ITS FALSE NEIGHBOUR: 'it returns false'. Refute it at one input. -/
def hazeChecksWrong : ChangeSpec := { name := "hazeChecks", fn := fun _ => fun
  | [d1, d2] => { results := [.lit (.bool false)], args := [d1, d2] }
  | _ => none }
def HazeChecksWrongFalsely : Prop := hazeChecksRow.holds Try.pinned (OpenSpec.ofChange hazeChecksWrong)

/-- 'diaphonelaw02.HazeProves': WHATEVER THE INPUT: true; the input reads as it did. -/
def hazeProvesSpec : ChangeSpec := { name := "hazeProves", fn := fun _ => fun
  | [d] => { results := [.lit (.bool true)], args := [d] }
  | _ => none }
def hazeProvesRow : OpenClaim := { program := "ytlmmkaadoicogaa", sum := "18bfc2aa4bc0db608285e9576bd161a27f261edf9e82628768fae50b310ba37a", func := "diaphone/diaphonelaw02.HazeProves", spec := "hazeProves", apart := false }
def HazeProvesSaid : Prop := hazeProvesRow.holds Try.pinned (OpenSpec.ofChange hazeProvesSpec)

/-- ITS FALSE NEIGHBOUR: 'it returns false'. Refute it at one input. -/
def hazeProvesWrong : ChangeSpec := { name := "hazeProves", fn := fun _ => fun
  | [d] => { results := [.lit (.bool false)], args := [d] }
  | _ => none }
def HazeProvesWrongFalsely : Prop := hazeProvesRow.holds Try.pinned (OpenSpec.ofChange hazeProvesWrong)

/-- 'diaphonelaw02.HazeNearest': WHATEVER THE INPUT: true; the input reads as it did. -/
def hazeNearestSpec : ChangeSpec := { name := "hazeNearest", fn := fun _ => fun
  | [d1, d2] => { results := [.lit (.bool true)], args := [d1, d2] }
  | _ => none }
def hazeNearestRow : OpenClaim := { program := "ytlmmkaadoicogaa", sum := "18bfc2aa4bc0db608285e9576bd161a27f261edf9e82628768fae50b310ba37a", func := "diaphone/diaphonelaw02.HazeNearest", spec := "hazeNearest", apart := false }
def HazeNearestSaid : Prop := hazeNearestRow.holds Try.pinned (OpenSpec.ofChange hazeNearestSpec)

/-- ITS FALSE NEIGHBOUR: 'it returns false'. Refute it at one input. -/
def hazeNearestWrong : ChangeSpec := { name := "hazeNearest", fn := fun _ => fun
  | [d1, d2] => { results := [.lit (.bool false)], args := [d1, d2] }
  | _ => none }
def HazeNearestWrongFalsely : Prop := hazeNearestRow.holds Try.pinned (OpenSpec.ofChange hazeNearestWrong)

/-- 'diaphonelaw02.HazeRising': WHATEVER THE INPUT: true; the input reads as it did. -/
def hazeRisingSpec : ChangeSpec := { name := "hazeRising", fn := fun _ => fun
  | [d] => { results := [.lit (.bool true)], args := [d] }
  | _ => none }
def hazeRisingRow : OpenClaim := { program := "ytlmmkaadoicogaa", sum := "18bfc2aa4bc0db608285e9576bd161a27f261edf9e82628768fae50b310ba37a", func := "diaphone/diaphonelaw02.HazeRising", spec := "hazeRising", apart := false }
def HazeRisingSaid : Prop := hazeRisingRow.holds Try.pinned (OpenSpec.ofChange hazeRisingSpec)

/-- ITS FALSE NEIGHBOUR: 'it returns false'. Refute it at one input. -/
def hazeRisingWrong : ChangeSpec := { name := "hazeRising", fn := fun _ => fun
  | [d] => { results := [.lit (.bool false)], args := [d] }
  | _ => none }
def HazeRisingWrongFalsely : Prop := hazeRisingRow.holds Try.pinned (OpenSpec.ofChange hazeRisingWrong)

/-- 'diaphonelaw02.HazeUntil': WHATEVER THE INPUT: true; the input reads as it did. -/
def hazeUntilSpec : ChangeSpec := { name := "hazeUntil", fn := fun _ => fun
  | [d1, d2, d3] => { results := [.lit (.bool true)], args := [d1, d2, d3] }
  | _ => none }
def hazeUntilRow : OpenClaim := { program := "ytlmmkaadoicogaa", sum := "18bfc2aa4bc0db608285e9576bd161a27f261edf9e82628768fae50b310ba37a", func := "diaphone/diaphonelaw02.HazeUntil", spec := "hazeUntil", apart := false }
def HazeUntilSaid : Prop := hazeUntilRow.holds Try.pinned (OpenSpec.ofChange hazeUntilSpec)

/-- ITS FALSE NEIGHBOUR: 'it returns false'. Refute it at one input. -/
def hazeUntilWrong : ChangeSpec := { name := "hazeUntil", fn := fun _ => fun
  | [d1, d2, d3] => { results := [.lit (.bool false)], args := [d1, d2, d3] }
  | _ => none }
def HazeUntilWrongFalsely : Prop := hazeUntilRow.holds Try.pinned (OpenSpec.ofChange hazeUntilWrong)

/-- 'diaphonelaw02.HazeHighest': WHATEVER THE INPUT: true; the input reads as it did. -/
def hazeHighestSpec : ChangeSpec := { name := "hazeHighest", fn := fun _ => fun
  | [d1, d2] => { results := [.lit (.bool true)], args := [d1, d2] }
  | _ => none }
def hazeHighestRow : OpenClaim := { program := "ytlmmkaadoicogaa", sum := "18bfc2aa4bc0db608285e9576bd161a27f261edf9e82628768fae50b310ba37a", func := "diaphone/diaphonelaw02.HazeHighest", spec := "hazeHighest", apart := false }
def HazeHighestSaid : Prop := hazeHighestRow.holds Try.pinned (OpenSpec.ofChange hazeHighestSpec)

/-- ITS FALSE NEIGHBOUR: 'it returns false'. Refute it at one input. -/
def hazeHighestWrong : ChangeSpec := { name := "hazeHighest", fn := fun _ => fun
  | [d1, d2] => { results := [.lit (.bool false)], args := [d1, d2] }
  | _ => none }
def HazeHighestWrongFalsely : Prop := hazeHighestRow.holds Try.pinned (OpenSpec.ofChange hazeHighestWrong)

/-- 'diaphonelaw02.HazeRaises': WHATEVER THE INPUT: true; the input reads as it did. -/
def hazeRaisesSpec : ChangeSpec := { name := "hazeRaises", fn := fun _ => fun
  | [d1, d2, d3] => { results := [.lit (.bool true)], args := [d1, d2, d3] }
  | _ => none }
def hazeRaisesRow : OpenClaim := { program := "ytlmmkaadoicogaa", sum := "18bfc2aa4bc0db608285e9576bd161a27f261edf9e82628768fae50b310ba37a", func := "diaphone/diaphonelaw02.HazeRaises", spec := "hazeRaises", apart := false }
def HazeRaisesSaid : Prop := hazeRaisesRow.holds Try.pinned (OpenSpec.ofChange hazeRaisesSpec)

/-- ITS FALSE NEIGHBOUR: 'it returns false'. Refute it at one input. -/
def hazeRaisesWrong : ChangeSpec := { name := "hazeRaises", fn := fun _ => fun
  | [d1, d2, d3] => { results := [.lit (.bool false)], args := [d1, d2, d3] }
  | _ => none }
def HazeRaisesWrongFalsely : Prop := hazeRaisesRow.holds Try.pinned (OpenSpec.ofChange hazeRaisesWrong)

/-- 'diaphonelaw02.HazeRaisesAll': WHATEVER THE INPUT: true; the input reads as it did. -/
def hazeRaisesAllSpec : ChangeSpec := { name := "hazeRaisesAll", fn := fun _ => fun
  | [d1, d2] => { results := [.lit (.bool true)], args := [d1, d2] }
  | _ => none }
def hazeRaisesAllRow : OpenClaim := { program := "ytlmmkaadoicogaa", sum := "18bfc2aa4bc0db608285e9576bd161a27f261edf9e82628768fae50b310ba37a", func := "diaphone/diaphonelaw02.HazeRaisesAll", spec := "hazeRaisesAll", apart := false }
def HazeRaisesAllSaid : Prop := hazeRaisesAllRow.holds Try.pinned (OpenSpec.ofChange hazeRaisesAllSpec)

/-- ITS FALSE NEIGHBOUR: 'it returns false'. Refute it at one input. -/
def hazeRaisesAllWrong : ChangeSpec := { name := "hazeRaisesAll", fn := fun _ => fun
  | [d1, d2] => { results := [.lit (.bool false)], args := [d1, d2] }
  | _ => none }
def HazeRaisesAllWrongFalsely : Prop := hazeRaisesAllRow.holds Try.pinned (OpenSpec.ofChange hazeRaisesAllWrong)

/-- 'diaphonelaw02.HazeOpposites': WHATEVER THE INPUT: true; the input reads as it did. -/
def hazeOppositesSpec : ChangeSpec := { name := "hazeOpposites", fn := fun _ => fun
  | [d] => { results := [.lit (.bool true)], args := [d] }
  | _ => none }
def hazeOppositesRow : OpenClaim := { program := "ytlmmkaadoicogaa", sum := "18bfc2aa4bc0db608285e9576bd161a27f261edf9e82628768fae50b310ba37a", func := "diaphone/diaphonelaw02.HazeOpposites", spec := "hazeOpposites", apart := false }
def HazeOppositesSaid : Prop := hazeOppositesRow.holds Try.pinned (OpenSpec.ofChange hazeOppositesSpec)

/-- ITS FALSE NEIGHBOUR: 'it returns false'. Refute it at one input. -/
def hazeOppositesWrong : ChangeSpec := { name := "hazeOpposites", fn := fun _ => fun
  | [d] => { results := [.lit (.bool false)], args := [d] }
  | _ => none }
def HazeOppositesWrongFalsely : Prop := hazeOppositesRow.holds Try.pinned (OpenSpec.ofChange hazeOppositesWrong)

/-- 'diaphonelaw02.HazePools': WHATEVER THE INPUT: true; the input reads as it did. -/
def hazePoolsSpec : ChangeSpec := { name := "hazePools", fn := fun _ => fun
  | [d1, d2] => { results := [.lit (.bool true)], args := [d1, d2] }
  | _ => none }
def hazePoolsRow : OpenClaim := { program := "ytlmmkaadoicogaa", sum := "18bfc2aa4bc0db608285e9576bd161a27f261edf9e82628768fae50b310ba37a", func := "diaphone/diaphonelaw02.HazePools", spec := "hazePools", apart := false }
def HazePoolsSaid : Prop := hazePoolsRow.holds Try.pinned (OpenSpec.ofChange hazePoolsSpec)

/-- ITS FALSE NEIGHBOUR: 'it returns false'. Refute it at one input. -/
def hazePoolsWrong : ChangeSpec := { name := "hazePools", fn := fun _ => fun
  | [d1, d2] => { results := [.lit (.bool false)], args := [d1, d2] }
  | _ => none }
def HazePoolsWrongFalsely : Prop := hazePoolsRow.holds Try.pinned (OpenSpec.ofChange hazePoolsWrong)

/-- 'diaphonelaw02.HazeBegins': WHATEVER THE INPUT: true; the input reads as it did. -/
def hazeBeginsSpec : ChangeSpec := { name := "hazeBegins", fn := fun _ => fun
  | [d1, d2] => { results := [.lit (.bool true)], args := [d1, d2] }
  | _ => none }
def hazeBeginsRow : OpenClaim := { program := "ytlmmkaadoicogaa", sum := "18bfc2aa4bc0db608285e9576bd161a27f261edf9e82628768fae50b310ba37a", func := "diaphone/diaphonelaw02.HazeBegins", spec := "hazeBegins", apart := false }
def HazeBeginsSaid : Prop := hazeBeginsRow.holds Try.pinned (OpenSpec.ofChange hazeBeginsSpec)

/-- ITS FALSE NEIGHBOUR: 'it returns false'. Refute it at one input. -/
def hazeBeginsWrong : ChangeSpec := { name := "hazeBegins", fn := fun _ => fun
  | [d1, d2] => { results := [.lit (.bool false)], args := [d1, d2] }
  | _ => none }
def HazeBeginsWrongFalsely : Prop := hazeBeginsRow.holds Try.pinned (OpenSpec.ofChange hazeBeginsWrong)

/-- 'diaphonetop.TopHaze': WHATEVER THE INPUT: true; the input reads as it did. -/
def topHazeSpec : ChangeSpec := { name := "topHaze", fn := fun _ => fun
  | [d1, d2, d3] => { results := [.lit (.bool true)], args := [d1, d2, d3] }
  | _ => none }
def topHazeRow : OpenClaim := { program := "ytlmmkaadoicogaa", sum := "18bfc2aa4bc0db608285e9576bd161a27f261edf9e82628768fae50b310ba37a", func := "diaphone/diaphonetop.TopHaze", spec := "topHaze", apart := false }
def TopHazeSaid : Prop := topHazeRow.holds Try.pinned (OpenSpec.ofChange topHazeSpec)

/-- ITS FALSE NEIGHBOUR: 'it returns false'. Refute it at one input. -/
def topHazeWrong : ChangeSpec := { name := "topHaze", fn := fun _ => fun
  | [d1, d2, d3] => { results := [.lit (.bool false)], args := [d1, d2, d3] }
  | _ => none }
def TopHazeWrongFalsely : Prop := topHazeRow.holds Try.pinned (OpenSpec.ofChange topHazeWrong)

/- THE SECOND FORM. 'bulk': how many values and letters a reading holds, each counted each time it is reached (what is shared counts as often as it is met; a slice's spare places count too). A statement '..UptoSaid' is the law's where the arguments, and the package variables that the reading takes, are together of bulk at most 1048576: NARROWER than '..Said'. Prove '..Said' where nothing that the law and all that it calls make is longer than what came in: it says more and counts as full. Else prove '..UptoSaid'. A law counts once. -/
mutual
def uptoBulk {H : Type} : DataW H → Nat
  | .lit (.string bytes) => bytes.length + 1
  | .lit _ => 1
  | .nil => 1
  | .ptr d => uptoBulk d + 1
  | .slice elems spare => uptoBulkAll elems + uptoBulkAll spare + 1
  | .agg parts => uptoBulkAll parts + 1
  | .iface _ d => uptoBulk d + 1
  | .map entries => uptoBulkEntries entries + 1
  | .held _ => 1
def uptoBulkAll {H : Type} : List (DataW H) → Nat
  | [] => 0
  | d :: r => uptoBulk d + uptoBulkAll r
def uptoBulkEntries {H : Type} : List (Lit × DataW H) → Nat
  | [] => 0
  | x :: r => uptoBulkEntry x + uptoBulkEntries r
def uptoBulkEntry {H : Type} : Lit × DataW H → Nat
  | (.string bytes, d) => bytes.length + uptoBulk d + 1
  | (_, d) => uptoBulk d + 1
 end
def uptoSmall : (H : Type) → List (DataW H) → Bool := fun _ ds => decide (uptoBulkAll ds ≤ 1048576)
def OpenSpec.upto (s : _root_.Go.ChangeSpec) : _root_.Go.OpenSpec := { _root_.Go.OpenSpec.ofChange s with cond := some uptoSmall }

/-- 'diaphonelaw02.HazeMeans', WHERE WHAT IT READS IS OF BULK AT MOST 1048576: true; the input reads as it did. -/
def hazeMeansUptoRow : OpenClaim := { program := "ytlmmkaadoicogaa", sum := "18bfc2aa4bc0db608285e9576bd161a27f261edf9e82628768fae50b310ba37a", func := "diaphone/diaphonelaw02.HazeMeans", spec := "hazeMeans", apart := false, narrowed := true }
def HazeMeansUptoSaid : Prop := hazeMeansUptoRow.holds Try.pinned (OpenSpec.upto hazeMeansSpec)

/-- 'diaphonelaw02.HazeBest', WHERE WHAT IT READS IS OF BULK AT MOST 1048576: true; the input reads as it did. -/
def hazeBestUptoRow : OpenClaim := { program := "ytlmmkaadoicogaa", sum := "18bfc2aa4bc0db608285e9576bd161a27f261edf9e82628768fae50b310ba37a", func := "diaphone/diaphonelaw02.HazeBest", spec := "hazeBest", apart := false, narrowed := true }
def HazeBestUptoSaid : Prop := hazeBestUptoRow.holds Try.pinned (OpenSpec.upto hazeBestSpec)

/-- 'diaphonelaw02.HazeBlocks', WHERE WHAT IT READS IS OF BULK AT MOST 1048576: true; the input reads as it did. -/
def hazeBlocksUptoRow : OpenClaim := { program := "ytlmmkaadoicogaa", sum := "18bfc2aa4bc0db608285e9576bd161a27f261edf9e82628768fae50b310ba37a", func := "diaphone/diaphonelaw02.HazeBlocks", spec := "hazeBlocks", apart := false, narrowed := true }
def HazeBlocksUptoSaid : Prop := hazeBlocksUptoRow.holds Try.pinned (OpenSpec.upto hazeBlocksSpec)

/-- 'diaphonelaw02.HazeChecks', WHERE WHAT IT READS IS OF BULK AT MOST 1048576: true; the input reads as it did. -/
def hazeChecksUptoRow : OpenClaim := { program := "ytlmmkaadoicogaa", sum := "18bfc2aa4bc0db608285e9576bd161a27f261edf9e82628768fae50b310ba37a", func := "diaphone/diaphonelaw02.HazeChecks", spec := "hazeChecks", apart := false, narrowed := true }
def HazeChecksUptoSaid : Prop := hazeChecksUptoRow.holds Try.pinned (OpenSpec.upto hazeChecksSpec)

/-- 'diaphonelaw02.HazeProves', WHERE WHAT IT READS IS OF BULK AT MOST 1048576: true; the input reads as it did. -/
def hazeProvesUptoRow : OpenClaim := { program := "ytlmmkaadoicogaa", sum := "18bfc2aa4bc0db608285e9576bd161a27f261edf9e82628768fae50b310ba37a", func := "diaphone/diaphonelaw02.HazeProves", spec := "hazeProves", apart := false, narrowed := true }
def HazeProvesUptoSaid : Prop := hazeProvesUptoRow.holds Try.pinned (OpenSpec.upto hazeProvesSpec)

/-- 'diaphonelaw02.HazeNearest', WHERE WHAT IT READS IS OF BULK AT MOST 1048576: true; the input reads as it did. -/
def hazeNearestUptoRow : OpenClaim := { program := "ytlmmkaadoicogaa", sum := "18bfc2aa4bc0db608285e9576bd161a27f261edf9e82628768fae50b310ba37a", func := "diaphone/diaphonelaw02.HazeNearest", spec := "hazeNearest", apart := false, narrowed := true }
def HazeNearestUptoSaid : Prop := hazeNearestUptoRow.holds Try.pinned (OpenSpec.upto hazeNearestSpec)

/-- 'diaphonelaw02.HazeRising', WHERE WHAT IT READS IS OF BULK AT MOST 1048576: true; the input reads as it did. -/
def hazeRisingUptoRow : OpenClaim := { program := "ytlmmkaadoicogaa", sum := "18bfc2aa4bc0db608285e9576bd161a27f261edf9e82628768fae50b310ba37a", func := "diaphone/diaphonelaw02.HazeRising", spec := "hazeRising", apart := false, narrowed := true }
def HazeRisingUptoSaid : Prop := hazeRisingUptoRow.holds Try.pinned (OpenSpec.upto hazeRisingSpec)

/-- 'diaphonelaw02.HazeUntil', WHERE WHAT IT READS IS OF BULK AT MOST 1048576: true; the input reads as it did. -/
def hazeUntilUptoRow : OpenClaim := { program := "ytlmmkaadoicogaa", sum := "18bfc2aa4bc0db608285e9576bd161a27f261edf9e82628768fae50b310ba37a", func := "diaphone/diaphonelaw02.HazeUntil", spec := "hazeUntil", apart := false, narrowed := true }
def HazeUntilUptoSaid : Prop := hazeUntilUptoRow.holds Try.pinned (OpenSpec.upto hazeUntilSpec)

/-- 'diaphonelaw02.HazeHighest', WHERE WHAT IT READS IS OF BULK AT MOST 1048576: true; the input reads as it did. -/
def hazeHighestUptoRow : OpenClaim := { program := "ytlmmkaadoicogaa", sum := "18bfc2aa4bc0db608285e9576bd161a27f261edf9e82628768fae50b310ba37a", func := "diaphone/diaphonelaw02.HazeHighest", spec := "hazeHighest", apart := false, narrowed := true }
def HazeHighestUptoSaid : Prop := hazeHighestUptoRow.holds Try.pinned (OpenSpec.upto hazeHighestSpec)

/-- 'diaphonelaw02.HazeRaises', WHERE WHAT IT READS IS OF BULK AT MOST 1048576: true; the input reads as it did. -/
def hazeRaisesUptoRow : OpenClaim := { program := "ytlmmkaadoicogaa", sum := "18bfc2aa4bc0db608285e9576bd161a27f261edf9e82628768fae50b310ba37a", func := "diaphone/diaphonelaw02.HazeRaises", spec := "hazeRaises", apart := false, narrowed := true }
def HazeRaisesUptoSaid : Prop := hazeRaisesUptoRow.holds Try.pinned (OpenSpec.upto hazeRaisesSpec)

/-- 'diaphonelaw02.HazeRaisesAll', WHERE WHAT IT READS IS OF BULK AT MOST 1048576: true; the input reads as it did. -/
def hazeRaisesAllUptoRow : OpenClaim := { program := "ytlmmkaadoicogaa", sum := "18bfc2aa4bc0db608285e9576bd161a27f261edf9e82628768fae50b310ba37a", func := "diaphone/diaphonelaw02.HazeRaisesAll", spec := "hazeRaisesAll", apart := false, narrowed := true }
def HazeRaisesAllUptoSaid : Prop := hazeRaisesAllUptoRow.holds Try.pinned (OpenSpec.upto hazeRaisesAllSpec)

/-- 'diaphonelaw02.HazeOpposites', WHERE WHAT IT READS IS OF BULK AT MOST 1048576: true; the input reads as it did. -/
def hazeOppositesUptoRow : OpenClaim := { program := "ytlmmkaadoicogaa", sum := "18bfc2aa4bc0db608285e9576bd161a27f261edf9e82628768fae50b310ba37a", func := "diaphone/diaphonelaw02.HazeOpposites", spec := "hazeOpposites", apart := false, narrowed := true }
def HazeOppositesUptoSaid : Prop := hazeOppositesUptoRow.holds Try.pinned (OpenSpec.upto hazeOppositesSpec)

/-- 'diaphonelaw02.HazePools', WHERE WHAT IT READS IS OF BULK AT MOST 1048576: true; the input reads as it did. -/
def hazePoolsUptoRow : OpenClaim := { program := "ytlmmkaadoicogaa", sum := "18bfc2aa4bc0db608285e9576bd161a27f261edf9e82628768fae50b310ba37a", func := "diaphone/diaphonelaw02.HazePools", spec := "hazePools", apart := false, narrowed := true }
def HazePoolsUptoSaid : Prop := hazePoolsUptoRow.holds Try.pinned (OpenSpec.upto hazePoolsSpec)

/-- 'diaphonelaw02.HazeBegins', WHERE WHAT IT READS IS OF BULK AT MOST 1048576: true; the input reads as it did. -/
def hazeBeginsUptoRow : OpenClaim := { program := "ytlmmkaadoicogaa", sum := "18bfc2aa4bc0db608285e9576bd161a27f261edf9e82628768fae50b310ba37a", func := "diaphone/diaphonelaw02.HazeBegins", spec := "hazeBegins", apart := false, narrowed := true }
def HazeBeginsUptoSaid : Prop := hazeBeginsUptoRow.holds Try.pinned (OpenSpec.upto hazeBeginsSpec)

/-- 'diaphonetop.TopHaze', WHERE WHAT IT READS IS OF BULK AT MOST 1048576: true; the input reads as it did. -/
def topHazeUptoRow : OpenClaim := { program := "ytlmmkaadoicogaa", sum := "18bfc2aa4bc0db608285e9576bd161a27f261edf9e82628768fae50b310ba37a", func := "diaphone/diaphonetop.TopHaze", spec := "topHaze", apart := false, narrowed := true }
def TopHazeUptoSaid : Prop := topHazeUptoRow.holds Try.pinned (OpenSpec.upto topHazeSpec)

end Rows
end Go.Proofs.Ytlmmkaadoicogaa
