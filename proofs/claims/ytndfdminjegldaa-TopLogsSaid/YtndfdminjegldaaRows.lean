/-
  No cell of these rows narrows 'for every input' (looked for: loops, veiled, ifaces, maps, wideKeys, modest, calm, conditions, laid).
  DERIVED. THE GIVEN ROWS OF THIS SEAT. 15 by the template 'for every input the law returns true; each argument reads behind the call as it read before'; 0 by the template 'total and deterministic' (their statements: YtndfdminjegldaaTotals.lean).
  GIVEN WITH THE SEED: the statements are not yours to turn. If you find one false, say at which input.
  Laid BY PROGRAM, IN A SANDBOX (cutbox-rows.mjs): the forced cells as the released guide's own fill.sh prints them over the translation 120ff1b21ad485ef… (all of the seat's roots in one cut). By AI agents, Wed Nov 11 2026. No macro, syntax, notation, axiom, sorry.
-/
import Derived.Test.YtndfdminjegldaaChecked
import GoSem.Claim
import GoSem.ClaimJoined
import GoSem.ClaimMapViews
import Derived.JoinedTies
import Derived.KernelRfl
namespace Go.Proofs.Ytndfdminjegldaa
/- THE CELL 'sum', in the pinned program and in every row, IS THE sha256 OF THE DUMP (.gsa) THAT YtndfdminjegldaaProg.lean LOADS. Nothing in Lean hashes anything: it is a label: what it is worth is what the hold of that sum in a sandbox is worth. -/
noncomputable def Try.pinned : Pinned := { name := "ytndfdminjegldaa", sum := "120ff1b21ad485ef8055381f036692304b7e2b3cdb0d336a03d038621ce9cddf", checked := Try.checked }
namespace Rows
def none {H : Type} : Left H := { results := [], args := [] }

/-- 'diaphonelaw06.LogPairs': WHATEVER THE INPUT: true; the input reads as it did. -/
def logPairsSpec : ChangeSpec := { name := "logPairs", fn := fun _ => fun
  | [d1, d2] => { results := [.lit (.bool true)], args := [d1, d2] }
  | _ => none }
def logPairsRow : OpenClaim := { program := "ytndfdminjegldaa", sum := "120ff1b21ad485ef8055381f036692304b7e2b3cdb0d336a03d038621ce9cddf", func := "diaphone/diaphonelaw06.LogPairs", spec := "logPairs", unfollowed := true, recurses := true, apart := false }
def LogPairsSaid : Prop := logPairsRow.holds Try.pinned (OpenSpec.ofChange logPairsSpec)

/-- ITS FALSE NEIGHBOUR: 'it returns false'. Refute it at one input. -/
def logPairsWrong : ChangeSpec := { name := "logPairs", fn := fun _ => fun
  | [d1, d2] => { results := [.lit (.bool false)], args := [d1, d2] }
  | _ => none }
def LogPairsWrongFalsely : Prop := logPairsRow.holds Try.pinned (OpenSpec.ofChange logPairsWrong)

/-- 'diaphonelaw06.LogDistances': WHATEVER THE INPUT: true; the input reads as it did. -/
def logDistancesSpec : ChangeSpec := { name := "logDistances", fn := fun _ => fun
  | [d] => { results := [.lit (.bool true)], args := [d] }
  | _ => none }
def logDistancesRow : OpenClaim := { program := "ytndfdminjegldaa", sum := "120ff1b21ad485ef8055381f036692304b7e2b3cdb0d336a03d038621ce9cddf", func := "diaphone/diaphonelaw06.LogDistances", spec := "logDistances", unfollowed := true, recurses := true, apart := false }
def LogDistancesSaid : Prop := logDistancesRow.holds Try.pinned (OpenSpec.ofChange logDistancesSpec)

/-- ITS FALSE NEIGHBOUR: 'it returns false'. Refute it at one input. -/
def logDistancesWrong : ChangeSpec := { name := "logDistances", fn := fun _ => fun
  | [d] => { results := [.lit (.bool false)], args := [d] }
  | _ => none }
def LogDistancesWrongFalsely : Prop := logDistancesRow.holds Try.pinned (OpenSpec.ofChange logDistancesWrong)

/-- 'diaphonelaw06.LogCounts': WHATEVER THE INPUT: true; the input reads as it did. -/
def logCountsSpec : ChangeSpec := { name := "logCounts", fn := fun _ => fun
  | [d] => { results := [.lit (.bool true)], args := [d] }
  | _ => none }
def logCountsRow : OpenClaim := { program := "ytndfdminjegldaa", sum := "120ff1b21ad485ef8055381f036692304b7e2b3cdb0d336a03d038621ce9cddf", func := "diaphone/diaphonelaw06.LogCounts", spec := "logCounts", unfollowed := true, recurses := true, apart := false }
def LogCountsSaid : Prop := logCountsRow.holds Try.pinned (OpenSpec.ofChange logCountsSpec)

/-- ITS FALSE NEIGHBOUR: 'it returns false'. Refute it at one input. -/
def logCountsWrong : ChangeSpec := { name := "logCounts", fn := fun _ => fun
  | [d] => { results := [.lit (.bool false)], args := [d] }
  | _ => none }
def LogCountsWrongFalsely : Prop := logCountsRow.holds Try.pinned (OpenSpec.ofChange logCountsWrong)

/-- 'diaphonelaw06.LogTables': WHATEVER THE INPUT: true; the input reads as it did. -/
def logTablesSpec : ChangeSpec := { name := "logTables", fn := fun _ => fun
  | [d1, d2] => { results := [.lit (.bool true)], args := [d1, d2] }
  | _ => none }
def logTablesRow : OpenClaim := { program := "ytndfdminjegldaa", sum := "120ff1b21ad485ef8055381f036692304b7e2b3cdb0d336a03d038621ce9cddf", func := "diaphone/diaphonelaw06.LogTables", spec := "logTables", unfollowed := true, recurses := true, apart := false }
def LogTablesSaid : Prop := logTablesRow.holds Try.pinned (OpenSpec.ofChange logTablesSpec)

/-- ITS FALSE NEIGHBOUR: 'it returns false'. Refute it at one input. -/
def logTablesWrong : ChangeSpec := { name := "logTables", fn := fun _ => fun
  | [d1, d2] => { results := [.lit (.bool false)], args := [d1, d2] }
  | _ => none }
def LogTablesWrongFalsely : Prop := logTablesRow.holds Try.pinned (OpenSpec.ofChange logTablesWrong)

/-- 'diaphonelaw06.LogProofs': WHATEVER THE INPUT: true; the input reads as it did. -/
def logProofsSpec : ChangeSpec := { name := "logProofs", fn := fun _ => fun
  | [d] => { results := [.lit (.bool true)], args := [d] }
  | _ => none }
def logProofsRow : OpenClaim := { program := "ytndfdminjegldaa", sum := "120ff1b21ad485ef8055381f036692304b7e2b3cdb0d336a03d038621ce9cddf", func := "diaphone/diaphonelaw06.LogProofs", spec := "logProofs", unfollowed := true, recurses := true, apart := false }
def LogProofsSaid : Prop := logProofsRow.holds Try.pinned (OpenSpec.ofChange logProofsSpec)

/-- ITS FALSE NEIGHBOUR: 'it returns false'. Refute it at one input. -/
def logProofsWrong : ChangeSpec := { name := "logProofs", fn := fun _ => fun
  | [d] => { results := [.lit (.bool false)], args := [d] }
  | _ => none }
def LogProofsWrongFalsely : Prop := logProofsRow.holds Try.pinned (OpenSpec.ofChange logProofsWrong)

/-- 'diaphonelaw06.LogTriangles': WHATEVER THE INPUT: true; the input reads as it did. -/
def logTrianglesSpec : ChangeSpec := { name := "logTriangles", fn := fun _ => fun
  | [d1, d2] => { results := [.lit (.bool true)], args := [d1, d2] }
  | _ => none }
def logTrianglesRow : OpenClaim := { program := "ytndfdminjegldaa", sum := "120ff1b21ad485ef8055381f036692304b7e2b3cdb0d336a03d038621ce9cddf", func := "diaphone/diaphonelaw06.LogTriangles", spec := "logTriangles", unfollowed := true, recurses := true, apart := false }
def LogTrianglesSaid : Prop := logTrianglesRow.holds Try.pinned (OpenSpec.ofChange logTrianglesSpec)

/-- ITS FALSE NEIGHBOUR: 'it returns false'. Refute it at one input. -/
def logTrianglesWrong : ChangeSpec := { name := "logTriangles", fn := fun _ => fun
  | [d1, d2] => { results := [.lit (.bool false)], args := [d1, d2] }
  | _ => none }
def LogTrianglesWrongFalsely : Prop := logTrianglesRow.holds Try.pinned (OpenSpec.ofChange logTrianglesWrong)

/-- 'diaphonelaw06.LogParts': WHATEVER THE INPUT: true; the input reads as it did. -/
def logPartsSpec : ChangeSpec := { name := "logParts", fn := fun _ => fun
  | [d] => { results := [.lit (.bool true)], args := [d] }
  | _ => none }
def logPartsRow : OpenClaim := { program := "ytndfdminjegldaa", sum := "120ff1b21ad485ef8055381f036692304b7e2b3cdb0d336a03d038621ce9cddf", func := "diaphone/diaphonelaw06.LogParts", spec := "logParts", unfollowed := true, recurses := true, apart := false }
def LogPartsSaid : Prop := logPartsRow.holds Try.pinned (OpenSpec.ofChange logPartsSpec)

/-- ITS FALSE NEIGHBOUR: 'it returns false'. Refute it at one input. -/
def logPartsWrong : ChangeSpec := { name := "logParts", fn := fun _ => fun
  | [d] => { results := [.lit (.bool false)], args := [d] }
  | _ => none }
def LogPartsWrongFalsely : Prop := logPartsRow.holds Try.pinned (OpenSpec.ofChange logPartsWrong)

/-- 'diaphonelaw06.LogCommons': WHATEVER THE INPUT: true; the input reads as it did. -/
def logCommonsSpec : ChangeSpec := { name := "logCommons", fn := fun _ => fun
  | [d1, d2] => { results := [.lit (.bool true)], args := [d1, d2] }
  | _ => none }
def logCommonsRow : OpenClaim := { program := "ytndfdminjegldaa", sum := "120ff1b21ad485ef8055381f036692304b7e2b3cdb0d336a03d038621ce9cddf", func := "diaphone/diaphonelaw06.LogCommons", spec := "logCommons", unfollowed := true, recurses := true, apart := false }
def LogCommonsSaid : Prop := logCommonsRow.holds Try.pinned (OpenSpec.ofChange logCommonsSpec)

/-- ITS FALSE NEIGHBOUR: 'it returns false'. Refute it at one input. -/
def logCommonsWrong : ChangeSpec := { name := "logCommons", fn := fun _ => fun
  | [d1, d2] => { results := [.lit (.bool false)], args := [d1, d2] }
  | _ => none }
def LogCommonsWrongFalsely : Prop := logCommonsRow.holds Try.pinned (OpenSpec.ofChange logCommonsWrong)

/-- 'diaphonelaw06.LogNearest': WHATEVER THE INPUT: true; the input reads as it did. -/
def logNearestSpec : ChangeSpec := { name := "logNearest", fn := fun _ => fun
  | [d1, d2, d3] => { results := [.lit (.bool true)], args := [d1, d2, d3] }
  | _ => none }
def logNearestRow : OpenClaim := { program := "ytndfdminjegldaa", sum := "120ff1b21ad485ef8055381f036692304b7e2b3cdb0d336a03d038621ce9cddf", func := "diaphone/diaphonelaw06.LogNearest", spec := "logNearest", unfollowed := true, recurses := true, apart := false }
def LogNearestSaid : Prop := logNearestRow.holds Try.pinned (OpenSpec.ofChange logNearestSpec)

/-- ITS FALSE NEIGHBOUR: 'it returns false'. Refute it at one input. -/
def logNearestWrong : ChangeSpec := { name := "logNearest", fn := fun _ => fun
  | [d1, d2, d3] => { results := [.lit (.bool false)], args := [d1, d2, d3] }
  | _ => none }
def LogNearestWrongFalsely : Prop := logNearestRow.holds Try.pinned (OpenSpec.ofChange logNearestWrong)

/-- 'diaphonelaw06.LogWindows': WHATEVER THE INPUT: true; the input reads as it did. -/
def logWindowsSpec : ChangeSpec := { name := "logWindows", fn := fun _ => fun
  | [d] => { results := [.lit (.bool true)], args := [d] }
  | _ => none }
def logWindowsRow : OpenClaim := { program := "ytndfdminjegldaa", sum := "120ff1b21ad485ef8055381f036692304b7e2b3cdb0d336a03d038621ce9cddf", func := "diaphone/diaphonelaw06.LogWindows", spec := "logWindows", unfollowed := true, recurses := true, apart := false }
def LogWindowsSaid : Prop := logWindowsRow.holds Try.pinned (OpenSpec.ofChange logWindowsSpec)

/-- ITS FALSE NEIGHBOUR: 'it returns false'. Refute it at one input. -/
def logWindowsWrong : ChangeSpec := { name := "logWindows", fn := fun _ => fun
  | [d] => { results := [.lit (.bool false)], args := [d] }
  | _ => none }
def LogWindowsWrongFalsely : Prop := logWindowsRow.holds Try.pinned (OpenSpec.ofChange logWindowsWrong)

/-- 'diaphonelaw06.LogBacks': WHATEVER THE INPUT: true; the input reads as it did. -/
def logBacksSpec : ChangeSpec := { name := "logBacks", fn := fun _ => fun
  | [d] => { results := [.lit (.bool true)], args := [d] }
  | _ => none }
def logBacksRow : OpenClaim := { program := "ytndfdminjegldaa", sum := "120ff1b21ad485ef8055381f036692304b7e2b3cdb0d336a03d038621ce9cddf", func := "diaphone/diaphonelaw06.LogBacks", spec := "logBacks", unfollowed := true, recurses := true, apart := false }
def LogBacksSaid : Prop := logBacksRow.holds Try.pinned (OpenSpec.ofChange logBacksSpec)

/-- ITS FALSE NEIGHBOUR: 'it returns false'. Refute it at one input. -/
def logBacksWrong : ChangeSpec := { name := "logBacks", fn := fun _ => fun
  | [d] => { results := [.lit (.bool false)], args := [d] }
  | _ => none }
def LogBacksWrongFalsely : Prop := logBacksRow.holds Try.pinned (OpenSpec.ofChange logBacksWrong)

/-- 'diaphonelaw06.LogSwaps': WHATEVER THE INPUT: true; the input reads as it did. -/
def logSwapsSpec : ChangeSpec := { name := "logSwaps", fn := fun _ => fun
  | [d] => { results := [.lit (.bool true)], args := [d] }
  | _ => none }
def logSwapsRow : OpenClaim := { program := "ytndfdminjegldaa", sum := "120ff1b21ad485ef8055381f036692304b7e2b3cdb0d336a03d038621ce9cddf", func := "diaphone/diaphonelaw06.LogSwaps", spec := "logSwaps", unfollowed := true, recurses := true, apart := false }
def LogSwapsSaid : Prop := logSwapsRow.holds Try.pinned (OpenSpec.ofChange logSwapsSpec)

/-- ITS FALSE NEIGHBOUR: 'it returns false'. Refute it at one input. -/
def logSwapsWrong : ChangeSpec := { name := "logSwaps", fn := fun _ => fun
  | [d] => { results := [.lit (.bool false)], args := [d] }
  | _ => none }
def LogSwapsWrongFalsely : Prop := logSwapsRow.holds Try.pinned (OpenSpec.ofChange logSwapsWrong)

/-- 'diaphonelaw06.LogRenames': WHATEVER THE INPUT: true; the input reads as it did. -/
def logRenamesSpec : ChangeSpec := { name := "logRenames", fn := fun _ => fun
  | [d1, d2] => { results := [.lit (.bool true)], args := [d1, d2] }
  | _ => none }
def logRenamesRow : OpenClaim := { program := "ytndfdminjegldaa", sum := "120ff1b21ad485ef8055381f036692304b7e2b3cdb0d336a03d038621ce9cddf", func := "diaphone/diaphonelaw06.LogRenames", spec := "logRenames", unfollowed := true, recurses := true, apart := false }
def LogRenamesSaid : Prop := logRenamesRow.holds Try.pinned (OpenSpec.ofChange logRenamesSpec)

/-- ITS FALSE NEIGHBOUR: 'it returns false'. Refute it at one input. -/
def logRenamesWrong : ChangeSpec := { name := "logRenames", fn := fun _ => fun
  | [d1, d2] => { results := [.lit (.bool false)], args := [d1, d2] }
  | _ => none }
def LogRenamesWrongFalsely : Prop := logRenamesRow.holds Try.pinned (OpenSpec.ofChange logRenamesWrong)

/-- 'diaphonelaw06.LogInserts': WHATEVER THE INPUT: true; the input reads as it did. -/
def logInsertsSpec : ChangeSpec := { name := "logInserts", fn := fun _ => fun
  | [d1, d2, d3] => { results := [.lit (.bool true)], args := [d1, d2, d3] }
  | _ => none }
def logInsertsRow : OpenClaim := { program := "ytndfdminjegldaa", sum := "120ff1b21ad485ef8055381f036692304b7e2b3cdb0d336a03d038621ce9cddf", func := "diaphone/diaphonelaw06.LogInserts", spec := "logInserts", inPlace := ["slices.overlaps[int]"], unfollowed := true, recurses := true, apart := false }
def LogInsertsSaid : Prop := logInsertsRow.holds Try.pinned (OpenSpec.ofChange logInsertsSpec)

/-- ITS FALSE NEIGHBOUR: 'it returns false'. Refute it at one input. -/
def logInsertsWrong : ChangeSpec := { name := "logInserts", fn := fun _ => fun
  | [d1, d2, d3] => { results := [.lit (.bool false)], args := [d1, d2, d3] }
  | _ => none }
def LogInsertsWrongFalsely : Prop := logInsertsRow.holds Try.pinned (OpenSpec.ofChange logInsertsWrong)

/-- 'diaphonetop.TopLogs': WHATEVER THE INPUT: true; the input reads as it did. -/
def topLogsSpec : ChangeSpec := { name := "topLogs", fn := fun _ => fun
  | [d1, d2] => { results := [.lit (.bool true)], args := [d1, d2] }
  | _ => none }
def topLogsRow : OpenClaim := { program := "ytndfdminjegldaa", sum := "120ff1b21ad485ef8055381f036692304b7e2b3cdb0d336a03d038621ce9cddf", func := "diaphone/diaphonetop.TopLogs", spec := "topLogs", unfollowed := true, recurses := true, apart := false }
def TopLogsSaid : Prop := topLogsRow.holds Try.pinned (OpenSpec.ofChange topLogsSpec)

/-- ITS FALSE NEIGHBOUR: 'it returns false'. Refute it at one input. -/
def topLogsWrong : ChangeSpec := { name := "topLogs", fn := fun _ => fun
  | [d1, d2] => { results := [.lit (.bool false)], args := [d1, d2] }
  | _ => none }
def TopLogsWrongFalsely : Prop := topLogsRow.holds Try.pinned (OpenSpec.ofChange topLogsWrong)

/- THE SECOND FORM. 'bulk': how many values and letters a reading holds, each counted each time it is reached (what is shared counts as often as it is met; a slice's spare places count too). A statement '..UptoSaid' is the law's where the arguments, and the package variables that the reading takes, are together of bulk at most 1048576: NARROWER than '..Said'. Prove '..Said' where nothing that the law and all that it calls make is longer than what came in: it says more and counts as full. Else prove '..UptoSaid'. A law counts once. -/
mutual
def uptoBulk {H : Type} : DataW H → Nat
  | .lit (.string bytes) => bytes.length + 1
  | .lit _ => 1
  | .nil => 1
  | .ptr d => uptoBulk d + 1
  | .slice elems spare => uptoBulkAll elems + uptoBulkAll spare + 1
  | .agg parts => uptoBulkAll parts + 1
  | .iface _ d => uptoBulk d + 1
  | .map entries => uptoBulkEntries entries + 1
  | .held _ => 1
def uptoBulkAll {H : Type} : List (DataW H) → Nat
  | [] => 0
  | d :: r => uptoBulk d + uptoBulkAll r
def uptoBulkEntries {H : Type} : List (Lit × DataW H) → Nat
  | [] => 0
  | x :: r => uptoBulkEntry x + uptoBulkEntries r
def uptoBulkEntry {H : Type} : Lit × DataW H → Nat
  | (.string bytes, d) => bytes.length + uptoBulk d + 1
  | (_, d) => uptoBulk d + 1
 end
def uptoSmall : (H : Type) → List (DataW H) → Bool := fun _ ds => decide (uptoBulkAll ds ≤ 1048576)
def OpenSpec.upto (s : _root_.Go.ChangeSpec) : _root_.Go.OpenSpec := { _root_.Go.OpenSpec.ofChange s with cond := some uptoSmall }

/-- 'diaphonelaw06.LogPairs', WHERE WHAT IT READS IS OF BULK AT MOST 1048576: true; the input reads as it did. -/
def logPairsUptoRow : OpenClaim := { program := "ytndfdminjegldaa", sum := "120ff1b21ad485ef8055381f036692304b7e2b3cdb0d336a03d038621ce9cddf", func := "diaphone/diaphonelaw06.LogPairs", spec := "logPairs", unfollowed := true, recurses := true, apart := false, narrowed := true }
def LogPairsUptoSaid : Prop := logPairsUptoRow.holds Try.pinned (OpenSpec.upto logPairsSpec)

/-- 'diaphonelaw06.LogDistances', WHERE WHAT IT READS IS OF BULK AT MOST 1048576: true; the input reads as it did. -/
def logDistancesUptoRow : OpenClaim := { program := "ytndfdminjegldaa", sum := "120ff1b21ad485ef8055381f036692304b7e2b3cdb0d336a03d038621ce9cddf", func := "diaphone/diaphonelaw06.LogDistances", spec := "logDistances", unfollowed := true, recurses := true, apart := false, narrowed := true }
def LogDistancesUptoSaid : Prop := logDistancesUptoRow.holds Try.pinned (OpenSpec.upto logDistancesSpec)

/-- 'diaphonelaw06.LogCounts', WHERE WHAT IT READS IS OF BULK AT MOST 1048576: true; the input reads as it did. -/
def logCountsUptoRow : OpenClaim := { program := "ytndfdminjegldaa", sum := "120ff1b21ad485ef8055381f036692304b7e2b3cdb0d336a03d038621ce9cddf", func := "diaphone/diaphonelaw06.LogCounts", spec := "logCounts", unfollowed := true, recurses := true, apart := false, narrowed := true }
def LogCountsUptoSaid : Prop := logCountsUptoRow.holds Try.pinned (OpenSpec.upto logCountsSpec)

/-- 'diaphonelaw06.LogTables', WHERE WHAT IT READS IS OF BULK AT MOST 1048576: true; the input reads as it did. -/
def logTablesUptoRow : OpenClaim := { program := "ytndfdminjegldaa", sum := "120ff1b21ad485ef8055381f036692304b7e2b3cdb0d336a03d038621ce9cddf", func := "diaphone/diaphonelaw06.LogTables", spec := "logTables", unfollowed := true, recurses := true, apart := false, narrowed := true }
def LogTablesUptoSaid : Prop := logTablesUptoRow.holds Try.pinned (OpenSpec.upto logTablesSpec)

/-- 'diaphonelaw06.LogProofs', WHERE WHAT IT READS IS OF BULK AT MOST 1048576: true; the input reads as it did. -/
def logProofsUptoRow : OpenClaim := { program := "ytndfdminjegldaa", sum := "120ff1b21ad485ef8055381f036692304b7e2b3cdb0d336a03d038621ce9cddf", func := "diaphone/diaphonelaw06.LogProofs", spec := "logProofs", unfollowed := true, recurses := true, apart := false, narrowed := true }
def LogProofsUptoSaid : Prop := logProofsUptoRow.holds Try.pinned (OpenSpec.upto logProofsSpec)

/-- 'diaphonelaw06.LogTriangles', WHERE WHAT IT READS IS OF BULK AT MOST 1048576: true; the input reads as it did. -/
def logTrianglesUptoRow : OpenClaim := { program := "ytndfdminjegldaa", sum := "120ff1b21ad485ef8055381f036692304b7e2b3cdb0d336a03d038621ce9cddf", func := "diaphone/diaphonelaw06.LogTriangles", spec := "logTriangles", unfollowed := true, recurses := true, apart := false, narrowed := true }
def LogTrianglesUptoSaid : Prop := logTrianglesUptoRow.holds Try.pinned (OpenSpec.upto logTrianglesSpec)

/-- 'diaphonelaw06.LogParts', WHERE WHAT IT READS IS OF BULK AT MOST 1048576: true; the input reads as it did. -/
def logPartsUptoRow : OpenClaim := { program := "ytndfdminjegldaa", sum := "120ff1b21ad485ef8055381f036692304b7e2b3cdb0d336a03d038621ce9cddf", func := "diaphone/diaphonelaw06.LogParts", spec := "logParts", unfollowed := true, recurses := true, apart := false, narrowed := true }
def LogPartsUptoSaid : Prop := logPartsUptoRow.holds Try.pinned (OpenSpec.upto logPartsSpec)

/-- 'diaphonelaw06.LogCommons', WHERE WHAT IT READS IS OF BULK AT MOST 1048576: true; the input reads as it did. -/
def logCommonsUptoRow : OpenClaim := { program := "ytndfdminjegldaa", sum := "120ff1b21ad485ef8055381f036692304b7e2b3cdb0d336a03d038621ce9cddf", func := "diaphone/diaphonelaw06.LogCommons", spec := "logCommons", unfollowed := true, recurses := true, apart := false, narrowed := true }
def LogCommonsUptoSaid : Prop := logCommonsUptoRow.holds Try.pinned (OpenSpec.upto logCommonsSpec)

/-- 'diaphonelaw06.LogNearest', WHERE WHAT IT READS IS OF BULK AT MOST 1048576: true; the input reads as it did. -/
def logNearestUptoRow : OpenClaim := { program := "ytndfdminjegldaa", sum := "120ff1b21ad485ef8055381f036692304b7e2b3cdb0d336a03d038621ce9cddf", func := "diaphone/diaphonelaw06.LogNearest", spec := "logNearest", unfollowed := true, recurses := true, apart := false, narrowed := true }
def LogNearestUptoSaid : Prop := logNearestUptoRow.holds Try.pinned (OpenSpec.upto logNearestSpec)

/-- 'diaphonelaw06.LogWindows', WHERE WHAT IT READS IS OF BULK AT MOST 1048576: true; the input reads as it did. -/
def logWindowsUptoRow : OpenClaim := { program := "ytndfdminjegldaa", sum := "120ff1b21ad485ef8055381f036692304b7e2b3cdb0d336a03d038621ce9cddf", func := "diaphone/diaphonelaw06.LogWindows", spec := "logWindows", unfollowed := true, recurses := true, apart := false, narrowed := true }
def LogWindowsUptoSaid : Prop := logWindowsUptoRow.holds Try.pinned (OpenSpec.upto logWindowsSpec)

/-- 'diaphonelaw06.LogBacks', WHERE WHAT IT READS IS OF BULK AT MOST 1048576: true; the input reads as it did. -/
def logBacksUptoRow : OpenClaim := { program := "ytndfdminjegldaa", sum := "120ff1b21ad485ef8055381f036692304b7e2b3cdb0d336a03d038621ce9cddf", func := "diaphone/diaphonelaw06.LogBacks", spec := "logBacks", unfollowed := true, recurses := true, apart := false, narrowed := true }
def LogBacksUptoSaid : Prop := logBacksUptoRow.holds Try.pinned (OpenSpec.upto logBacksSpec)

/-- 'diaphonelaw06.LogSwaps', WHERE WHAT IT READS IS OF BULK AT MOST 1048576: true; the input reads as it did. -/
def logSwapsUptoRow : OpenClaim := { program := "ytndfdminjegldaa", sum := "120ff1b21ad485ef8055381f036692304b7e2b3cdb0d336a03d038621ce9cddf", func := "diaphone/diaphonelaw06.LogSwaps", spec := "logSwaps", unfollowed := true, recurses := true, apart := false, narrowed := true }
def LogSwapsUptoSaid : Prop := logSwapsUptoRow.holds Try.pinned (OpenSpec.upto logSwapsSpec)

/-- 'diaphonelaw06.LogRenames', WHERE WHAT IT READS IS OF BULK AT MOST 1048576: true; the input reads as it did. -/
def logRenamesUptoRow : OpenClaim := { program := "ytndfdminjegldaa", sum := "120ff1b21ad485ef8055381f036692304b7e2b3cdb0d336a03d038621ce9cddf", func := "diaphone/diaphonelaw06.LogRenames", spec := "logRenames", unfollowed := true, recurses := true, apart := false, narrowed := true }
def LogRenamesUptoSaid : Prop := logRenamesUptoRow.holds Try.pinned (OpenSpec.upto logRenamesSpec)

/-- 'diaphonelaw06.LogInserts', WHERE WHAT IT READS IS OF BULK AT MOST 1048576: true; the input reads as it did. -/
def logInsertsUptoRow : OpenClaim := { program := "ytndfdminjegldaa", sum := "120ff1b21ad485ef8055381f036692304b7e2b3cdb0d336a03d038621ce9cddf", func := "diaphone/diaphonelaw06.LogInserts", spec := "logInserts", inPlace := ["slices.overlaps[int]"], unfollowed := true, recurses := true, apart := false, narrowed := true }
def LogInsertsUptoSaid : Prop := logInsertsUptoRow.holds Try.pinned (OpenSpec.upto logInsertsSpec)

/-- 'diaphonetop.TopLogs', WHERE WHAT IT READS IS OF BULK AT MOST 1048576: true; the input reads as it did. -/
def topLogsUptoRow : OpenClaim := { program := "ytndfdminjegldaa", sum := "120ff1b21ad485ef8055381f036692304b7e2b3cdb0d336a03d038621ce9cddf", func := "diaphone/diaphonetop.TopLogs", spec := "topLogs", unfollowed := true, recurses := true, apart := false, narrowed := true }
def TopLogsUptoSaid : Prop := topLogsUptoRow.holds Try.pinned (OpenSpec.upto topLogsSpec)

end Rows
end Go.Proofs.Ytndfdminjegldaa
