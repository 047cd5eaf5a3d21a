/-
  No cell of these rows narrows 'for every input' (looked for: loops, veiled, ifaces, maps, wideKeys, modest, calm, conditions, laid).
  DERIVED. THE GIVEN ROWS OF THIS SEAT. 16 by the template 'for every input the law returns true; each argument reads behind the call as it read before'; 0 by the template 'total and deterministic' (their statements: YtlhlcchimammlaaTotals.lean).
  GIVEN WITH THE SEED: the statements are not yours to turn. If you find one false, say at which input.
  Laid BY PROGRAM, IN A SANDBOX (cutbox-rows.mjs): the forced cells as the released guide's own fill.sh prints them over the translation 0780765d930bee9e… (all of the seat's roots in one cut). By AI agents, Wed Nov 11 2026. No macro, syntax, notation, axiom, sorry.
-/
import Derived.Test.YtlhlcchimammlaaChecked
import GoSem.Claim
import GoSem.ClaimJoined
import GoSem.ClaimMapViews
import Derived.JoinedTies
import Derived.KernelRfl
namespace Go.Proofs.Ytlhlcchimammlaa
/- THE CELL 'sum', in the pinned program and in every row, IS THE sha256 OF THE DUMP (.gsa) THAT YtlhlcchimammlaaProg.lean LOADS. Nothing in Lean hashes anything: it is a label: what it is worth is what the hold of that sum in a sandbox is worth. -/
noncomputable def Try.pinned : Pinned := { name := "ytlhlcchimammlaa", sum := "0780765d930bee9e2ac7454d56cc69c5c2d4d0e332aeacd90148f5c70c710019", checked := Try.checked }
namespace Rows
def none {H : Type} : Left H := { results := [], args := [] }

/-- 'diaphonelaw07.ChargeWeights': WHATEVER THE INPUT: true; the input reads as it did. -/
def chargeWeightsSpec : ChangeSpec := { name := "chargeWeights", fn := fun _ => fun
  | [d1, d2] => { results := [.lit (.bool true)], args := [d1, d2] }
  | _ => none }
def chargeWeightsRow : OpenClaim := { program := "ytlhlcchimammlaa", sum := "0780765d930bee9e2ac7454d56cc69c5c2d4d0e332aeacd90148f5c70c710019", func := "diaphone/diaphonelaw07.ChargeWeights", spec := "chargeWeights", unfollowed := true, recurses := true, apart := false }
def ChargeWeightsSaid : Prop := chargeWeightsRow.holds Try.pinned (OpenSpec.ofChange chargeWeightsSpec)

/-- ITS FALSE NEIGHBOUR: 'it returns false'. Refute it at one input. -/
def chargeWeightsWrong : ChangeSpec := { name := "chargeWeights", fn := fun _ => fun
  | [d1, d2] => { results := [.lit (.bool false)], args := [d1, d2] }
  | _ => none }
def ChargeWeightsWrongFalsely : Prop := chargeWeightsRow.holds Try.pinned (OpenSpec.ofChange chargeWeightsWrong)

/-- 'diaphonelaw07.ChargeCans': WHATEVER THE INPUT: true; the input reads as it did. -/
def chargeCansSpec : ChangeSpec := { name := "chargeCans", fn := fun _ => fun
  | [d1, d2] => { results := [.lit (.bool true)], args := [d1, d2] }
  | _ => none }
def chargeCansRow : OpenClaim := { program := "ytlhlcchimammlaa", sum := "0780765d930bee9e2ac7454d56cc69c5c2d4d0e332aeacd90148f5c70c710019", func := "diaphone/diaphonelaw07.ChargeCans", spec := "chargeCans", unfollowed := true, recurses := true, apart := false }
def ChargeCansSaid : Prop := chargeCansRow.holds Try.pinned (OpenSpec.ofChange chargeCansSpec)

/-- ITS FALSE NEIGHBOUR: 'it returns false'. Refute it at one input. -/
def chargeCansWrong : ChangeSpec := { name := "chargeCans", fn := fun _ => fun
  | [d1, d2] => { results := [.lit (.bool false)], args := [d1, d2] }
  | _ => none }
def ChargeCansWrongFalsely : Prop := chargeCansRow.holds Try.pinned (OpenSpec.ofChange chargeCansWrong)

/-- 'diaphonelaw07.ChargeFires': WHATEVER THE INPUT: true; the input reads as it did. -/
def chargeFiresSpec : ChangeSpec := { name := "chargeFires", fn := fun _ => fun
  | [d1, d2] => { results := [.lit (.bool true)], args := [d1, d2] }
  | _ => none }
def chargeFiresRow : OpenClaim := { program := "ytlhlcchimammlaa", sum := "0780765d930bee9e2ac7454d56cc69c5c2d4d0e332aeacd90148f5c70c710019", func := "diaphone/diaphonelaw07.ChargeFires", spec := "chargeFires", unfollowed := true, recurses := true, apart := false }
def ChargeFiresSaid : Prop := chargeFiresRow.holds Try.pinned (OpenSpec.ofChange chargeFiresSpec)

/-- ITS FALSE NEIGHBOUR: 'it returns false'. Refute it at one input. -/
def chargeFiresWrong : ChangeSpec := { name := "chargeFires", fn := fun _ => fun
  | [d1, d2] => { results := [.lit (.bool false)], args := [d1, d2] }
  | _ => none }
def ChargeFiresWrongFalsely : Prop := chargeFiresRow.holds Try.pinned (OpenSpec.ofChange chargeFiresWrong)

/-- 'diaphonelaw07.ChargeWays': WHATEVER THE INPUT: true; the input reads as it did. -/
def chargeWaysSpec : ChangeSpec := { name := "chargeWays", fn := fun _ => fun
  | [d1, d2] => { results := [.lit (.bool true)], args := [d1, d2] }
  | _ => none }
def chargeWaysRow : OpenClaim := { program := "ytlhlcchimammlaa", sum := "0780765d930bee9e2ac7454d56cc69c5c2d4d0e332aeacd90148f5c70c710019", func := "diaphone/diaphonelaw07.ChargeWays", spec := "chargeWays", unfollowed := true, recurses := true, apart := false }
def ChargeWaysSaid : Prop := chargeWaysRow.holds Try.pinned (OpenSpec.ofChange chargeWaysSpec)

/-- ITS FALSE NEIGHBOUR: 'it returns false'. Refute it at one input. -/
def chargeWaysWrong : ChangeSpec := { name := "chargeWays", fn := fun _ => fun
  | [d1, d2] => { results := [.lit (.bool false)], args := [d1, d2] }
  | _ => none }
def ChargeWaysWrongFalsely : Prop := chargeWaysRow.holds Try.pinned (OpenSpec.ofChange chargeWaysWrong)

/-- 'diaphonelaw07.ChargeGreedy': WHATEVER THE INPUT: true; the input reads as it did. -/
def chargeGreedySpec : ChangeSpec := { name := "chargeGreedy", fn := fun _ => fun
  | [d1, d2] => { results := [.lit (.bool true)], args := [d1, d2] }
  | _ => none }
def chargeGreedyRow : OpenClaim := { program := "ytlhlcchimammlaa", sum := "0780765d930bee9e2ac7454d56cc69c5c2d4d0e332aeacd90148f5c70c710019", func := "diaphone/diaphonelaw07.ChargeGreedy", spec := "chargeGreedy", unfollowed := true, recurses := true, apart := false }
def ChargeGreedySaid : Prop := chargeGreedyRow.holds Try.pinned (OpenSpec.ofChange chargeGreedySpec)

/-- ITS FALSE NEIGHBOUR: 'it returns false'. Refute it at one input. -/
def chargeGreedyWrong : ChangeSpec := { name := "chargeGreedy", fn := fun _ => fun
  | [d1, d2] => { results := [.lit (.bool false)], args := [d1, d2] }
  | _ => none }
def ChargeGreedyWrongFalsely : Prop := chargeGreedyRow.holds Try.pinned (OpenSpec.ofChange chargeGreedyWrong)

/-- 'diaphonelaw07.ChargeAdds': WHATEVER THE INPUT: true; the input reads as it did. -/
def chargeAddsSpec : ChangeSpec := { name := "chargeAdds", fn := fun _ => fun
  | [d1, d2, d3] => { results := [.lit (.bool true)], args := [d1, d2, d3] }
  | _ => none }
def chargeAddsRow : OpenClaim := { program := "ytlhlcchimammlaa", sum := "0780765d930bee9e2ac7454d56cc69c5c2d4d0e332aeacd90148f5c70c710019", func := "diaphone/diaphonelaw07.ChargeAdds", spec := "chargeAdds", unfollowed := true, recurses := true, apart := false }
def ChargeAddsSaid : Prop := chargeAddsRow.holds Try.pinned (OpenSpec.ofChange chargeAddsSpec)

/-- ITS FALSE NEIGHBOUR: 'it returns false'. Refute it at one input. -/
def chargeAddsWrong : ChangeSpec := { name := "chargeAdds", fn := fun _ => fun
  | [d1, d2, d3] => { results := [.lit (.bool false)], args := [d1, d2, d3] }
  | _ => none }
def ChargeAddsWrongFalsely : Prop := chargeAddsRow.holds Try.pinned (OpenSpec.ofChange chargeAddsWrong)

/-- 'diaphonelaw07.ChargeGaps': WHATEVER THE INPUT: true; the input reads as it did. -/
def chargeGapsSpec : ChangeSpec := { name := "chargeGaps", fn := fun _ => fun
  | [d] => { results := [.lit (.bool true)], args := [d] }
  | _ => none }
def chargeGapsRow : OpenClaim := { program := "ytlhlcchimammlaa", sum := "0780765d930bee9e2ac7454d56cc69c5c2d4d0e332aeacd90148f5c70c710019", func := "diaphone/diaphonelaw07.ChargeGaps", spec := "chargeGaps", unfollowed := true, recurses := true, apart := false }
def ChargeGapsSaid : Prop := chargeGapsRow.holds Try.pinned (OpenSpec.ofChange chargeGapsSpec)

/-- ITS FALSE NEIGHBOUR: 'it returns false'. Refute it at one input. -/
def chargeGapsWrong : ChangeSpec := { name := "chargeGaps", fn := fun _ => fun
  | [d] => { results := [.lit (.bool false)], args := [d] }
  | _ => none }
def ChargeGapsWrongFalsely : Prop := chargeGapsRow.holds Try.pinned (OpenSpec.ofChange chargeGapsWrong)

/-- 'diaphonelaw07.ChargeAbove': WHATEVER THE INPUT: true; the input reads as it did. -/
def chargeAboveSpec : ChangeSpec := { name := "chargeAbove", fn := fun _ => fun
  | [d1, d2] => { results := [.lit (.bool true)], args := [d1, d2] }
  | _ => none }
def chargeAboveRow : OpenClaim := { program := "ytlhlcchimammlaa", sum := "0780765d930bee9e2ac7454d56cc69c5c2d4d0e332aeacd90148f5c70c710019", func := "diaphone/diaphonelaw07.ChargeAbove", spec := "chargeAbove", unfollowed := true, recurses := true, apart := false }
def ChargeAboveSaid : Prop := chargeAboveRow.holds Try.pinned (OpenSpec.ofChange chargeAboveSpec)

/-- ITS FALSE NEIGHBOUR: 'it returns false'. Refute it at one input. -/
def chargeAboveWrong : ChangeSpec := { name := "chargeAbove", fn := fun _ => fun
  | [d1, d2] => { results := [.lit (.bool false)], args := [d1, d2] }
  | _ => none }
def ChargeAboveWrongFalsely : Prop := chargeAboveRow.holds Try.pinned (OpenSpec.ofChange chargeAboveWrong)

/-- 'diaphonelaw07.ChargeResidues': WHATEVER THE INPUT: true; the input reads as it did. -/
def chargeResiduesSpec : ChangeSpec := { name := "chargeResidues", fn := fun _ => fun
  | [d] => { results := [.lit (.bool true)], args := [d] }
  | _ => none }
def chargeResiduesRow : OpenClaim := { program := "ytlhlcchimammlaa", sum := "0780765d930bee9e2ac7454d56cc69c5c2d4d0e332aeacd90148f5c70c710019", func := "diaphone/diaphonelaw07.ChargeResidues", spec := "chargeResidues", unfollowed := true, recurses := true, apart := false }
def ChargeResiduesSaid : Prop := chargeResiduesRow.holds Try.pinned (OpenSpec.ofChange chargeResiduesSpec)

/-- ITS FALSE NEIGHBOUR: 'it returns false'. Refute it at one input. -/
def chargeResiduesWrong : ChangeSpec := { name := "chargeResidues", fn := fun _ => fun
  | [d] => { results := [.lit (.bool false)], args := [d] }
  | _ => none }
def ChargeResiduesWrongFalsely : Prop := chargeResiduesRow.holds Try.pinned (OpenSpec.ofChange chargeResiduesWrong)

/-- 'diaphonelaw07.ChargeRests': WHATEVER THE INPUT: true; the input reads as it did. -/
def chargeRestsSpec : ChangeSpec := { name := "chargeRests", fn := fun _ => fun
  | [d1, d2] => { results := [.lit (.bool true)], args := [d1, d2] }
  | _ => none }
def chargeRestsRow : OpenClaim := { program := "ytlhlcchimammlaa", sum := "0780765d930bee9e2ac7454d56cc69c5c2d4d0e332aeacd90148f5c70c710019", func := "diaphone/diaphonelaw07.ChargeRests", spec := "chargeRests", unfollowed := true, recurses := true, apart := false }
def ChargeRestsSaid : Prop := chargeRestsRow.holds Try.pinned (OpenSpec.ofChange chargeRestsSpec)

/-- ITS FALSE NEIGHBOUR: 'it returns false'. Refute it at one input. -/
def chargeRestsWrong : ChangeSpec := { name := "chargeRests", fn := fun _ => fun
  | [d1, d2] => { results := [.lit (.bool false)], args := [d1, d2] }
  | _ => none }
def ChargeRestsWrongFalsely : Prop := chargeRestsRow.holds Try.pinned (OpenSpec.ofChange chargeRestsWrong)

/-- 'diaphonelaw07.ChargeEven': WHATEVER THE INPUT: true; the input reads as it did. -/
def chargeEvenSpec : ChangeSpec := { name := "chargeEven", fn := fun _ => fun
  | [d] => { results := [.lit (.bool true)], args := [d] }
  | _ => none }
def chargeEvenRow : OpenClaim := { program := "ytlhlcchimammlaa", sum := "0780765d930bee9e2ac7454d56cc69c5c2d4d0e332aeacd90148f5c70c710019", func := "diaphone/diaphonelaw07.ChargeEven", spec := "chargeEven", unfollowed := true, recurses := true, apart := false }
def ChargeEvenSaid : Prop := chargeEvenRow.holds Try.pinned (OpenSpec.ofChange chargeEvenSpec)

/-- ITS FALSE NEIGHBOUR: 'it returns false'. Refute it at one input. -/
def chargeEvenWrong : ChangeSpec := { name := "chargeEven", fn := fun _ => fun
  | [d] => { results := [.lit (.bool false)], args := [d] }
  | _ => none }
def ChargeEvenWrongFalsely : Prop := chargeEvenRow.holds Try.pinned (OpenSpec.ofChange chargeEvenWrong)

/-- 'diaphonelaw07.ChargeNeedless': WHATEVER THE INPUT: true; the input reads as it did. -/
def chargeNeedlessSpec : ChangeSpec := { name := "chargeNeedless", fn := fun _ => fun
  | [d] => { results := [.lit (.bool true)], args := [d] }
  | _ => none }
def chargeNeedlessRow : OpenClaim := { program := "ytlhlcchimammlaa", sum := "0780765d930bee9e2ac7454d56cc69c5c2d4d0e332aeacd90148f5c70c710019", func := "diaphone/diaphonelaw07.ChargeNeedless", spec := "chargeNeedless", unfollowed := true, recurses := true, apart := false }
def ChargeNeedlessSaid : Prop := chargeNeedlessRow.holds Try.pinned (OpenSpec.ofChange chargeNeedlessSpec)

/-- ITS FALSE NEIGHBOUR: 'it returns false'. Refute it at one input. -/
def chargeNeedlessWrong : ChangeSpec := { name := "chargeNeedless", fn := fun _ => fun
  | [d] => { results := [.lit (.bool false)], args := [d] }
  | _ => none }
def ChargeNeedlessWrongFalsely : Prop := chargeNeedlessRow.holds Try.pinned (OpenSpec.ofChange chargeNeedlessWrong)

/-- 'diaphonelaw07.ChargeSame': WHATEVER THE INPUT: true; the input reads as it did. -/
def chargeSameSpec : ChangeSpec := { name := "chargeSame", fn := fun _ => fun
  | [d1, d2] => { results := [.lit (.bool true)], args := [d1, d2] }
  | _ => none }
def chargeSameRow : OpenClaim := { program := "ytlhlcchimammlaa", sum := "0780765d930bee9e2ac7454d56cc69c5c2d4d0e332aeacd90148f5c70c710019", func := "diaphone/diaphonelaw07.ChargeSame", spec := "chargeSame", unfollowed := true, recurses := true, apart := false }
def ChargeSameSaid : Prop := chargeSameRow.holds Try.pinned (OpenSpec.ofChange chargeSameSpec)

/-- ITS FALSE NEIGHBOUR: 'it returns false'. Refute it at one input. -/
def chargeSameWrong : ChangeSpec := { name := "chargeSame", fn := fun _ => fun
  | [d1, d2] => { results := [.lit (.bool false)], args := [d1, d2] }
  | _ => none }
def ChargeSameWrongFalsely : Prop := chargeSameRow.holds Try.pinned (OpenSpec.ofChange chargeSameWrong)

/-- 'diaphonelaw07.ChargeTimes': WHATEVER THE INPUT: true; the input reads as it did. -/
def chargeTimesSpec : ChangeSpec := { name := "chargeTimes", fn := fun _ => fun
  | [d1, d2, d3] => { results := [.lit (.bool true)], args := [d1, d2, d3] }
  | _ => none }
def chargeTimesRow : OpenClaim := { program := "ytlhlcchimammlaa", sum := "0780765d930bee9e2ac7454d56cc69c5c2d4d0e332aeacd90148f5c70c710019", func := "diaphone/diaphonelaw07.ChargeTimes", spec := "chargeTimes", unfollowed := true, recurses := true, apart := false }
def ChargeTimesSaid : Prop := chargeTimesRow.holds Try.pinned (OpenSpec.ofChange chargeTimesSpec)

/-- ITS FALSE NEIGHBOUR: 'it returns false'. Refute it at one input. -/
def chargeTimesWrong : ChangeSpec := { name := "chargeTimes", fn := fun _ => fun
  | [d1, d2, d3] => { results := [.lit (.bool false)], args := [d1, d2, d3] }
  | _ => none }
def ChargeTimesWrongFalsely : Prop := chargeTimesRow.holds Try.pinned (OpenSpec.ofChange chargeTimesWrong)

/-- 'diaphonelaw07.ChargeWith': WHATEVER THE INPUT: true; the input reads as it did. -/
def chargeWithSpec : ChangeSpec := { name := "chargeWith", fn := fun _ => fun
  | [d1, d2, d3] => { results := [.lit (.bool true)], args := [d1, d2, d3] }
  | _ => none }
def chargeWithRow : OpenClaim := { program := "ytlhlcchimammlaa", sum := "0780765d930bee9e2ac7454d56cc69c5c2d4d0e332aeacd90148f5c70c710019", func := "diaphone/diaphonelaw07.ChargeWith", spec := "chargeWith", inPlace := ["slices.overlaps[int]"], unfollowed := true, recurses := true, apart := false }
def ChargeWithSaid : Prop := chargeWithRow.holds Try.pinned (OpenSpec.ofChange chargeWithSpec)

/-- ITS FALSE NEIGHBOUR: 'it returns false'. Refute it at one input. -/
def chargeWithWrong : ChangeSpec := { name := "chargeWith", fn := fun _ => fun
  | [d1, d2, d3] => { results := [.lit (.bool false)], args := [d1, d2, d3] }
  | _ => none }
def ChargeWithWrongFalsely : Prop := chargeWithRow.holds Try.pinned (OpenSpec.ofChange chargeWithWrong)

/-- 'diaphonetop.TopCharges': WHATEVER THE INPUT: true; the input reads as it did. -/
def topChargesSpec : ChangeSpec := { name := "topCharges", fn := fun _ => fun
  | [d1, d2, d3] => { results := [.lit (.bool true)], args := [d1, d2, d3] }
  | _ => none }
def topChargesRow : OpenClaim := { program := "ytlhlcchimammlaa", sum := "0780765d930bee9e2ac7454d56cc69c5c2d4d0e332aeacd90148f5c70c710019", func := "diaphone/diaphonetop.TopCharges", spec := "topCharges", inPlace := ["slices.overlaps[int]"], unfollowed := true, recurses := true, apart := false }
def TopChargesSaid : Prop := topChargesRow.holds Try.pinned (OpenSpec.ofChange topChargesSpec)

/-- ITS FALSE NEIGHBOUR: 'it returns false'. Refute it at one input. -/
def topChargesWrong : ChangeSpec := { name := "topCharges", fn := fun _ => fun
  | [d1, d2, d3] => { results := [.lit (.bool false)], args := [d1, d2, d3] }
  | _ => none }
def TopChargesWrongFalsely : Prop := topChargesRow.holds Try.pinned (OpenSpec.ofChange topChargesWrong)

/- THE SECOND FORM. 'bulk': how many values and letters a reading holds, each counted each time it is reached (what is shared counts as often as it is met; a slice's spare places count too). A statement '..UptoSaid' is the law's where the arguments, and the package variables that the reading takes, are together of bulk at most 1048576: NARROWER than '..Said'. Prove '..Said' where nothing that the law and all that it calls make is longer than what came in: it says more and counts as full. Else prove '..UptoSaid'. A law counts once. -/
mutual
def uptoBulk {H : Type} : DataW H → Nat
  | .lit (.string bytes) => bytes.length + 1
  | .lit _ => 1
  | .nil => 1
  | .ptr d => uptoBulk d + 1
  | .slice elems spare => uptoBulkAll elems + uptoBulkAll spare + 1
  | .agg parts => uptoBulkAll parts + 1
  | .iface _ d => uptoBulk d + 1
  | .map entries => uptoBulkEntries entries + 1
  | .held _ => 1
def uptoBulkAll {H : Type} : List (DataW H) → Nat
  | [] => 0
  | d :: r => uptoBulk d + uptoBulkAll r
def uptoBulkEntries {H : Type} : List (Lit × DataW H) → Nat
  | [] => 0
  | x :: r => uptoBulkEntry x + uptoBulkEntries r
def uptoBulkEntry {H : Type} : Lit × DataW H → Nat
  | (.string bytes, d) => bytes.length + uptoBulk d + 1
  | (_, d) => uptoBulk d + 1
 end
def uptoSmall : (H : Type) → List (DataW H) → Bool := fun _ ds => decide (uptoBulkAll ds ≤ 1048576)
def OpenSpec.upto (s : _root_.Go.ChangeSpec) : _root_.Go.OpenSpec := { _root_.Go.OpenSpec.ofChange s with cond := some uptoSmall }

/-- 'diaphonelaw07.ChargeWeights', WHERE WHAT IT READS IS OF BULK AT MOST 1048576: true; the input reads as it did. -/
def chargeWeightsUptoRow : OpenClaim := { program := "ytlhlcchimammlaa", sum := "0780765d930bee9e2ac7454d56cc69c5c2d4d0e332aeacd90148f5c70c710019", func := "diaphone/diaphonelaw07.ChargeWeights", spec := "chargeWeights", unfollowed := true, recurses := true, apart := false, narrowed := true }
def ChargeWeightsUptoSaid : Prop := chargeWeightsUptoRow.holds Try.pinned (OpenSpec.upto chargeWeightsSpec)

/-- 'diaphonelaw07.ChargeCans', WHERE WHAT IT READS IS OF BULK AT MOST 1048576: true; the input reads as it did. -/
def chargeCansUptoRow : OpenClaim := { program := "ytlhlcchimammlaa", sum := "0780765d930bee9e2ac7454d56cc69c5c2d4d0e332aeacd90148f5c70c710019", func := "diaphone/diaphonelaw07.ChargeCans", spec := "chargeCans", unfollowed := true, recurses := true, apart := false, narrowed := true }
def ChargeCansUptoSaid : Prop := chargeCansUptoRow.holds Try.pinned (OpenSpec.upto chargeCansSpec)

/-- 'diaphonelaw07.ChargeFires', WHERE WHAT IT READS IS OF BULK AT MOST 1048576: true; the input reads as it did. -/
def chargeFiresUptoRow : OpenClaim := { program := "ytlhlcchimammlaa", sum := "0780765d930bee9e2ac7454d56cc69c5c2d4d0e332aeacd90148f5c70c710019", func := "diaphone/diaphonelaw07.ChargeFires", spec := "chargeFires", unfollowed := true, recurses := true, apart := false, narrowed := true }
def ChargeFiresUptoSaid : Prop := chargeFiresUptoRow.holds Try.pinned (OpenSpec.upto chargeFiresSpec)

/-- 'diaphonelaw07.ChargeWays', WHERE WHAT IT READS IS OF BULK AT MOST 1048576: true; the input reads as it did. -/
def chargeWaysUptoRow : OpenClaim := { program := "ytlhlcchimammlaa", sum := "0780765d930bee9e2ac7454d56cc69c5c2d4d0e332aeacd90148f5c70c710019", func := "diaphone/diaphonelaw07.ChargeWays", spec := "chargeWays", unfollowed := true, recurses := true, apart := false, narrowed := true }
def ChargeWaysUptoSaid : Prop := chargeWaysUptoRow.holds Try.pinned (OpenSpec.upto chargeWaysSpec)

/-- 'diaphonelaw07.ChargeGreedy', WHERE WHAT IT READS IS OF BULK AT MOST 1048576: true; the input reads as it did. -/
def chargeGreedyUptoRow : OpenClaim := { program := "ytlhlcchimammlaa", sum := "0780765d930bee9e2ac7454d56cc69c5c2d4d0e332aeacd90148f5c70c710019", func := "diaphone/diaphonelaw07.ChargeGreedy", spec := "chargeGreedy", unfollowed := true, recurses := true, apart := false, narrowed := true }
def ChargeGreedyUptoSaid : Prop := chargeGreedyUptoRow.holds Try.pinned (OpenSpec.upto chargeGreedySpec)

/-- 'diaphonelaw07.ChargeAdds', WHERE WHAT IT READS IS OF BULK AT MOST 1048576: true; the input reads as it did. -/
def chargeAddsUptoRow : OpenClaim := { program := "ytlhlcchimammlaa", sum := "0780765d930bee9e2ac7454d56cc69c5c2d4d0e332aeacd90148f5c70c710019", func := "diaphone/diaphonelaw07.ChargeAdds", spec := "chargeAdds", unfollowed := true, recurses := true, apart := false, narrowed := true }
def ChargeAddsUptoSaid : Prop := chargeAddsUptoRow.holds Try.pinned (OpenSpec.upto chargeAddsSpec)

/-- 'diaphonelaw07.ChargeGaps', WHERE WHAT IT READS IS OF BULK AT MOST 1048576: true; the input reads as it did. -/
def chargeGapsUptoRow : OpenClaim := { program := "ytlhlcchimammlaa", sum := "0780765d930bee9e2ac7454d56cc69c5c2d4d0e332aeacd90148f5c70c710019", func := "diaphone/diaphonelaw07.ChargeGaps", spec := "chargeGaps", unfollowed := true, recurses := true, apart := false, narrowed := true }
def ChargeGapsUptoSaid : Prop := chargeGapsUptoRow.holds Try.pinned (OpenSpec.upto chargeGapsSpec)

/-- 'diaphonelaw07.ChargeAbove', WHERE WHAT IT READS IS OF BULK AT MOST 1048576: true; the input reads as it did. -/
def chargeAboveUptoRow : OpenClaim := { program := "ytlhlcchimammlaa", sum := "0780765d930bee9e2ac7454d56cc69c5c2d4d0e332aeacd90148f5c70c710019", func := "diaphone/diaphonelaw07.ChargeAbove", spec := "chargeAbove", unfollowed := true, recurses := true, apart := false, narrowed := true }
def ChargeAboveUptoSaid : Prop := chargeAboveUptoRow.holds Try.pinned (OpenSpec.upto chargeAboveSpec)

/-- 'diaphonelaw07.ChargeResidues', WHERE WHAT IT READS IS OF BULK AT MOST 1048576: true; the input reads as it did. -/
def chargeResiduesUptoRow : OpenClaim := { program := "ytlhlcchimammlaa", sum := "0780765d930bee9e2ac7454d56cc69c5c2d4d0e332aeacd90148f5c70c710019", func := "diaphone/diaphonelaw07.ChargeResidues", spec := "chargeResidues", unfollowed := true, recurses := true, apart := false, narrowed := true }
def ChargeResiduesUptoSaid : Prop := chargeResiduesUptoRow.holds Try.pinned (OpenSpec.upto chargeResiduesSpec)

/-- 'diaphonelaw07.ChargeRests', WHERE WHAT IT READS IS OF BULK AT MOST 1048576: true; the input reads as it did. -/
def chargeRestsUptoRow : OpenClaim := { program := "ytlhlcchimammlaa", sum := "0780765d930bee9e2ac7454d56cc69c5c2d4d0e332aeacd90148f5c70c710019", func := "diaphone/diaphonelaw07.ChargeRests", spec := "chargeRests", unfollowed := true, recurses := true, apart := false, narrowed := true }
def ChargeRestsUptoSaid : Prop := chargeRestsUptoRow.holds Try.pinned (OpenSpec.upto chargeRestsSpec)

/-- 'diaphonelaw07.ChargeEven', WHERE WHAT IT READS IS OF BULK AT MOST 1048576: true; the input reads as it did. -/
def chargeEvenUptoRow : OpenClaim := { program := "ytlhlcchimammlaa", sum := "0780765d930bee9e2ac7454d56cc69c5c2d4d0e332aeacd90148f5c70c710019", func := "diaphone/diaphonelaw07.ChargeEven", spec := "chargeEven", unfollowed := true, recurses := true, apart := false, narrowed := true }
def ChargeEvenUptoSaid : Prop := chargeEvenUptoRow.holds Try.pinned (OpenSpec.upto chargeEvenSpec)

/-- 'diaphonelaw07.ChargeNeedless', WHERE WHAT IT READS IS OF BULK AT MOST 1048576: true; the input reads as it did. -/
def chargeNeedlessUptoRow : OpenClaim := { program := "ytlhlcchimammlaa", sum := "0780765d930bee9e2ac7454d56cc69c5c2d4d0e332aeacd90148f5c70c710019", func := "diaphone/diaphonelaw07.ChargeNeedless", spec := "chargeNeedless", unfollowed := true, recurses := true, apart := false, narrowed := true }
def ChargeNeedlessUptoSaid : Prop := chargeNeedlessUptoRow.holds Try.pinned (OpenSpec.upto chargeNeedlessSpec)

/-- 'diaphonelaw07.ChargeSame', WHERE WHAT IT READS IS OF BULK AT MOST 1048576: true; the input reads as it did. -/
def chargeSameUptoRow : OpenClaim := { program := "ytlhlcchimammlaa", sum := "0780765d930bee9e2ac7454d56cc69c5c2d4d0e332aeacd90148f5c70c710019", func := "diaphone/diaphonelaw07.ChargeSame", spec := "chargeSame", unfollowed := true, recurses := true, apart := false, narrowed := true }
def ChargeSameUptoSaid : Prop := chargeSameUptoRow.holds Try.pinned (OpenSpec.upto chargeSameSpec)

/-- 'diaphonelaw07.ChargeTimes', WHERE WHAT IT READS IS OF BULK AT MOST 1048576: true; the input reads as it did. -/
def chargeTimesUptoRow : OpenClaim := { program := "ytlhlcchimammlaa", sum := "0780765d930bee9e2ac7454d56cc69c5c2d4d0e332aeacd90148f5c70c710019", func := "diaphone/diaphonelaw07.ChargeTimes", spec := "chargeTimes", unfollowed := true, recurses := true, apart := false, narrowed := true }
def ChargeTimesUptoSaid : Prop := chargeTimesUptoRow.holds Try.pinned (OpenSpec.upto chargeTimesSpec)

/-- 'diaphonelaw07.ChargeWith', WHERE WHAT IT READS IS OF BULK AT MOST 1048576: true; the input reads as it did. -/
def chargeWithUptoRow : OpenClaim := { program := "ytlhlcchimammlaa", sum := "0780765d930bee9e2ac7454d56cc69c5c2d4d0e332aeacd90148f5c70c710019", func := "diaphone/diaphonelaw07.ChargeWith", spec := "chargeWith", inPlace := ["slices.overlaps[int]"], unfollowed := true, recurses := true, apart := false, narrowed := true }
def ChargeWithUptoSaid : Prop := chargeWithUptoRow.holds Try.pinned (OpenSpec.upto chargeWithSpec)

/-- 'diaphonetop.TopCharges', WHERE WHAT IT READS IS OF BULK AT MOST 1048576: true; the input reads as it did. -/
def topChargesUptoRow : OpenClaim := { program := "ytlhlcchimammlaa", sum := "0780765d930bee9e2ac7454d56cc69c5c2d4d0e332aeacd90148f5c70c710019", func := "diaphone/diaphonetop.TopCharges", spec := "topCharges", inPlace := ["slices.overlaps[int]"], unfollowed := true, recurses := true, apart := false, narrowed := true }
def TopChargesUptoSaid : Prop := topChargesUptoRow.holds Try.pinned (OpenSpec.upto topChargesSpec)

end Rows
end Go.Proofs.Ytlhlcchimammlaa
