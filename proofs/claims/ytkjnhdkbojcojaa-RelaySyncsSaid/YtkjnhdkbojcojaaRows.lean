/-
  No cell of these rows narrows 'for every input' (looked for: loops, veiled, ifaces, maps, wideKeys, modest, calm, conditions, laid).
  DERIVED. THE GIVEN ROWS OF THIS SEAT. 16 by the template 'for every input the law returns true; each argument reads behind the call as it read before'; 0 by the template 'total and deterministic' (their statements: YtkjnhdkbojcojaaTotals.lean).
  GIVEN WITH THE SEED: the statements are not yours to turn. If you find one false, say at which input.
  Laid BY PROGRAM, IN A SANDBOX (cutbox-rows.mjs): the forced cells as the released guide's own fill.sh prints them over the translation cb6fd45ac2dc06d0… (all of the seat's roots in one cut). By AI agents, Wed Nov 11 2026. No macro, syntax, notation, axiom, sorry.
-/
import Derived.Test.YtkjnhdkbojcojaaChecked
import GoSem.Claim
import GoSem.ClaimJoined
import GoSem.ClaimMapViews
import Derived.JoinedTies
import Derived.KernelRfl
namespace Go.Proofs.Ytkjnhdkbojcojaa
/- THE CELL 'sum', in the pinned program and in every row, IS THE sha256 OF THE DUMP (.gsa) THAT YtkjnhdkbojcojaaProg.lean LOADS. Nothing in Lean hashes anything: it is a label: what it is worth is what the hold of that sum in a sandbox is worth. -/
noncomputable def Try.pinned : Pinned := { name := "ytkjnhdkbojcojaa", sum := "cb6fd45ac2dc06d00646f30e626b5a874803cbaef4b8adc0264034513d7a8db1", checked := Try.checked }
namespace Rows
def none {H : Type} : Left H := { results := [], args := [] }

/-- 'diaphonelaw08.RelayRuns': WHATEVER THE INPUT: true; the input reads as it did. -/
def relayRunsSpec : ChangeSpec := { name := "relayRuns", fn := fun _ => fun
  | [d1, d2] => { results := [.lit (.bool true)], args := [d1, d2] }
  | _ => none }
def relayRunsRow : OpenClaim := { program := "ytkjnhdkbojcojaa", sum := "cb6fd45ac2dc06d00646f30e626b5a874803cbaef4b8adc0264034513d7a8db1", func := "diaphone/diaphonelaw08.RelayRuns", spec := "relayRuns", unfollowed := true, recurses := true, apart := false }
def RelayRunsSaid : Prop := relayRunsRow.holds Try.pinned (OpenSpec.ofChange relayRunsSpec)

/-- ITS FALSE NEIGHBOUR: 'it returns false'. Refute it at one input. -/
def relayRunsWrong : ChangeSpec := { name := "relayRuns", fn := fun _ => fun
  | [d1, d2] => { results := [.lit (.bool false)], args := [d1, d2] }
  | _ => none }
def RelayRunsWrongFalsely : Prop := relayRunsRow.holds Try.pinned (OpenSpec.ofChange relayRunsWrong)

/-- 'diaphonelaw08.RelayReaches': WHATEVER THE INPUT: true; the input reads as it did. -/
def relayReachesSpec : ChangeSpec := { name := "relayReaches", fn := fun _ => fun
  | [d1, d2] => { results := [.lit (.bool true)], args := [d1, d2] }
  | _ => none }
def relayReachesRow : OpenClaim := { program := "ytkjnhdkbojcojaa", sum := "cb6fd45ac2dc06d00646f30e626b5a874803cbaef4b8adc0264034513d7a8db1", func := "diaphone/diaphonelaw08.RelayReaches", spec := "relayReaches", unfollowed := true, recurses := true, apart := false }
def RelayReachesSaid : Prop := relayReachesRow.holds Try.pinned (OpenSpec.ofChange relayReachesSpec)

/-- ITS FALSE NEIGHBOUR: 'it returns false'. Refute it at one input. -/
def relayReachesWrong : ChangeSpec := { name := "relayReaches", fn := fun _ => fun
  | [d1, d2] => { results := [.lit (.bool false)], args := [d1, d2] }
  | _ => none }
def RelayReachesWrongFalsely : Prop := relayReachesRow.holds Try.pinned (OpenSpec.ofChange relayReachesWrong)

/-- 'diaphonelaw08.RelayKinds': WHATEVER THE INPUT: true; the input reads as it did. -/
def relayKindsSpec : ChangeSpec := { name := "relayKinds", fn := fun _ => fun
  | [d] => { results := [.lit (.bool true)], args := [d] }
  | _ => none }
def relayKindsRow : OpenClaim := { program := "ytkjnhdkbojcojaa", sum := "cb6fd45ac2dc06d00646f30e626b5a874803cbaef4b8adc0264034513d7a8db1", func := "diaphone/diaphonelaw08.RelayKinds", spec := "relayKinds", unfollowed := true, recurses := true, apart := false }
def RelayKindsSaid : Prop := relayKindsRow.holds Try.pinned (OpenSpec.ofChange relayKindsSpec)

/-- ITS FALSE NEIGHBOUR: 'it returns false'. Refute it at one input. -/
def relayKindsWrong : ChangeSpec := { name := "relayKinds", fn := fun _ => fun
  | [d] => { results := [.lit (.bool false)], args := [d] }
  | _ => none }
def RelayKindsWrongFalsely : Prop := relayKindsRow.holds Try.pinned (OpenSpec.ofChange relayKindsWrong)

/-- 'diaphonelaw08.RelaySmallest': WHATEVER THE INPUT: true; the input reads as it did. -/
def relaySmallestSpec : ChangeSpec := { name := "relaySmallest", fn := fun _ => fun
  | [d] => { results := [.lit (.bool true)], args := [d] }
  | _ => none }
def relaySmallestRow : OpenClaim := { program := "ytkjnhdkbojcojaa", sum := "cb6fd45ac2dc06d00646f30e626b5a874803cbaef4b8adc0264034513d7a8db1", func := "diaphone/diaphonelaw08.RelaySmallest", spec := "relaySmallest", unfollowed := true, recurses := true, apart := false }
def RelaySmallestSaid : Prop := relaySmallestRow.holds Try.pinned (OpenSpec.ofChange relaySmallestSpec)

/-- ITS FALSE NEIGHBOUR: 'it returns false'. Refute it at one input. -/
def relaySmallestWrong : ChangeSpec := { name := "relaySmallest", fn := fun _ => fun
  | [d] => { results := [.lit (.bool false)], args := [d] }
  | _ => none }
def RelaySmallestWrongFalsely : Prop := relaySmallestRow.holds Try.pinned (OpenSpec.ofChange relaySmallestWrong)

/-- 'diaphonelaw08.RelaySame': WHATEVER THE INPUT: true; the input reads as it did. -/
def relaySameSpec : ChangeSpec := { name := "relaySame", fn := fun _ => fun
  | [d1, d2] => { results := [.lit (.bool true)], args := [d1, d2] }
  | _ => none }
def relaySameRow : OpenClaim := { program := "ytkjnhdkbojcojaa", sum := "cb6fd45ac2dc06d00646f30e626b5a874803cbaef4b8adc0264034513d7a8db1", func := "diaphone/diaphonelaw08.RelaySame", spec := "relaySame", unfollowed := true, recurses := true, apart := false }
def RelaySameSaid : Prop := relaySameRow.holds Try.pinned (OpenSpec.ofChange relaySameSpec)

/-- ITS FALSE NEIGHBOUR: 'it returns false'. Refute it at one input. -/
def relaySameWrong : ChangeSpec := { name := "relaySame", fn := fun _ => fun
  | [d1, d2] => { results := [.lit (.bool false)], args := [d1, d2] }
  | _ => none }
def RelaySameWrongFalsely : Prop := relaySameRow.holds Try.pinned (OpenSpec.ofChange relaySameWrong)

/-- 'diaphonelaw08.RelayTells': WHATEVER THE INPUT: true; the input reads as it did. -/
def relayTellsSpec : ChangeSpec := { name := "relayTells", fn := fun _ => fun
  | [d1, d2] => { results := [.lit (.bool true)], args := [d1, d2] }
  | _ => none }
def relayTellsRow : OpenClaim := { program := "ytkjnhdkbojcojaa", sum := "cb6fd45ac2dc06d00646f30e626b5a874803cbaef4b8adc0264034513d7a8db1", func := "diaphone/diaphonelaw08.RelayTells", spec := "relayTells", unfollowed := true, recurses := true, apart := false }
def RelayTellsSaid : Prop := relayTellsRow.holds Try.pinned (OpenSpec.ofChange relayTellsSpec)

/-- ITS FALSE NEIGHBOUR: 'it returns false'. Refute it at one input. -/
def relayTellsWrong : ChangeSpec := { name := "relayTells", fn := fun _ => fun
  | [d1, d2] => { results := [.lit (.bool false)], args := [d1, d2] }
  | _ => none }
def RelayTellsWrongFalsely : Prop := relayTellsRow.holds Try.pinned (OpenSpec.ofChange relayTellsWrong)

/-- 'diaphonelaw08.RelayAnswers': WHATEVER THE INPUT: true; the input reads as it did. -/
def relayAnswersSpec : ChangeSpec := { name := "relayAnswers", fn := fun _ => fun
  | [d1, d2, d3] => { results := [.lit (.bool true)], args := [d1, d2, d3] }
  | _ => none }
def relayAnswersRow : OpenClaim := { program := "ytkjnhdkbojcojaa", sum := "cb6fd45ac2dc06d00646f30e626b5a874803cbaef4b8adc0264034513d7a8db1", func := "diaphone/diaphonelaw08.RelayAnswers", spec := "relayAnswers", unfollowed := true, recurses := true, apart := false }
def RelayAnswersSaid : Prop := relayAnswersRow.holds Try.pinned (OpenSpec.ofChange relayAnswersSpec)

/-- ITS FALSE NEIGHBOUR: 'it returns false'. Refute it at one input. -/
def relayAnswersWrong : ChangeSpec := { name := "relayAnswers", fn := fun _ => fun
  | [d1, d2, d3] => { results := [.lit (.bool false)], args := [d1, d2, d3] }
  | _ => none }
def RelayAnswersWrongFalsely : Prop := relayAnswersRow.holds Try.pinned (OpenSpec.ofChange relayAnswersWrong)

/-- 'diaphonelaw08.RelayApart': WHATEVER THE INPUT: true; the input reads as it did. -/
def relayApartSpec : ChangeSpec := { name := "relayApart", fn := fun _ => fun
  | [d1, d2] => { results := [.lit (.bool true)], args := [d1, d2] }
  | _ => none }
def relayApartRow : OpenClaim := { program := "ytkjnhdkbojcojaa", sum := "cb6fd45ac2dc06d00646f30e626b5a874803cbaef4b8adc0264034513d7a8db1", func := "diaphone/diaphonelaw08.RelayApart", spec := "relayApart", unfollowed := true, recurses := true, apart := false }
def RelayApartSaid : Prop := relayApartRow.holds Try.pinned (OpenSpec.ofChange relayApartSpec)

/-- ITS FALSE NEIGHBOUR: 'it returns false'. Refute it at one input. -/
def relayApartWrong : ChangeSpec := { name := "relayApart", fn := fun _ => fun
  | [d1, d2] => { results := [.lit (.bool false)], args := [d1, d2] }
  | _ => none }
def RelayApartWrongFalsely : Prop := relayApartRow.holds Try.pinned (OpenSpec.ofChange relayApartWrong)

/-- 'diaphonelaw08.RelaySyncs': WHATEVER THE INPUT: true; the input reads as it did. -/
def relaySyncsSpec : ChangeSpec := { name := "relaySyncs", fn := fun _ => fun
  | [d] => { results := [.lit (.bool true)], args := [d] }
  | _ => none }
def relaySyncsRow : OpenClaim := { program := "ytkjnhdkbojcojaa", sum := "cb6fd45ac2dc06d00646f30e626b5a874803cbaef4b8adc0264034513d7a8db1", func := "diaphone/diaphonelaw08.RelaySyncs", spec := "relaySyncs", unfollowed := true, recurses := true, apart := false }
def RelaySyncsSaid : Prop := relaySyncsRow.holds Try.pinned (OpenSpec.ofChange relaySyncsSpec)

/-- ITS FALSE NEIGHBOUR: 'it returns false'. Refute it at one input. -/
def relaySyncsWrong : ChangeSpec := { name := "relaySyncs", fn := fun _ => fun
  | [d] => { results := [.lit (.bool false)], args := [d] }
  | _ => none }
def RelaySyncsWrongFalsely : Prop := relaySyncsRow.holds Try.pinned (OpenSpec.ofChange relaySyncsWrong)

/-- 'diaphonelaw08.RelayCounts': WHATEVER THE INPUT: true; the input reads as it did. -/
def relayCountsSpec : ChangeSpec := { name := "relayCounts", fn := fun _ => fun
  | [d1, d2, d3] => { results := [.lit (.bool true)], args := [d1, d2, d3] }
  | _ => none }
def relayCountsRow : OpenClaim := { program := "ytkjnhdkbojcojaa", sum := "cb6fd45ac2dc06d00646f30e626b5a874803cbaef4b8adc0264034513d7a8db1", func := "diaphone/diaphonelaw08.RelayCounts", spec := "relayCounts", unfollowed := true, recurses := true, apart := false }
def RelayCountsSaid : Prop := relayCountsRow.holds Try.pinned (OpenSpec.ofChange relayCountsSpec)

/-- ITS FALSE NEIGHBOUR: 'it returns false'. Refute it at one input. -/
def relayCountsWrong : ChangeSpec := { name := "relayCounts", fn := fun _ => fun
  | [d1, d2, d3] => { results := [.lit (.bool false)], args := [d1, d2, d3] }
  | _ => none }
def RelayCountsWrongFalsely : Prop := relayCountsRow.holds Try.pinned (OpenSpec.ofChange relayCountsWrong)

/-- 'diaphonelaw08.RelayRenames': WHATEVER THE INPUT: true; the input reads as it did. -/
def relayRenamesSpec : ChangeSpec := { name := "relayRenames", fn := fun _ => fun
  | [d1, d2, d3] => { results := [.lit (.bool true)], args := [d1, d2, d3] }
  | _ => none }
def relayRenamesRow : OpenClaim := { program := "ytkjnhdkbojcojaa", sum := "cb6fd45ac2dc06d00646f30e626b5a874803cbaef4b8adc0264034513d7a8db1", func := "diaphone/diaphonelaw08.RelayRenames", spec := "relayRenames", unfollowed := true, recurses := true, apart := false }
def RelayRenamesSaid : Prop := relayRenamesRow.holds Try.pinned (OpenSpec.ofChange relayRenamesSpec)

/-- ITS FALSE NEIGHBOUR: 'it returns false'. Refute it at one input. -/
def relayRenamesWrong : ChangeSpec := { name := "relayRenames", fn := fun _ => fun
  | [d1, d2, d3] => { results := [.lit (.bool false)], args := [d1, d2, d3] }
  | _ => none }
def RelayRenamesWrongFalsely : Prop := relayRenamesRow.holds Try.pinned (OpenSpec.ofChange relayRenamesWrong)

/-- 'diaphonelaw08.RelayFroms': WHATEVER THE INPUT: true; the input reads as it did. -/
def relayFromsSpec : ChangeSpec := { name := "relayFroms", fn := fun _ => fun
  | [d1, d2] => { results := [.lit (.bool true)], args := [d1, d2] }
  | _ => none }
def relayFromsRow : OpenClaim := { program := "ytkjnhdkbojcojaa", sum := "cb6fd45ac2dc06d00646f30e626b5a874803cbaef4b8adc0264034513d7a8db1", func := "diaphone/diaphonelaw08.RelayFroms", spec := "relayFroms", unfollowed := true, recurses := true, apart := false }
def RelayFromsSaid : Prop := relayFromsRow.holds Try.pinned (OpenSpec.ofChange relayFromsSpec)

/-- ITS FALSE NEIGHBOUR: 'it returns false'. Refute it at one input. -/
def relayFromsWrong : ChangeSpec := { name := "relayFroms", fn := fun _ => fun
  | [d1, d2] => { results := [.lit (.bool false)], args := [d1, d2] }
  | _ => none }
def RelayFromsWrongFalsely : Prop := relayFromsRow.holds Try.pinned (OpenSpec.ofChange relayFromsWrong)

/-- 'diaphonelaw08.RelayLates': WHATEVER THE INPUT: true; the input reads as it did. -/
def relayLatesSpec : ChangeSpec := { name := "relayLates", fn := fun _ => fun
  | [d1, d2] => { results := [.lit (.bool true)], args := [d1, d2] }
  | _ => none }
def relayLatesRow : OpenClaim := { program := "ytkjnhdkbojcojaa", sum := "cb6fd45ac2dc06d00646f30e626b5a874803cbaef4b8adc0264034513d7a8db1", func := "diaphone/diaphonelaw08.RelayLates", spec := "relayLates", unfollowed := true, recurses := true, apart := false }
def RelayLatesSaid : Prop := relayLatesRow.holds Try.pinned (OpenSpec.ofChange relayLatesSpec)

/-- ITS FALSE NEIGHBOUR: 'it returns false'. Refute it at one input. -/
def relayLatesWrong : ChangeSpec := { name := "relayLates", fn := fun _ => fun
  | [d1, d2] => { results := [.lit (.bool false)], args := [d1, d2] }
  | _ => none }
def RelayLatesWrongFalsely : Prop := relayLatesRow.holds Try.pinned (OpenSpec.ofChange relayLatesWrong)

/-- 'diaphonelaw08.RelayTurns': WHATEVER THE INPUT: true; the input reads as it did. -/
def relayTurnsSpec : ChangeSpec := { name := "relayTurns", fn := fun _ => fun
  | [d1, d2] => { results := [.lit (.bool true)], args := [d1, d2] }
  | _ => none }
def relayTurnsRow : OpenClaim := { program := "ytkjnhdkbojcojaa", sum := "cb6fd45ac2dc06d00646f30e626b5a874803cbaef4b8adc0264034513d7a8db1", func := "diaphone/diaphonelaw08.RelayTurns", spec := "relayTurns", unfollowed := true, recurses := true, apart := false }
def RelayTurnsSaid : Prop := relayTurnsRow.holds Try.pinned (OpenSpec.ofChange relayTurnsSpec)

/-- ITS FALSE NEIGHBOUR: 'it returns false'. Refute it at one input. -/
def relayTurnsWrong : ChangeSpec := { name := "relayTurns", fn := fun _ => fun
  | [d1, d2] => { results := [.lit (.bool false)], args := [d1, d2] }
  | _ => none }
def RelayTurnsWrongFalsely : Prop := relayTurnsRow.holds Try.pinned (OpenSpec.ofChange relayTurnsWrong)

/-- 'diaphonelaw08.RelaySignals': WHATEVER THE INPUT: true; the input reads as it did. -/
def relaySignalsSpec : ChangeSpec := { name := "relaySignals", fn := fun _ => fun
  | [d1, d2, d3] => { results := [.lit (.bool true)], args := [d1, d2, d3] }
  | _ => none }
def relaySignalsRow : OpenClaim := { program := "ytkjnhdkbojcojaa", sum := "cb6fd45ac2dc06d00646f30e626b5a874803cbaef4b8adc0264034513d7a8db1", func := "diaphone/diaphonelaw08.RelaySignals", spec := "relaySignals", unfollowed := true, recurses := true, apart := false }
def RelaySignalsSaid : Prop := relaySignalsRow.holds Try.pinned (OpenSpec.ofChange relaySignalsSpec)

/-- ITS FALSE NEIGHBOUR: 'it returns false'. Refute it at one input. -/
def relaySignalsWrong : ChangeSpec := { name := "relaySignals", fn := fun _ => fun
  | [d1, d2, d3] => { results := [.lit (.bool false)], args := [d1, d2, d3] }
  | _ => none }
def RelaySignalsWrongFalsely : Prop := relaySignalsRow.holds Try.pinned (OpenSpec.ofChange relaySignalsWrong)

/-- 'diaphonetop.TopRelays': WHATEVER THE INPUT: true; the input reads as it did. -/
def topRelaysSpec : ChangeSpec := { name := "topRelays", fn := fun _ => fun
  | [d1, d2, d3] => { results := [.lit (.bool true)], args := [d1, d2, d3] }
  | _ => none }
def topRelaysRow : OpenClaim := { program := "ytkjnhdkbojcojaa", sum := "cb6fd45ac2dc06d00646f30e626b5a874803cbaef4b8adc0264034513d7a8db1", func := "diaphone/diaphonetop.TopRelays", spec := "topRelays", unfollowed := true, recurses := true, apart := false }
def TopRelaysSaid : Prop := topRelaysRow.holds Try.pinned (OpenSpec.ofChange topRelaysSpec)

/-- ITS FALSE NEIGHBOUR: 'it returns false'. Refute it at one input. -/
def topRelaysWrong : ChangeSpec := { name := "topRelays", fn := fun _ => fun
  | [d1, d2, d3] => { results := [.lit (.bool false)], args := [d1, d2, d3] }
  | _ => none }
def TopRelaysWrongFalsely : Prop := topRelaysRow.holds Try.pinned (OpenSpec.ofChange topRelaysWrong)

/- THE SECOND FORM. 'bulk': how many values and letters a reading holds, each counted each time it is reached (what is shared counts as often as it is met; a slice's spare places count too). A statement '..UptoSaid' is the law's where the arguments, and the package variables that the reading takes, are together of bulk at most 1048576: NARROWER than '..Said'. Prove '..Said' where nothing that the law and all that it calls make is longer than what came in: it says more and counts as full. Else prove '..UptoSaid'. A law counts once. -/
mutual
def uptoBulk {H : Type} : DataW H → Nat
  | .lit (.string bytes) => bytes.length + 1
  | .lit _ => 1
  | .nil => 1
  | .ptr d => uptoBulk d + 1
  | .slice elems spare => uptoBulkAll elems + uptoBulkAll spare + 1
  | .agg parts => uptoBulkAll parts + 1
  | .iface _ d => uptoBulk d + 1
  | .map entries => uptoBulkEntries entries + 1
  | .held _ => 1
def uptoBulkAll {H : Type} : List (DataW H) → Nat
  | [] => 0
  | d :: r => uptoBulk d + uptoBulkAll r
def uptoBulkEntries {H : Type} : List (Lit × DataW H) → Nat
  | [] => 0
  | x :: r => uptoBulkEntry x + uptoBulkEntries r
def uptoBulkEntry {H : Type} : Lit × DataW H → Nat
  | (.string bytes, d) => bytes.length + uptoBulk d + 1
  | (_, d) => uptoBulk d + 1
 end
def uptoSmall : (H : Type) → List (DataW H) → Bool := fun _ ds => decide (uptoBulkAll ds ≤ 1048576)
def OpenSpec.upto (s : _root_.Go.ChangeSpec) : _root_.Go.OpenSpec := { _root_.Go.OpenSpec.ofChange s with cond := some uptoSmall }

/-- 'diaphonelaw08.RelayRuns', WHERE WHAT IT READS IS OF BULK AT MOST 1048576: true; the input reads as it did. -/
def relayRunsUptoRow : OpenClaim := { program := "ytkjnhdkbojcojaa", sum := "cb6fd45ac2dc06d00646f30e626b5a874803cbaef4b8adc0264034513d7a8db1", func := "diaphone/diaphonelaw08.RelayRuns", spec := "relayRuns", unfollowed := true, recurses := true, apart := false, narrowed := true }
def RelayRunsUptoSaid : Prop := relayRunsUptoRow.holds Try.pinned (OpenSpec.upto relayRunsSpec)

/-- 'diaphonelaw08.RelayReaches', WHERE WHAT IT READS IS OF BULK AT MOST 1048576: true; the input reads as it did. -/
def relayReachesUptoRow : OpenClaim := { program := "ytkjnhdkbojcojaa", sum := "cb6fd45ac2dc06d00646f30e626b5a874803cbaef4b8adc0264034513d7a8db1", func := "diaphone/diaphonelaw08.RelayReaches", spec := "relayReaches", unfollowed := true, recurses := true, apart := false, narrowed := true }
def RelayReachesUptoSaid : Prop := relayReachesUptoRow.holds Try.pinned (OpenSpec.upto relayReachesSpec)

/-- 'diaphonelaw08.RelayKinds', WHERE WHAT IT READS IS OF BULK AT MOST 1048576: true; the input reads as it did. -/
def relayKindsUptoRow : OpenClaim := { program := "ytkjnhdkbojcojaa", sum := "cb6fd45ac2dc06d00646f30e626b5a874803cbaef4b8adc0264034513d7a8db1", func := "diaphone/diaphonelaw08.RelayKinds", spec := "relayKinds", unfollowed := true, recurses := true, apart := false, narrowed := true }
def RelayKindsUptoSaid : Prop := relayKindsUptoRow.holds Try.pinned (OpenSpec.upto relayKindsSpec)

/-- 'diaphonelaw08.RelaySmallest', WHERE WHAT IT READS IS OF BULK AT MOST 1048576: true; the input reads as it did. -/
def relaySmallestUptoRow : OpenClaim := { program := "ytkjnhdkbojcojaa", sum := "cb6fd45ac2dc06d00646f30e626b5a874803cbaef4b8adc0264034513d7a8db1", func := "diaphone/diaphonelaw08.RelaySmallest", spec := "relaySmallest", unfollowed := true, recurses := true, apart := false, narrowed := true }
def RelaySmallestUptoSaid : Prop := relaySmallestUptoRow.holds Try.pinned (OpenSpec.upto relaySmallestSpec)

/-- 'diaphonelaw08.RelaySame', WHERE WHAT IT READS IS OF BULK AT MOST 1048576: true; the input reads as it did. -/
def relaySameUptoRow : OpenClaim := { program := "ytkjnhdkbojcojaa", sum := "cb6fd45ac2dc06d00646f30e626b5a874803cbaef4b8adc0264034513d7a8db1", func := "diaphone/diaphonelaw08.RelaySame", spec := "relaySame", unfollowed := true, recurses := true, apart := false, narrowed := true }
def RelaySameUptoSaid : Prop := relaySameUptoRow.holds Try.pinned (OpenSpec.upto relaySameSpec)

/-- 'diaphonelaw08.RelayTells', WHERE WHAT IT READS IS OF BULK AT MOST 1048576: true; the input reads as it did. -/
def relayTellsUptoRow : OpenClaim := { program := "ytkjnhdkbojcojaa", sum := "cb6fd45ac2dc06d00646f30e626b5a874803cbaef4b8adc0264034513d7a8db1", func := "diaphone/diaphonelaw08.RelayTells", spec := "relayTells", unfollowed := true, recurses := true, apart := false, narrowed := true }
def RelayTellsUptoSaid : Prop := relayTellsUptoRow.holds Try.pinned (OpenSpec.upto relayTellsSpec)

/-- 'diaphonelaw08.RelayAnswers', WHERE WHAT IT READS IS OF BULK AT MOST 1048576: true; the input reads as it did. -/
def relayAnswersUptoRow : OpenClaim := { program := "ytkjnhdkbojcojaa", sum := "cb6fd45ac2dc06d00646f30e626b5a874803cbaef4b8adc0264034513d7a8db1", func := "diaphone/diaphonelaw08.RelayAnswers", spec := "relayAnswers", unfollowed := true, recurses := true, apart := false, narrowed := true }
def RelayAnswersUptoSaid : Prop := relayAnswersUptoRow.holds Try.pinned (OpenSpec.upto relayAnswersSpec)

/-- 'diaphonelaw08.RelayApart', WHERE WHAT IT READS IS OF BULK AT MOST 1048576: true; the input reads as it did. -/
def relayApartUptoRow : OpenClaim := { program := "ytkjnhdkbojcojaa", sum := "cb6fd45ac2dc06d00646f30e626b5a874803cbaef4b8adc0264034513d7a8db1", func := "diaphone/diaphonelaw08.RelayApart", spec := "relayApart", unfollowed := true, recurses := true, apart := false, narrowed := true }
def RelayApartUptoSaid : Prop := relayApartUptoRow.holds Try.pinned (OpenSpec.upto relayApartSpec)

/-- 'diaphonelaw08.RelaySyncs', WHERE WHAT IT READS IS OF BULK AT MOST 1048576: true; the input reads as it did. -/
def relaySyncsUptoRow : OpenClaim := { program := "ytkjnhdkbojcojaa", sum := "cb6fd45ac2dc06d00646f30e626b5a874803cbaef4b8adc0264034513d7a8db1", func := "diaphone/diaphonelaw08.RelaySyncs", spec := "relaySyncs", unfollowed := true, recurses := true, apart := false, narrowed := true }
def RelaySyncsUptoSaid : Prop := relaySyncsUptoRow.holds Try.pinned (OpenSpec.upto relaySyncsSpec)

/-- 'diaphonelaw08.RelayCounts', WHERE WHAT IT READS IS OF BULK AT MOST 1048576: true; the input reads as it did. -/
def relayCountsUptoRow : OpenClaim := { program := "ytkjnhdkbojcojaa", sum := "cb6fd45ac2dc06d00646f30e626b5a874803cbaef4b8adc0264034513d7a8db1", func := "diaphone/diaphonelaw08.RelayCounts", spec := "relayCounts", unfollowed := true, recurses := true, apart := false, narrowed := true }
def RelayCountsUptoSaid : Prop := relayCountsUptoRow.holds Try.pinned (OpenSpec.upto relayCountsSpec)

/-- 'diaphonelaw08.RelayRenames', WHERE WHAT IT READS IS OF BULK AT MOST 1048576: true; the input reads as it did. -/
def relayRenamesUptoRow : OpenClaim := { program := "ytkjnhdkbojcojaa", sum := "cb6fd45ac2dc06d00646f30e626b5a874803cbaef4b8adc0264034513d7a8db1", func := "diaphone/diaphonelaw08.RelayRenames", spec := "relayRenames", unfollowed := true, recurses := true, apart := false, narrowed := true }
def RelayRenamesUptoSaid : Prop := relayRenamesUptoRow.holds Try.pinned (OpenSpec.upto relayRenamesSpec)

/-- 'diaphonelaw08.RelayFroms', WHERE WHAT IT READS IS OF BULK AT MOST 1048576: true; the input reads as it did. -/
def relayFromsUptoRow : OpenClaim := { program := "ytkjnhdkbojcojaa", sum := "cb6fd45ac2dc06d00646f30e626b5a874803cbaef4b8adc0264034513d7a8db1", func := "diaphone/diaphonelaw08.RelayFroms", spec := "relayFroms", unfollowed := true, recurses := true, apart := false, narrowed := true }
def RelayFromsUptoSaid : Prop := relayFromsUptoRow.holds Try.pinned (OpenSpec.upto relayFromsSpec)

/-- 'diaphonelaw08.RelayLates', WHERE WHAT IT READS IS OF BULK AT MOST 1048576: true; the input reads as it did. -/
def relayLatesUptoRow : OpenClaim := { program := "ytkjnhdkbojcojaa", sum := "cb6fd45ac2dc06d00646f30e626b5a874803cbaef4b8adc0264034513d7a8db1", func := "diaphone/diaphonelaw08.RelayLates", spec := "relayLates", unfollowed := true, recurses := true, apart := false, narrowed := true }
def RelayLatesUptoSaid : Prop := relayLatesUptoRow.holds Try.pinned (OpenSpec.upto relayLatesSpec)

/-- 'diaphonelaw08.RelayTurns', WHERE WHAT IT READS IS OF BULK AT MOST 1048576: true; the input reads as it did. -/
def relayTurnsUptoRow : OpenClaim := { program := "ytkjnhdkbojcojaa", sum := "cb6fd45ac2dc06d00646f30e626b5a874803cbaef4b8adc0264034513d7a8db1", func := "diaphone/diaphonelaw08.RelayTurns", spec := "relayTurns", unfollowed := true, recurses := true, apart := false, narrowed := true }
def RelayTurnsUptoSaid : Prop := relayTurnsUptoRow.holds Try.pinned (OpenSpec.upto relayTurnsSpec)

/-- 'diaphonelaw08.RelaySignals', WHERE WHAT IT READS IS OF BULK AT MOST 1048576: true; the input reads as it did. -/
def relaySignalsUptoRow : OpenClaim := { program := "ytkjnhdkbojcojaa", sum := "cb6fd45ac2dc06d00646f30e626b5a874803cbaef4b8adc0264034513d7a8db1", func := "diaphone/diaphonelaw08.RelaySignals", spec := "relaySignals", unfollowed := true, recurses := true, apart := false, narrowed := true }
def RelaySignalsUptoSaid : Prop := relaySignalsUptoRow.holds Try.pinned (OpenSpec.upto relaySignalsSpec)

/-- 'diaphonetop.TopRelays', WHERE WHAT IT READS IS OF BULK AT MOST 1048576: true; the input reads as it did. -/
def topRelaysUptoRow : OpenClaim := { program := "ytkjnhdkbojcojaa", sum := "cb6fd45ac2dc06d00646f30e626b5a874803cbaef4b8adc0264034513d7a8db1", func := "diaphone/diaphonetop.TopRelays", spec := "topRelays", unfollowed := true, recurses := true, apart := false, narrowed := true }
def TopRelaysUptoSaid : Prop := topRelaysUptoRow.holds Try.pinned (OpenSpec.upto topRelaysSpec)

end Rows
end Go.Proofs.Ytkjnhdkbojcojaa
