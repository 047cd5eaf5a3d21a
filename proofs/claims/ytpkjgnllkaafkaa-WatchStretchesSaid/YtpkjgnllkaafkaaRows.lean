/-
  No cell of these rows narrows 'for every input' (looked for: loops, veiled, ifaces, maps, wideKeys, modest, calm, conditions, laid).
  DERIVED. THE GIVEN ROWS OF THIS SEAT. 16 by the template 'for every input the law returns true; each argument reads behind the call as it read before'; 0 by the template 'total and deterministic' (their statements: YtpkjgnllkaafkaaTotals.lean).
  GIVEN WITH THE SEED: the statements are not yours to turn. If you find one false, say at which input.
  Laid BY PROGRAM, IN A SANDBOX (cutbox-rows.mjs): the forced cells as the released guide's own fill.sh prints them over the translation 1fd6a79f116a7b38… (all of the seat's roots in one cut). By AI agents, Wed Nov 11 2026. No macro, syntax, notation, axiom, sorry.
-/
import Derived.Test.YtpkjgnllkaafkaaChecked
import GoSem.Claim
import GoSem.ClaimJoined
import GoSem.ClaimMapViews
import Derived.JoinedTies
import Derived.KernelRfl
namespace Go.Proofs.Ytpkjgnllkaafkaa
/- THE CELL 'sum', in the pinned program and in every row, IS THE sha256 OF THE DUMP (.gsa) THAT YtpkjgnllkaafkaaProg.lean LOADS. Nothing in Lean hashes anything: it is a label: what it is worth is what the hold of that sum in a sandbox is worth. -/
noncomputable def Try.pinned : Pinned := { name := "ytpkjgnllkaafkaa", sum := "1fd6a79f116a7b38227d03bc8474602026f1f2b35cff737360374053c7373491", checked := Try.checked }
namespace Rows
def none {H : Type} : Left H := { results := [], args := [] }

/-- 'diaphonelaw04.WatchShifts': WHATEVER THE INPUT: true; the input reads as it did. -/
def watchShiftsSpec : ChangeSpec := { name := "watchShifts", fn := fun _ => fun
  | [d1, d2, d3] => { results := [.lit (.bool true)], args := [d1, d2, d3] }
  | _ => none }
def watchShiftsRow : OpenClaim := { program := "ytpkjgnllkaafkaa", sum := "1fd6a79f116a7b38227d03bc8474602026f1f2b35cff737360374053c7373491", func := "diaphone/diaphonelaw04.WatchShifts", spec := "watchShifts", unfollowed := true, recurses := true, apart := false }
def WatchShiftsSaid : Prop := watchShiftsRow.holds Try.pinned (OpenSpec.ofChange watchShiftsSpec)

/-- ITS FALSE NEIGHBOUR: 'it returns false'. Refute it at one input. -/
def watchShiftsWrong : ChangeSpec := { name := "watchShifts", fn := fun _ => fun
  | [d1, d2, d3] => { results := [.lit (.bool false)], args := [d1, d2, d3] }
  | _ => none }
def WatchShiftsWrongFalsely : Prop := watchShiftsRow.holds Try.pinned (OpenSpec.ofChange watchShiftsWrong)

/-- 'diaphonelaw04.WatchRuns': WHATEVER THE INPUT: true; the input reads as it did. -/
def watchRunsSpec : ChangeSpec := { name := "watchRuns", fn := fun _ => fun
  | [d1, d2] => { results := [.lit (.bool true)], args := [d1, d2] }
  | _ => none }
def watchRunsRow : OpenClaim := { program := "ytpkjgnllkaafkaa", sum := "1fd6a79f116a7b38227d03bc8474602026f1f2b35cff737360374053c7373491", func := "diaphone/diaphonelaw04.WatchRuns", spec := "watchRuns", unfollowed := true, recurses := true, apart := false }
def WatchRunsSaid : Prop := watchRunsRow.holds Try.pinned (OpenSpec.ofChange watchRunsSpec)

/-- ITS FALSE NEIGHBOUR: 'it returns false'. Refute it at one input. -/
def watchRunsWrong : ChangeSpec := { name := "watchRuns", fn := fun _ => fun
  | [d1, d2] => { results := [.lit (.bool false)], args := [d1, d2] }
  | _ => none }
def WatchRunsWrongFalsely : Prop := watchRunsRow.holds Try.pinned (OpenSpec.ofChange watchRunsWrong)

/-- 'diaphonelaw04.WatchRosters': WHATEVER THE INPUT: true; the input reads as it did. -/
def watchRostersSpec : ChangeSpec := { name := "watchRosters", fn := fun _ => fun
  | [d1, d2] => { results := [.lit (.bool true)], args := [d1, d2] }
  | _ => none }
def watchRostersRow : OpenClaim := { program := "ytpkjgnllkaafkaa", sum := "1fd6a79f116a7b38227d03bc8474602026f1f2b35cff737360374053c7373491", func := "diaphone/diaphonelaw04.WatchRosters", spec := "watchRosters", unfollowed := true, recurses := true, apart := false }
def WatchRostersSaid : Prop := watchRostersRow.holds Try.pinned (OpenSpec.ofChange watchRostersSpec)

/-- ITS FALSE NEIGHBOUR: 'it returns false'. Refute it at one input. -/
def watchRostersWrong : ChangeSpec := { name := "watchRosters", fn := fun _ => fun
  | [d1, d2] => { results := [.lit (.bool false)], args := [d1, d2] }
  | _ => none }
def WatchRostersWrongFalsely : Prop := watchRostersRow.holds Try.pinned (OpenSpec.ofChange watchRostersWrong)

/-- 'diaphonelaw04.WatchKeepers': WHATEVER THE INPUT: true; the input reads as it did. -/
def watchKeepersSpec : ChangeSpec := { name := "watchKeepers", fn := fun _ => fun
  | [d] => { results := [.lit (.bool true)], args := [d] }
  | _ => none }
def watchKeepersRow : OpenClaim := { program := "ytpkjgnllkaafkaa", sum := "1fd6a79f116a7b38227d03bc8474602026f1f2b35cff737360374053c7373491", func := "diaphone/diaphonelaw04.WatchKeepers", spec := "watchKeepers", unfollowed := true, recurses := true, apart := false }
def WatchKeepersSaid : Prop := watchKeepersRow.holds Try.pinned (OpenSpec.ofChange watchKeepersSpec)

/-- ITS FALSE NEIGHBOUR: 'it returns false'. Refute it at one input. -/
def watchKeepersWrong : ChangeSpec := { name := "watchKeepers", fn := fun _ => fun
  | [d] => { results := [.lit (.bool false)], args := [d] }
  | _ => none }
def WatchKeepersWrongFalsely : Prop := watchKeepersRow.holds Try.pinned (OpenSpec.ofChange watchKeepersWrong)

/-- 'diaphonelaw04.WatchSets': WHATEVER THE INPUT: true; the input reads as it did. -/
def watchSetsSpec : ChangeSpec := { name := "watchSets", fn := fun _ => fun
  | [d1, d2] => { results := [.lit (.bool true)], args := [d1, d2] }
  | _ => none }
def watchSetsRow : OpenClaim := { program := "ytpkjgnllkaafkaa", sum := "1fd6a79f116a7b38227d03bc8474602026f1f2b35cff737360374053c7373491", func := "diaphone/diaphonelaw04.WatchSets", spec := "watchSets", unfollowed := true, recurses := true, apart := false }
def WatchSetsSaid : Prop := watchSetsRow.holds Try.pinned (OpenSpec.ofChange watchSetsSpec)

/-- ITS FALSE NEIGHBOUR: 'it returns false'. Refute it at one input. -/
def watchSetsWrong : ChangeSpec := { name := "watchSets", fn := fun _ => fun
  | [d1, d2] => { results := [.lit (.bool false)], args := [d1, d2] }
  | _ => none }
def WatchSetsWrongFalsely : Prop := watchSetsRow.holds Try.pinned (OpenSpec.ofChange watchSetsWrong)

/-- 'diaphonelaw04.WatchAlone': WHATEVER THE INPUT: true; the input reads as it did. -/
def watchAloneSpec : ChangeSpec := { name := "watchAlone", fn := fun _ => fun
  | [d] => { results := [.lit (.bool true)], args := [d] }
  | _ => none }
def watchAloneRow : OpenClaim := { program := "ytpkjgnllkaafkaa", sum := "1fd6a79f116a7b38227d03bc8474602026f1f2b35cff737360374053c7373491", func := "diaphone/diaphonelaw04.WatchAlone", spec := "watchAlone", unfollowed := true, recurses := true, apart := false }
def WatchAloneSaid : Prop := watchAloneRow.holds Try.pinned (OpenSpec.ofChange watchAloneSpec)

/-- ITS FALSE NEIGHBOUR: 'it returns false'. Refute it at one input. -/
def watchAloneWrong : ChangeSpec := { name := "watchAlone", fn := fun _ => fun
  | [d] => { results := [.lit (.bool false)], args := [d] }
  | _ => none }
def WatchAloneWrongFalsely : Prop := watchAloneRow.holds Try.pinned (OpenSpec.ofChange watchAloneWrong)

/-- 'diaphonelaw04.WatchLooks': WHATEVER THE INPUT: true; the input reads as it did. -/
def watchLooksSpec : ChangeSpec := { name := "watchLooks", fn := fun _ => fun
  | [d1, d2] => { results := [.lit (.bool true)], args := [d1, d2] }
  | _ => none }
def watchLooksRow : OpenClaim := { program := "ytpkjgnllkaafkaa", sum := "1fd6a79f116a7b38227d03bc8474602026f1f2b35cff737360374053c7373491", func := "diaphone/diaphonelaw04.WatchLooks", spec := "watchLooks", unfollowed := true, recurses := true, apart := false }
def WatchLooksSaid : Prop := watchLooksRow.holds Try.pinned (OpenSpec.ofChange watchLooksSpec)

/-- ITS FALSE NEIGHBOUR: 'it returns false'. Refute it at one input. -/
def watchLooksWrong : ChangeSpec := { name := "watchLooks", fn := fun _ => fun
  | [d1, d2] => { results := [.lit (.bool false)], args := [d1, d2] }
  | _ => none }
def WatchLooksWrongFalsely : Prop := watchLooksRow.holds Try.pinned (OpenSpec.ofChange watchLooksWrong)

/-- 'diaphonelaw04.WatchMoments': WHATEVER THE INPUT: true; the input reads as it did. -/
def watchMomentsSpec : ChangeSpec := { name := "watchMoments", fn := fun _ => fun
  | [d] => { results := [.lit (.bool true)], args := [d] }
  | _ => none }
def watchMomentsRow : OpenClaim := { program := "ytpkjgnllkaafkaa", sum := "1fd6a79f116a7b38227d03bc8474602026f1f2b35cff737360374053c7373491", func := "diaphone/diaphonelaw04.WatchMoments", spec := "watchMoments", unfollowed := true, recurses := true, apart := false }
def WatchMomentsSaid : Prop := watchMomentsRow.holds Try.pinned (OpenSpec.ofChange watchMomentsSpec)

/-- ITS FALSE NEIGHBOUR: 'it returns false'. Refute it at one input. -/
def watchMomentsWrong : ChangeSpec := { name := "watchMoments", fn := fun _ => fun
  | [d] => { results := [.lit (.bool false)], args := [d] }
  | _ => none }
def WatchMomentsWrongFalsely : Prop := watchMomentsRow.holds Try.pinned (OpenSpec.ofChange watchMomentsWrong)

/-- 'diaphonelaw04.WatchEarns': WHATEVER THE INPUT: true; the input reads as it did. -/
def watchEarnsSpec : ChangeSpec := { name := "watchEarns", fn := fun _ => fun
  | [d] => { results := [.lit (.bool true)], args := [d] }
  | _ => none }
def watchEarnsRow : OpenClaim := { program := "ytpkjgnllkaafkaa", sum := "1fd6a79f116a7b38227d03bc8474602026f1f2b35cff737360374053c7373491", func := "diaphone/diaphonelaw04.WatchEarns", spec := "watchEarns", unfollowed := true, recurses := true, apart := false }
def WatchEarnsSaid : Prop := watchEarnsRow.holds Try.pinned (OpenSpec.ofChange watchEarnsSpec)

/-- ITS FALSE NEIGHBOUR: 'it returns false'. Refute it at one input. -/
def watchEarnsWrong : ChangeSpec := { name := "watchEarns", fn := fun _ => fun
  | [d] => { results := [.lit (.bool false)], args := [d] }
  | _ => none }
def WatchEarnsWrongFalsely : Prop := watchEarnsRow.holds Try.pinned (OpenSpec.ofChange watchEarnsWrong)

/-- 'diaphonelaw04.WatchPosts': WHATEVER THE INPUT: true; the input reads as it did. -/
def watchPostsSpec : ChangeSpec := { name := "watchPosts", fn := fun _ => fun
  | [d1, d2] => { results := [.lit (.bool true)], args := [d1, d2] }
  | _ => none }
def watchPostsRow : OpenClaim := { program := "ytpkjgnllkaafkaa", sum := "1fd6a79f116a7b38227d03bc8474602026f1f2b35cff737360374053c7373491", func := "diaphone/diaphonelaw04.WatchPosts", spec := "watchPosts", unfollowed := true, recurses := true, apart := false }
def WatchPostsSaid : Prop := watchPostsRow.holds Try.pinned (OpenSpec.ofChange watchPostsSpec)

/-- ITS FALSE NEIGHBOUR: 'it returns false'. Refute it at one input. -/
def watchPostsWrong : ChangeSpec := { name := "watchPosts", fn := fun _ => fun
  | [d1, d2] => { results := [.lit (.bool false)], args := [d1, d2] }
  | _ => none }
def WatchPostsWrongFalsely : Prop := watchPostsRow.holds Try.pinned (OpenSpec.ofChange watchPostsWrong)

/-- 'diaphonelaw04.WatchPays': WHATEVER THE INPUT: true; the input reads as it did. -/
def watchPaysSpec : ChangeSpec := { name := "watchPays", fn := fun _ => fun
  | [d] => { results := [.lit (.bool true)], args := [d] }
  | _ => none }
def watchPaysRow : OpenClaim := { program := "ytpkjgnllkaafkaa", sum := "1fd6a79f116a7b38227d03bc8474602026f1f2b35cff737360374053c7373491", func := "diaphone/diaphonelaw04.WatchPays", spec := "watchPays", unfollowed := true, recurses := true, apart := false }
def WatchPaysSaid : Prop := watchPaysRow.holds Try.pinned (OpenSpec.ofChange watchPaysSpec)

/-- ITS FALSE NEIGHBOUR: 'it returns false'. Refute it at one input. -/
def watchPaysWrong : ChangeSpec := { name := "watchPays", fn := fun _ => fun
  | [d] => { results := [.lit (.bool false)], args := [d] }
  | _ => none }
def WatchPaysWrongFalsely : Prop := watchPaysRow.holds Try.pinned (OpenSpec.ofChange watchPaysWrong)

/-- 'diaphonelaw04.WatchSpells': WHATEVER THE INPUT: true; the input reads as it did. -/
def watchSpellsSpec : ChangeSpec := { name := "watchSpells", fn := fun _ => fun
  | [d] => { results := [.lit (.bool true)], args := [d] }
  | _ => none }
def watchSpellsRow : OpenClaim := { program := "ytpkjgnllkaafkaa", sum := "1fd6a79f116a7b38227d03bc8474602026f1f2b35cff737360374053c7373491", func := "diaphone/diaphonelaw04.WatchSpells", spec := "watchSpells", unfollowed := true, recurses := true, apart := false }
def WatchSpellsSaid : Prop := watchSpellsRow.holds Try.pinned (OpenSpec.ofChange watchSpellsSpec)

/-- ITS FALSE NEIGHBOUR: 'it returns false'. Refute it at one input. -/
def watchSpellsWrong : ChangeSpec := { name := "watchSpells", fn := fun _ => fun
  | [d] => { results := [.lit (.bool false)], args := [d] }
  | _ => none }
def WatchSpellsWrongFalsely : Prop := watchSpellsRow.holds Try.pinned (OpenSpec.ofChange watchSpellsWrong)

/-- 'diaphonelaw04.WatchMirrors': WHATEVER THE INPUT: true; the input reads as it did. -/
def watchMirrorsSpec : ChangeSpec := { name := "watchMirrors", fn := fun _ => fun
  | [d] => { results := [.lit (.bool true)], args := [d] }
  | _ => none }
def watchMirrorsRow : OpenClaim := { program := "ytpkjgnllkaafkaa", sum := "1fd6a79f116a7b38227d03bc8474602026f1f2b35cff737360374053c7373491", func := "diaphone/diaphonelaw04.WatchMirrors", spec := "watchMirrors", unfollowed := true, recurses := true, apart := false }
def WatchMirrorsSaid : Prop := watchMirrorsRow.holds Try.pinned (OpenSpec.ofChange watchMirrorsSpec)

/-- ITS FALSE NEIGHBOUR: 'it returns false'. Refute it at one input. -/
def watchMirrorsWrong : ChangeSpec := { name := "watchMirrors", fn := fun _ => fun
  | [d] => { results := [.lit (.bool false)], args := [d] }
  | _ => none }
def WatchMirrorsWrongFalsely : Prop := watchMirrorsRow.holds Try.pinned (OpenSpec.ofChange watchMirrorsWrong)

/-- 'diaphonelaw04.WatchWithout': WHATEVER THE INPUT: true; the input reads as it did. -/
def watchWithoutSpec : ChangeSpec := { name := "watchWithout", fn := fun _ => fun
  | [d1, d2] => { results := [.lit (.bool true)], args := [d1, d2] }
  | _ => none }
def watchWithoutRow : OpenClaim := { program := "ytpkjgnllkaafkaa", sum := "1fd6a79f116a7b38227d03bc8474602026f1f2b35cff737360374053c7373491", func := "diaphone/diaphonelaw04.WatchWithout", spec := "watchWithout", unfollowed := true, recurses := true, apart := false }
def WatchWithoutSaid : Prop := watchWithoutRow.holds Try.pinned (OpenSpec.ofChange watchWithoutSpec)

/-- ITS FALSE NEIGHBOUR: 'it returns false'. Refute it at one input. -/
def watchWithoutWrong : ChangeSpec := { name := "watchWithout", fn := fun _ => fun
  | [d1, d2] => { results := [.lit (.bool false)], args := [d1, d2] }
  | _ => none }
def WatchWithoutWrongFalsely : Prop := watchWithoutRow.holds Try.pinned (OpenSpec.ofChange watchWithoutWrong)

/-- 'diaphonelaw04.WatchStretches': WHATEVER THE INPUT: true; the input reads as it did. -/
def watchStretchesSpec : ChangeSpec := { name := "watchStretches", fn := fun _ => fun
  | [d1, d2, d3] => { results := [.lit (.bool true)], args := [d1, d2, d3] }
  | _ => none }
def watchStretchesRow : OpenClaim := { program := "ytpkjgnllkaafkaa", sum := "1fd6a79f116a7b38227d03bc8474602026f1f2b35cff737360374053c7373491", func := "diaphone/diaphonelaw04.WatchStretches", spec := "watchStretches", unfollowed := true, recurses := true, apart := false }
def WatchStretchesSaid : Prop := watchStretchesRow.holds Try.pinned (OpenSpec.ofChange watchStretchesSpec)

/-- ITS FALSE NEIGHBOUR: 'it returns false'. Refute it at one input. -/
def watchStretchesWrong : ChangeSpec := { name := "watchStretches", fn := fun _ => fun
  | [d1, d2, d3] => { results := [.lit (.bool false)], args := [d1, d2, d3] }
  | _ => none }
def WatchStretchesWrongFalsely : Prop := watchStretchesRow.holds Try.pinned (OpenSpec.ofChange watchStretchesWrong)

/-- 'diaphonetop.TopWatches': WHATEVER THE INPUT: true; the input reads as it did. -/
def topWatchesSpec : ChangeSpec := { name := "topWatches", fn := fun _ => fun
  | [d1, d2, d3] => { results := [.lit (.bool true)], args := [d1, d2, d3] }
  | _ => none }
def topWatchesRow : OpenClaim := { program := "ytpkjgnllkaafkaa", sum := "1fd6a79f116a7b38227d03bc8474602026f1f2b35cff737360374053c7373491", func := "diaphone/diaphonetop.TopWatches", spec := "topWatches", unfollowed := true, recurses := true, apart := false }
def TopWatchesSaid : Prop := topWatchesRow.holds Try.pinned (OpenSpec.ofChange topWatchesSpec)

/-- ITS FALSE NEIGHBOUR: 'it returns false'. Refute it at one input. -/
def topWatchesWrong : ChangeSpec := { name := "topWatches", fn := fun _ => fun
  | [d1, d2, d3] => { results := [.lit (.bool false)], args := [d1, d2, d3] }
  | _ => none }
def TopWatchesWrongFalsely : Prop := topWatchesRow.holds Try.pinned (OpenSpec.ofChange topWatchesWrong)

/- THE SECOND FORM. 'bulk': how many values and letters a reading holds, each counted each time it is reached (what is shared counts as often as it is met; a slice's spare places count too). A statement '..UptoSaid' is the law's where the arguments, and the package variables that the reading takes, are together of bulk at most 1048576: NARROWER than '..Said'. Prove '..Said' where nothing that the law and all that it calls make is longer than what came in: it says more and counts as full. Else prove '..UptoSaid'. A law counts once. -/
mutual
def uptoBulk {H : Type} : DataW H → Nat
  | .lit (.string bytes) => bytes.length + 1
  | .lit _ => 1
  | .nil => 1
  | .ptr d => uptoBulk d + 1
  | .slice elems spare => uptoBulkAll elems + uptoBulkAll spare + 1
  | .agg parts => uptoBulkAll parts + 1
  | .iface _ d => uptoBulk d + 1
  | .map entries => uptoBulkEntries entries + 1
  | .held _ => 1
def uptoBulkAll {H : Type} : List (DataW H) → Nat
  | [] => 0
  | d :: r => uptoBulk d + uptoBulkAll r
def uptoBulkEntries {H : Type} : List (Lit × DataW H) → Nat
  | [] => 0
  | x :: r => uptoBulkEntry x + uptoBulkEntries r
def uptoBulkEntry {H : Type} : Lit × DataW H → Nat
  | (.string bytes, d) => bytes.length + uptoBulk d + 1
  | (_, d) => uptoBulk d + 1
 end
def uptoSmall : (H : Type) → List (DataW H) → Bool := fun _ ds => decide (uptoBulkAll ds ≤ 1048576)
def OpenSpec.upto (s : _root_.Go.ChangeSpec) : _root_.Go.OpenSpec := { _root_.Go.OpenSpec.ofChange s with cond := some uptoSmall }

/-- 'diaphonelaw04.WatchShifts', WHERE WHAT IT READS IS OF BULK AT MOST 1048576: true; the input reads as it did. -/
def watchShiftsUptoRow : OpenClaim := { program := "ytpkjgnllkaafkaa", sum := "1fd6a79f116a7b38227d03bc8474602026f1f2b35cff737360374053c7373491", func := "diaphone/diaphonelaw04.WatchShifts", spec := "watchShifts", unfollowed := true, recurses := true, apart := false, narrowed := true }
def WatchShiftsUptoSaid : Prop := watchShiftsUptoRow.holds Try.pinned (OpenSpec.upto watchShiftsSpec)

/-- 'diaphonelaw04.WatchRuns', WHERE WHAT IT READS IS OF BULK AT MOST 1048576: true; the input reads as it did. -/
def watchRunsUptoRow : OpenClaim := { program := "ytpkjgnllkaafkaa", sum := "1fd6a79f116a7b38227d03bc8474602026f1f2b35cff737360374053c7373491", func := "diaphone/diaphonelaw04.WatchRuns", spec := "watchRuns", unfollowed := true, recurses := true, apart := false, narrowed := true }
def WatchRunsUptoSaid : Prop := watchRunsUptoRow.holds Try.pinned (OpenSpec.upto watchRunsSpec)

/-- 'diaphonelaw04.WatchRosters', WHERE WHAT IT READS IS OF BULK AT MOST 1048576: true; the input reads as it did. -/
def watchRostersUptoRow : OpenClaim := { program := "ytpkjgnllkaafkaa", sum := "1fd6a79f116a7b38227d03bc8474602026f1f2b35cff737360374053c7373491", func := "diaphone/diaphonelaw04.WatchRosters", spec := "watchRosters", unfollowed := true, recurses := true, apart := false, narrowed := true }
def WatchRostersUptoSaid : Prop := watchRostersUptoRow.holds Try.pinned (OpenSpec.upto watchRostersSpec)

/-- 'diaphonelaw04.WatchKeepers', WHERE WHAT IT READS IS OF BULK AT MOST 1048576: true; the input reads as it did. -/
def watchKeepersUptoRow : OpenClaim := { program := "ytpkjgnllkaafkaa", sum := "1fd6a79f116a7b38227d03bc8474602026f1f2b35cff737360374053c7373491", func := "diaphone/diaphonelaw04.WatchKeepers", spec := "watchKeepers", unfollowed := true, recurses := true, apart := false, narrowed := true }
def WatchKeepersUptoSaid : Prop := watchKeepersUptoRow.holds Try.pinned (OpenSpec.upto watchKeepersSpec)

/-- 'diaphonelaw04.WatchSets', WHERE WHAT IT READS IS OF BULK AT MOST 1048576: true; the input reads as it did. -/
def watchSetsUptoRow : OpenClaim := { program := "ytpkjgnllkaafkaa", sum := "1fd6a79f116a7b38227d03bc8474602026f1f2b35cff737360374053c7373491", func := "diaphone/diaphonelaw04.WatchSets", spec := "watchSets", unfollowed := true, recurses := true, apart := false, narrowed := true }
def WatchSetsUptoSaid : Prop := watchSetsUptoRow.holds Try.pinned (OpenSpec.upto watchSetsSpec)

/-- 'diaphonelaw04.WatchAlone', WHERE WHAT IT READS IS OF BULK AT MOST 1048576: true; the input reads as it did. -/
def watchAloneUptoRow : OpenClaim := { program := "ytpkjgnllkaafkaa", sum := "1fd6a79f116a7b38227d03bc8474602026f1f2b35cff737360374053c7373491", func := "diaphone/diaphonelaw04.WatchAlone", spec := "watchAlone", unfollowed := true, recurses := true, apart := false, narrowed := true }
def WatchAloneUptoSaid : Prop := watchAloneUptoRow.holds Try.pinned (OpenSpec.upto watchAloneSpec)

/-- 'diaphonelaw04.WatchLooks', WHERE WHAT IT READS IS OF BULK AT MOST 1048576: true; the input reads as it did. -/
def watchLooksUptoRow : OpenClaim := { program := "ytpkjgnllkaafkaa", sum := "1fd6a79f116a7b38227d03bc8474602026f1f2b35cff737360374053c7373491", func := "diaphone/diaphonelaw04.WatchLooks", spec := "watchLooks", unfollowed := true, recurses := true, apart := false, narrowed := true }
def WatchLooksUptoSaid : Prop := watchLooksUptoRow.holds Try.pinned (OpenSpec.upto watchLooksSpec)

/-- 'diaphonelaw04.WatchMoments', WHERE WHAT IT READS IS OF BULK AT MOST 1048576: true; the input reads as it did. -/
def watchMomentsUptoRow : OpenClaim := { program := "ytpkjgnllkaafkaa", sum := "1fd6a79f116a7b38227d03bc8474602026f1f2b35cff737360374053c7373491", func := "diaphone/diaphonelaw04.WatchMoments", spec := "watchMoments", unfollowed := true, recurses := true, apart := false, narrowed := true }
def WatchMomentsUptoSaid : Prop := watchMomentsUptoRow.holds Try.pinned (OpenSpec.upto watchMomentsSpec)

/-- 'diaphonelaw04.WatchEarns', WHERE WHAT IT READS IS OF BULK AT MOST 1048576: true; the input reads as it did. -/
def watchEarnsUptoRow : OpenClaim := { program := "ytpkjgnllkaafkaa", sum := "1fd6a79f116a7b38227d03bc8474602026f1f2b35cff737360374053c7373491", func := "diaphone/diaphonelaw04.WatchEarns", spec := "watchEarns", unfollowed := true, recurses := true, apart := false, narrowed := true }
def WatchEarnsUptoSaid : Prop := watchEarnsUptoRow.holds Try.pinned (OpenSpec.upto watchEarnsSpec)

/-- 'diaphonelaw04.WatchPosts', WHERE WHAT IT READS IS OF BULK AT MOST 1048576: true; the input reads as it did. -/
def watchPostsUptoRow : OpenClaim := { program := "ytpkjgnllkaafkaa", sum := "1fd6a79f116a7b38227d03bc8474602026f1f2b35cff737360374053c7373491", func := "diaphone/diaphonelaw04.WatchPosts", spec := "watchPosts", unfollowed := true, recurses := true, apart := false, narrowed := true }
def WatchPostsUptoSaid : Prop := watchPostsUptoRow.holds Try.pinned (OpenSpec.upto watchPostsSpec)

/-- 'diaphonelaw04.WatchPays', WHERE WHAT IT READS IS OF BULK AT MOST 1048576: true; the input reads as it did. -/
def watchPaysUptoRow : OpenClaim := { program := "ytpkjgnllkaafkaa", sum := "1fd6a79f116a7b38227d03bc8474602026f1f2b35cff737360374053c7373491", func := "diaphone/diaphonelaw04.WatchPays", spec := "watchPays", unfollowed := true, recurses := true, apart := false, narrowed := true }
def WatchPaysUptoSaid : Prop := watchPaysUptoRow.holds Try.pinned (OpenSpec.upto watchPaysSpec)

/-- 'diaphonelaw04.WatchSpells', WHERE WHAT IT READS IS OF BULK AT MOST 1048576: true; the input reads as it did. -/
def watchSpellsUptoRow : OpenClaim := { program := "ytpkjgnllkaafkaa", sum := "1fd6a79f116a7b38227d03bc8474602026f1f2b35cff737360374053c7373491", func := "diaphone/diaphonelaw04.WatchSpells", spec := "watchSpells", unfollowed := true, recurses := true, apart := false, narrowed := true }
def WatchSpellsUptoSaid : Prop := watchSpellsUptoRow.holds Try.pinned (OpenSpec.upto watchSpellsSpec)

/-- 'diaphonelaw04.WatchMirrors', WHERE WHAT IT READS IS OF BULK AT MOST 1048576: true; the input reads as it did. -/
def watchMirrorsUptoRow : OpenClaim := { program := "ytpkjgnllkaafkaa", sum := "1fd6a79f116a7b38227d03bc8474602026f1f2b35cff737360374053c7373491", func := "diaphone/diaphonelaw04.WatchMirrors", spec := "watchMirrors", unfollowed := true, recurses := true, apart := false, narrowed := true }
def WatchMirrorsUptoSaid : Prop := watchMirrorsUptoRow.holds Try.pinned (OpenSpec.upto watchMirrorsSpec)

/-- 'diaphonelaw04.WatchWithout', WHERE WHAT IT READS IS OF BULK AT MOST 1048576: true; the input reads as it did. -/
def watchWithoutUptoRow : OpenClaim := { program := "ytpkjgnllkaafkaa", sum := "1fd6a79f116a7b38227d03bc8474602026f1f2b35cff737360374053c7373491", func := "diaphone/diaphonelaw04.WatchWithout", spec := "watchWithout", unfollowed := true, recurses := true, apart := false, narrowed := true }
def WatchWithoutUptoSaid : Prop := watchWithoutUptoRow.holds Try.pinned (OpenSpec.upto watchWithoutSpec)

/-- 'diaphonelaw04.WatchStretches', WHERE WHAT IT READS IS OF BULK AT MOST 1048576: true; the input reads as it did. -/
def watchStretchesUptoRow : OpenClaim := { program := "ytpkjgnllkaafkaa", sum := "1fd6a79f116a7b38227d03bc8474602026f1f2b35cff737360374053c7373491", func := "diaphone/diaphonelaw04.WatchStretches", spec := "watchStretches", unfollowed := true, recurses := true, apart := false, narrowed := true }
def WatchStretchesUptoSaid : Prop := watchStretchesUptoRow.holds Try.pinned (OpenSpec.upto watchStretchesSpec)

/-- 'diaphonetop.TopWatches', WHERE WHAT IT READS IS OF BULK AT MOST 1048576: true; the input reads as it did. -/
def topWatchesUptoRow : OpenClaim := { program := "ytpkjgnllkaafkaa", sum := "1fd6a79f116a7b38227d03bc8474602026f1f2b35cff737360374053c7373491", func := "diaphone/diaphonetop.TopWatches", spec := "topWatches", unfollowed := true, recurses := true, apart := false, narrowed := true }
def TopWatchesUptoSaid : Prop := topWatchesUptoRow.holds Try.pinned (OpenSpec.upto topWatchesSpec)

end Rows
end Go.Proofs.Ytpkjgnllkaafkaa
