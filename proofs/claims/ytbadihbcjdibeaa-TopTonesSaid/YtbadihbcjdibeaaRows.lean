/-
  No cell of these rows narrows 'for every input' (looked for: loops, veiled, ifaces, maps, wideKeys, modest, calm, conditions, laid).
  DERIVED. THE GIVEN ROWS OF THIS SEAT. 4 by the template 'for every input the law returns true; each argument reads behind the call as it read before'; 0 by the template 'total and deterministic' (their statements: YtbadihbcjdibeaaTotals.lean).
  GIVEN WITH THE SEED: the statements are not yours to turn. If you find one false, say at which input.
  Laid BY PROGRAM, IN A SANDBOX (cutbox-rows.mjs): the forced cells as the released guide's own fill.sh prints them over the translation 60f693451b6cb273… (all of the seat's roots in one cut). By AI agents, Wed Nov 11 2026. No macro, syntax, notation, axiom, sorry.
-/
import Derived.Test.YtbadihbcjdibeaaChecked
import GoSem.Claim
import GoSem.ClaimJoined
import GoSem.ClaimMapViews
import Derived.JoinedTies
import Derived.KernelRfl
namespace Go.Proofs.Ytbadihbcjdibeaa
/- THE CELL 'sum', in the pinned program and in every row, IS THE sha256 OF THE DUMP (.gsa) THAT YtbadihbcjdibeaaProg.lean LOADS. Nothing in Lean hashes anything: it is a label: what it is worth is what the hold of that sum in a sandbox is worth. -/
noncomputable def Try.pinned : Pinned := { name := "ytbadihbcjdibeaa", sum := "60f693451b6cb2738ccf44a133c140f3ee9774e6b656aec304ecec3df232b8d9", checked := Try.checked }
namespace Rows
def none {H : Type} : Left H := { results := [], args := [] }

/-- 'diaphonelaw01.ToneTells': WHATEVER THE INPUT: true; the input reads as it did. -/
def toneTellsSpec : ChangeSpec := { name := "toneTells", fn := fun _ => fun
  | [d1, d2] => { results := [.lit (.bool true)], args := [d1, d2] }
  | _ => none }
def toneTellsRow : OpenClaim := { program := "ytbadihbcjdibeaa", sum := "60f693451b6cb2738ccf44a133c140f3ee9774e6b656aec304ecec3df232b8d9", func := "diaphone/diaphonelaw01.ToneTells", spec := "toneTells", plainKeys := false, apart := false }
def ToneTellsSaid : Prop := toneTellsRow.holds Try.pinned (OpenSpec.ofChange toneTellsSpec)

/-- ITS FALSE NEIGHBOUR: 'it returns false'. Refute it at one input. -/
def toneTellsWrong : ChangeSpec := { name := "toneTells", fn := fun _ => fun
  | [d1, d2] => { results := [.lit (.bool false)], args := [d1, d2] }
  | _ => none }
def ToneTellsWrongFalsely : Prop := toneTellsRow.holds Try.pinned (OpenSpec.ofChange toneTellsWrong)

/-- 'diaphonelaw01.ToneAparts': WHATEVER THE INPUT: true; the input reads as it did. -/
def toneApartsSpec : ChangeSpec := { name := "toneAparts", fn := fun _ => fun
  | [d1, d2, d3] => { results := [.lit (.bool true)], args := [d1, d2, d3] }
  | _ => none }
def toneApartsRow : OpenClaim := { program := "ytbadihbcjdibeaa", sum := "60f693451b6cb2738ccf44a133c140f3ee9774e6b656aec304ecec3df232b8d9", func := "diaphone/diaphonelaw01.ToneAparts", spec := "toneAparts", plainKeys := false, apart := false }
def ToneApartsSaid : Prop := toneApartsRow.holds Try.pinned (OpenSpec.ofChange toneApartsSpec)

/-- ITS FALSE NEIGHBOUR: 'it returns false'. Refute it at one input. -/
def toneApartsWrong : ChangeSpec := { name := "toneAparts", fn := fun _ => fun
  | [d1, d2, d3] => { results := [.lit (.bool false)], args := [d1, d2, d3] }
  | _ => none }
def ToneApartsWrongFalsely : Prop := toneApartsRow.holds Try.pinned (OpenSpec.ofChange toneApartsWrong)

/-- 'diaphonelaw01.ToneRepeats': WHATEVER THE INPUT: true; the input reads as it did. -/
def toneRepeatsSpec : ChangeSpec := { name := "toneRepeats", fn := fun _ => fun
  | [d1, d2, d3] => { results := [.lit (.bool true)], args := [d1, d2, d3] }
  | _ => none }
def toneRepeatsRow : OpenClaim := { program := "ytbadihbcjdibeaa", sum := "60f693451b6cb2738ccf44a133c140f3ee9774e6b656aec304ecec3df232b8d9", func := "diaphone/diaphonelaw01.ToneRepeats", spec := "toneRepeats", plainKeys := false, apart := false }
def ToneRepeatsSaid : Prop := toneRepeatsRow.holds Try.pinned (OpenSpec.ofChange toneRepeatsSpec)

/-- ITS FALSE NEIGHBOUR: 'it returns false'. Refute it at one input. -/
def toneRepeatsWrong : ChangeSpec := { name := "toneRepeats", fn := fun _ => fun
  | [d1, d2, d3] => { results := [.lit (.bool false)], args := [d1, d2, d3] }
  | _ => none }
def ToneRepeatsWrongFalsely : Prop := toneRepeatsRow.holds Try.pinned (OpenSpec.ofChange toneRepeatsWrong)

/-- 'diaphonetop.TopTones': WHATEVER THE INPUT: true; the input reads as it did. -/
def topTonesSpec : ChangeSpec := { name := "topTones", fn := fun _ => fun
  | [d1, d2, d3] => { results := [.lit (.bool true)], args := [d1, d2, d3] }
  | _ => none }
def topTonesRow : OpenClaim := { program := "ytbadihbcjdibeaa", sum := "60f693451b6cb2738ccf44a133c140f3ee9774e6b656aec304ecec3df232b8d9", func := "diaphone/diaphonetop.TopTones", spec := "topTones", plainKeys := false, apart := false }
def TopTonesSaid : Prop := topTonesRow.holds Try.pinned (OpenSpec.ofChange topTonesSpec)

/-- ITS FALSE NEIGHBOUR: 'it returns false'. Refute it at one input. -/
def topTonesWrong : ChangeSpec := { name := "topTones", fn := fun _ => fun
  | [d1, d2, d3] => { results := [.lit (.bool false)], args := [d1, d2, d3] }
  | _ => none }
def TopTonesWrongFalsely : Prop := topTonesRow.holds Try.pinned (OpenSpec.ofChange topTonesWrong)

/- THE SECOND FORM. 'bulk': how many values and letters a reading holds, each counted each time it is reached (what is shared counts as often as it is met; a slice's spare places count too). A statement '..UptoSaid' is the law's where the arguments, and the package variables that the reading takes, are together of bulk at most 1048576: NARROWER than '..Said'. Prove '..Said' where nothing that the law and all that it calls make is longer than what came in: it says more and counts as full. Else prove '..UptoSaid'. A law counts once. -/
mutual
def uptoBulk {H : Type} : DataW H → Nat
  | .lit (.string bytes) => bytes.length + 1
  | .lit _ => 1
  | .nil => 1
  | .ptr d => uptoBulk d + 1
  | .slice elems spare => uptoBulkAll elems + uptoBulkAll spare + 1
  | .agg parts => uptoBulkAll parts + 1
  | .iface _ d => uptoBulk d + 1
  | .map entries => uptoBulkEntries entries + 1
  | .held _ => 1
def uptoBulkAll {H : Type} : List (DataW H) → Nat
  | [] => 0
  | d :: r => uptoBulk d + uptoBulkAll r
def uptoBulkEntries {H : Type} : List (Lit × DataW H) → Nat
  | [] => 0
  | x :: r => uptoBulkEntry x + uptoBulkEntries r
def uptoBulkEntry {H : Type} : Lit × DataW H → Nat
  | (.string bytes, d) => bytes.length + uptoBulk d + 1
  | (_, d) => uptoBulk d + 1
 end
def uptoSmall : (H : Type) → List (DataW H) → Bool := fun _ ds => decide (uptoBulkAll ds ≤ 1048576)
def OpenSpec.upto (s : _root_.Go.ChangeSpec) : _root_.Go.OpenSpec := { _root_.Go.OpenSpec.ofChange s with cond := some uptoSmall }

/-- 'diaphonelaw01.ToneTells', WHERE WHAT IT READS IS OF BULK AT MOST 1048576: true; the input reads as it did. -/
def toneTellsUptoRow : OpenClaim := { program := "ytbadihbcjdibeaa", sum := "60f693451b6cb2738ccf44a133c140f3ee9774e6b656aec304ecec3df232b8d9", func := "diaphone/diaphonelaw01.ToneTells", spec := "toneTells", plainKeys := false, apart := false, narrowed := true }
def ToneTellsUptoSaid : Prop := toneTellsUptoRow.holds Try.pinned (OpenSpec.upto toneTellsSpec)

/-- 'diaphonelaw01.ToneAparts', WHERE WHAT IT READS IS OF BULK AT MOST 1048576: true; the input reads as it did. -/
def toneApartsUptoRow : OpenClaim := { program := "ytbadihbcjdibeaa", sum := "60f693451b6cb2738ccf44a133c140f3ee9774e6b656aec304ecec3df232b8d9", func := "diaphone/diaphonelaw01.ToneAparts", spec := "toneAparts", plainKeys := false, apart := false, narrowed := true }
def ToneApartsUptoSaid : Prop := toneApartsUptoRow.holds Try.pinned (OpenSpec.upto toneApartsSpec)

/-- 'diaphonelaw01.ToneRepeats', WHERE WHAT IT READS IS OF BULK AT MOST 1048576: true; the input reads as it did. -/
def toneRepeatsUptoRow : OpenClaim := { program := "ytbadihbcjdibeaa", sum := "60f693451b6cb2738ccf44a133c140f3ee9774e6b656aec304ecec3df232b8d9", func := "diaphone/diaphonelaw01.ToneRepeats", spec := "toneRepeats", plainKeys := false, apart := false, narrowed := true }
def ToneRepeatsUptoSaid : Prop := toneRepeatsUptoRow.holds Try.pinned (OpenSpec.upto toneRepeatsSpec)

/-- 'diaphonetop.TopTones', WHERE WHAT IT READS IS OF BULK AT MOST 1048576: true; the input reads as it did. -/
def topTonesUptoRow : OpenClaim := { program := "ytbadihbcjdibeaa", sum := "60f693451b6cb2738ccf44a133c140f3ee9774e6b656aec304ecec3df232b8d9", func := "diaphone/diaphonetop.TopTones", spec := "topTones", plainKeys := false, apart := false, narrowed := true }
def TopTonesUptoSaid : Prop := topTonesUptoRow.holds Try.pinned (OpenSpec.upto topTonesSpec)

end Rows
end Go.Proofs.Ytbadihbcjdibeaa
