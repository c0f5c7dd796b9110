/-
  No cell of these rows narrows 'for every input' (looked for: loops, veiled, ifaces, maps, wideKeys, modest, calm, conditions, laid).
  DERIVED. THE GIVEN ROWS OF THIS SEAT. 8 by the template 'for every input the law returns true; each argument reads behind the call as it read before'; 0 by the template 'total and deterministic' (their statements: YthggdckldcfakaaTotals.lean).
  GIVEN WITH THE SEED: the statements are not yours to turn. If you find one false, say at which input.
  Laid BY PROGRAM, IN A SANDBOX (cutbox-rows.mjs): the forced cells as the released guide's own fill.sh prints them over the translation 1b682aec387e9ea5… (all of the seat's roots in one cut). By AI agents, Wed Nov 11 2026. No macro, syntax, notation, axiom, sorry.
-/
import Derived.Test.YthggdckldcfakaaChecked
import GoSem.Claim
import GoSem.ClaimJoined
import GoSem.ClaimMapViews
import Derived.JoinedTies
import Derived.KernelRfl
namespace Go.Proofs.Ythggdckldcfakaa
/- THE CELL 'sum', in the pinned program and in every row, IS THE sha256 OF THE DUMP (.gsa) THAT YthggdckldcfakaaProg.lean LOADS. Nothing in Lean hashes anything: it is a label: what it is worth is what the hold of that sum in a sandbox is worth. -/
noncomputable def Try.pinned : Pinned := { name := "ythggdckldcfakaa", sum := "1b682aec387e9ea56e772da52779b6b3670e9ac3f186d470301a160af78705cd", checked := Try.checked }
namespace Rows
def none {H : Type} : Left H := { results := [], args := [] }

/-- 'laws.FnScales': WHATEVER THE INPUT: true; the input reads as it did. -/
def fnScalesSpec : ChangeSpec := { name := "fnScales", fn := fun _ => fun
  | [d] => { results := [.lit (.bool true)], args := [d] }
  | _ => none }
def fnScalesRow : OpenClaim := { program := "ythggdckldcfakaa", sum := "1b682aec387e9ea56e772da52779b6b3670e9ac3f186d470301a160af78705cd", func := "loop.example/g03309/laws.FnScales", spec := "fnScales", unfollowed := true, recurses := true, apart := false }
def FnScalesSaid : Prop := fnScalesRow.holds Try.pinned (OpenSpec.ofChange fnScalesSpec)

/-- ITS FALSE NEIGHBOUR: 'it returns false'. Refute it at one input. -/
def fnScalesWrong : ChangeSpec := { name := "fnScales", fn := fun _ => fun
  | [d] => { results := [.lit (.bool false)], args := [d] }
  | _ => none }
def FnScalesWrongFalsely : Prop := fnScalesRow.holds Try.pinned (OpenSpec.ofChange fnScalesWrong)

/-- 'laws.FnExactStepsUsed': WHATEVER THE INPUT: true; the input reads as it did. -/
def fnExactStepsUsedSpec : ChangeSpec := { name := "fnExactStepsUsed", fn := fun _ => fun
  | [d] => { results := [.lit (.bool true)], args := [d] }
  | _ => none }
def fnExactStepsUsedRow : OpenClaim := { program := "ythggdckldcfakaa", sum := "1b682aec387e9ea56e772da52779b6b3670e9ac3f186d470301a160af78705cd", func := "loop.example/g03309/laws.FnExactStepsUsed", spec := "fnExactStepsUsed", apart := false }
def FnExactStepsUsedSaid : Prop := fnExactStepsUsedRow.holds Try.pinned (OpenSpec.ofChange fnExactStepsUsedSpec)

/-- ITS FALSE NEIGHBOUR: 'it returns false'. Refute it at one input. -/
def fnExactStepsUsedWrong : ChangeSpec := { name := "fnExactStepsUsed", fn := fun _ => fun
  | [d] => { results := [.lit (.bool false)], args := [d] }
  | _ => none }
def FnExactStepsUsedWrongFalsely : Prop := fnExactStepsUsedRow.holds Try.pinned (OpenSpec.ofChange fnExactStepsUsedWrong)

/-- 'laws.FnExactMajorScale': WHATEVER THE INPUT: true; the input reads as it did. -/
def fnExactMajorScaleSpec : ChangeSpec := { name := "fnExactMajorScale", fn := fun _ => fun
  | [d] => { results := [.lit (.bool true)], args := [d] }
  | _ => none }
def fnExactMajorScaleRow : OpenClaim := { program := "ythggdckldcfakaa", sum := "1b682aec387e9ea56e772da52779b6b3670e9ac3f186d470301a160af78705cd", func := "loop.example/g03309/laws.FnExactMajorScale", spec := "fnExactMajorScale", apart := false }
def FnExactMajorScaleSaid : Prop := fnExactMajorScaleRow.holds Try.pinned (OpenSpec.ofChange fnExactMajorScaleSpec)

/-- ITS FALSE NEIGHBOUR: 'it returns false'. Refute it at one input. -/
def fnExactMajorScaleWrong : ChangeSpec := { name := "fnExactMajorScale", fn := fun _ => fun
  | [d] => { results := [.lit (.bool false)], args := [d] }
  | _ => none }
def FnExactMajorScaleWrongFalsely : Prop := fnExactMajorScaleRow.holds Try.pinned (OpenSpec.ofChange fnExactMajorScaleWrong)

/-- 'laws.FnExactScalesFor': WHATEVER THE INPUT: true; the input reads as it did. -/
def fnExactScalesForSpec : ChangeSpec := { name := "fnExactScalesFor", fn := fun _ => fun
  | [d] => { results := [.lit (.bool true)], args := [d] }
  | _ => none }
def fnExactScalesForRow : OpenClaim := { program := "ythggdckldcfakaa", sum := "1b682aec387e9ea56e772da52779b6b3670e9ac3f186d470301a160af78705cd", func := "loop.example/g03309/laws.FnExactScalesFor", spec := "fnExactScalesFor", unfollowed := true, recurses := true, apart := false }
def FnExactScalesForSaid : Prop := fnExactScalesForRow.holds Try.pinned (OpenSpec.ofChange fnExactScalesForSpec)

/-- ITS FALSE NEIGHBOUR: 'it returns false'. Refute it at one input. -/
def fnExactScalesForWrong : ChangeSpec := { name := "fnExactScalesFor", fn := fun _ => fun
  | [d] => { results := [.lit (.bool false)], args := [d] }
  | _ => none }
def FnExactScalesForWrongFalsely : Prop := fnExactScalesForRow.holds Try.pinned (OpenSpec.ofChange fnExactScalesForWrong)

/-- 'laws.FnExactWrongNotes': WHATEVER THE INPUT: true; the input reads as it did. -/
def fnExactWrongNotesSpec : ChangeSpec := { name := "fnExactWrongNotes", fn := fun _ => fun
  | [d1, d2] => { results := [.lit (.bool true)], args := [d1, d2] }
  | _ => none }
def fnExactWrongNotesRow : OpenClaim := { program := "ythggdckldcfakaa", sum := "1b682aec387e9ea56e772da52779b6b3670e9ac3f186d470301a160af78705cd", func := "loop.example/g03309/laws.FnExactWrongNotes", spec := "fnExactWrongNotes", unfollowed := true, recurses := true, apart := false }
def FnExactWrongNotesSaid : Prop := fnExactWrongNotesRow.holds Try.pinned (OpenSpec.ofChange fnExactWrongNotesSpec)

/-- ITS FALSE NEIGHBOUR: 'it returns false'. Refute it at one input. -/
def fnExactWrongNotesWrong : ChangeSpec := { name := "fnExactWrongNotes", fn := fun _ => fun
  | [d1, d2] => { results := [.lit (.bool false)], args := [d1, d2] }
  | _ => none }
def FnExactWrongNotesWrongFalsely : Prop := fnExactWrongNotesRow.holds Try.pinned (OpenSpec.ofChange fnExactWrongNotesWrong)

/-- 'laws.FnExactBestScale': WHATEVER THE INPUT: true; the input reads as it did. -/
def fnExactBestScaleSpec : ChangeSpec := { name := "fnExactBestScale", fn := fun _ => fun
  | [d] => { results := [.lit (.bool true)], args := [d] }
  | _ => none }
def fnExactBestScaleRow : OpenClaim := { program := "ythggdckldcfakaa", sum := "1b682aec387e9ea56e772da52779b6b3670e9ac3f186d470301a160af78705cd", func := "loop.example/g03309/laws.FnExactBestScale", spec := "fnExactBestScale", unfollowed := true, recurses := true, apart := false }
def FnExactBestScaleSaid : Prop := fnExactBestScaleRow.holds Try.pinned (OpenSpec.ofChange fnExactBestScaleSpec)

/-- ITS FALSE NEIGHBOUR: 'it returns false'. Refute it at one input. -/
def fnExactBestScaleWrong : ChangeSpec := { name := "fnExactBestScale", fn := fun _ => fun
  | [d] => { results := [.lit (.bool false)], args := [d] }
  | _ => none }
def FnExactBestScaleWrongFalsely : Prop := fnExactBestScaleRow.holds Try.pinned (OpenSpec.ofChange fnExactBestScaleWrong)

/-- 'laws.FnExactRotateScale': WHATEVER THE INPUT: true; the input reads as it did. -/
def fnExactRotateScaleSpec : ChangeSpec := { name := "fnExactRotateScale", fn := fun _ => fun
  | [d1, d2] => { results := [.lit (.bool true)], args := [d1, d2] }
  | _ => none }
def fnExactRotateScaleRow : OpenClaim := { program := "ythggdckldcfakaa", sum := "1b682aec387e9ea56e772da52779b6b3670e9ac3f186d470301a160af78705cd", func := "loop.example/g03309/laws.FnExactRotateScale", spec := "fnExactRotateScale", apart := false }
def FnExactRotateScaleSaid : Prop := fnExactRotateScaleRow.holds Try.pinned (OpenSpec.ofChange fnExactRotateScaleSpec)

/-- ITS FALSE NEIGHBOUR: 'it returns false'. Refute it at one input. -/
def fnExactRotateScaleWrong : ChangeSpec := { name := "fnExactRotateScale", fn := fun _ => fun
  | [d1, d2] => { results := [.lit (.bool false)], args := [d1, d2] }
  | _ => none }
def FnExactRotateScaleWrongFalsely : Prop := fnExactRotateScaleRow.holds Try.pinned (OpenSpec.ofChange fnExactRotateScaleWrong)

/-- 'laws.FnExactCountSymmetries': WHATEVER THE INPUT: true; the input reads as it did. -/
def fnExactCountSymmetriesSpec : ChangeSpec := { name := "fnExactCountSymmetries", fn := fun _ => fun
  | [d] => { results := [.lit (.bool true)], args := [d] }
  | _ => none }
def fnExactCountSymmetriesRow : OpenClaim := { program := "ythggdckldcfakaa", sum := "1b682aec387e9ea56e772da52779b6b3670e9ac3f186d470301a160af78705cd", func := "loop.example/g03309/laws.FnExactCountSymmetries", spec := "fnExactCountSymmetries", apart := false }
def FnExactCountSymmetriesSaid : Prop := fnExactCountSymmetriesRow.holds Try.pinned (OpenSpec.ofChange fnExactCountSymmetriesSpec)

/-- ITS FALSE NEIGHBOUR: 'it returns false'. Refute it at one input. -/
def fnExactCountSymmetriesWrong : ChangeSpec := { name := "fnExactCountSymmetries", fn := fun _ => fun
  | [d] => { results := [.lit (.bool false)], args := [d] }
  | _ => none }
def FnExactCountSymmetriesWrongFalsely : Prop := fnExactCountSymmetriesRow.holds Try.pinned (OpenSpec.ofChange fnExactCountSymmetriesWrong)

/- THE SECOND FORM. 'bulk': how many values and letters a reading holds, each counted each time it is reached (what is shared counts as often as it is met; a slice's spare places count too). A statement '..UptoSaid' is the law's where the arguments, and the package variables that the reading takes, are together of bulk at most 1048576: NARROWER than '..Said'. Prove '..Said' where nothing that the law and all that it calls make is longer than what came in: it says more and counts as full. Else prove '..UptoSaid'. A law counts once. -/
mutual
def uptoBulk {H : Type} : DataW H → Nat
  | .lit (.string bytes) => bytes.length + 1
  | .lit _ => 1
  | .nil => 1
  | .ptr d => uptoBulk d + 1
  | .slice elems spare => uptoBulkAll elems + uptoBulkAll spare + 1
  | .agg parts => uptoBulkAll parts + 1
  | .iface _ d => uptoBulk d + 1
  | .map entries => uptoBulkEntries entries + 1
  | .held _ => 1
def uptoBulkAll {H : Type} : List (DataW H) → Nat
  | [] => 0
  | d :: r => uptoBulk d + uptoBulkAll r
def uptoBulkEntries {H : Type} : List (Lit × DataW H) → Nat
  | [] => 0
  | x :: r => uptoBulkEntry x + uptoBulkEntries r
def uptoBulkEntry {H : Type} : Lit × DataW H → Nat
  | (.string bytes, d) => bytes.length + uptoBulk d + 1
  | (_, d) => uptoBulk d + 1
 end
def uptoSmall : (H : Type) → List (DataW H) → Bool := fun _ ds => decide (uptoBulkAll ds ≤ 1048576)
def OpenSpec.upto (s : _root_.Go.ChangeSpec) : _root_.Go.OpenSpec := { _root_.Go.OpenSpec.ofChange s with cond := some uptoSmall }

/-- 'laws.FnScales', WHERE WHAT IT READS IS OF BULK AT MOST 1048576: true; the input reads as it did. -/
def fnScalesUptoRow : OpenClaim := { program := "ythggdckldcfakaa", sum := "1b682aec387e9ea56e772da52779b6b3670e9ac3f186d470301a160af78705cd", func := "loop.example/g03309/laws.FnScales", spec := "fnScales", unfollowed := true, recurses := true, apart := false, narrowed := true }
def FnScalesUptoSaid : Prop := fnScalesUptoRow.holds Try.pinned (OpenSpec.upto fnScalesSpec)

/-- 'laws.FnExactStepsUsed', WHERE WHAT IT READS IS OF BULK AT MOST 1048576: true; the input reads as it did. -/
def fnExactStepsUsedUptoRow : OpenClaim := { program := "ythggdckldcfakaa", sum := "1b682aec387e9ea56e772da52779b6b3670e9ac3f186d470301a160af78705cd", func := "loop.example/g03309/laws.FnExactStepsUsed", spec := "fnExactStepsUsed", apart := false, narrowed := true }
def FnExactStepsUsedUptoSaid : Prop := fnExactStepsUsedUptoRow.holds Try.pinned (OpenSpec.upto fnExactStepsUsedSpec)

/-- 'laws.FnExactMajorScale', WHERE WHAT IT READS IS OF BULK AT MOST 1048576: true; the input reads as it did. -/
def fnExactMajorScaleUptoRow : OpenClaim := { program := "ythggdckldcfakaa", sum := "1b682aec387e9ea56e772da52779b6b3670e9ac3f186d470301a160af78705cd", func := "loop.example/g03309/laws.FnExactMajorScale", spec := "fnExactMajorScale", apart := false, narrowed := true }
def FnExactMajorScaleUptoSaid : Prop := fnExactMajorScaleUptoRow.holds Try.pinned (OpenSpec.upto fnExactMajorScaleSpec)

/-- 'laws.FnExactScalesFor', WHERE WHAT IT READS IS OF BULK AT MOST 1048576: true; the input reads as it did. -/
def fnExactScalesForUptoRow : OpenClaim := { program := "ythggdckldcfakaa", sum := "1b682aec387e9ea56e772da52779b6b3670e9ac3f186d470301a160af78705cd", func := "loop.example/g03309/laws.FnExactScalesFor", spec := "fnExactScalesFor", unfollowed := true, recurses := true, apart := false, narrowed := true }
def FnExactScalesForUptoSaid : Prop := fnExactScalesForUptoRow.holds Try.pinned (OpenSpec.upto fnExactScalesForSpec)

/-- 'laws.FnExactWrongNotes', WHERE WHAT IT READS IS OF BULK AT MOST 1048576: true; the input reads as it did. -/
def fnExactWrongNotesUptoRow : OpenClaim := { program := "ythggdckldcfakaa", sum := "1b682aec387e9ea56e772da52779b6b3670e9ac3f186d470301a160af78705cd", func := "loop.example/g03309/laws.FnExactWrongNotes", spec := "fnExactWrongNotes", unfollowed := true, recurses := true, apart := false, narrowed := true }
def FnExactWrongNotesUptoSaid : Prop := fnExactWrongNotesUptoRow.holds Try.pinned (OpenSpec.upto fnExactWrongNotesSpec)

/-- 'laws.FnExactBestScale', WHERE WHAT IT READS IS OF BULK AT MOST 1048576: true; the input reads as it did. -/
def fnExactBestScaleUptoRow : OpenClaim := { program := "ythggdckldcfakaa", sum := "1b682aec387e9ea56e772da52779b6b3670e9ac3f186d470301a160af78705cd", func := "loop.example/g03309/laws.FnExactBestScale", spec := "fnExactBestScale", unfollowed := true, recurses := true, apart := false, narrowed := true }
def FnExactBestScaleUptoSaid : Prop := fnExactBestScaleUptoRow.holds Try.pinned (OpenSpec.upto fnExactBestScaleSpec)

/-- 'laws.FnExactRotateScale', WHERE WHAT IT READS IS OF BULK AT MOST 1048576: true; the input reads as it did. -/
def fnExactRotateScaleUptoRow : OpenClaim := { program := "ythggdckldcfakaa", sum := "1b682aec387e9ea56e772da52779b6b3670e9ac3f186d470301a160af78705cd", func := "loop.example/g03309/laws.FnExactRotateScale", spec := "fnExactRotateScale", apart := false, narrowed := true }
def FnExactRotateScaleUptoSaid : Prop := fnExactRotateScaleUptoRow.holds Try.pinned (OpenSpec.upto fnExactRotateScaleSpec)

/-- 'laws.FnExactCountSymmetries', WHERE WHAT IT READS IS OF BULK AT MOST 1048576: true; the input reads as it did. -/
def fnExactCountSymmetriesUptoRow : OpenClaim := { program := "ythggdckldcfakaa", sum := "1b682aec387e9ea56e772da52779b6b3670e9ac3f186d470301a160af78705cd", func := "loop.example/g03309/laws.FnExactCountSymmetries", spec := "fnExactCountSymmetries", apart := false, narrowed := true }
def FnExactCountSymmetriesUptoSaid : Prop := fnExactCountSymmetriesUptoRow.holds Try.pinned (OpenSpec.upto fnExactCountSymmetriesSpec)

end Rows
end Go.Proofs.Ythggdckldcfakaa
