/-
  No cell of these rows narrows 'for every input' (looked for: loops, veiled, ifaces, maps, wideKeys, modest, calm, conditions, laid).
  DERIVED. THE GIVEN ROWS OF THIS SEAT. 8 by the template 'for every input the law returns true; each argument reads behind the call as it read before'; 0 by the template 'total and deterministic' (their statements: YtkciolegfonabaaTotals.lean).
  GIVEN WITH THE SEED: the statements are not yours to turn. If you find one false, say at which input.
  Laid BY PROGRAM, IN A SANDBOX (cutbox-rows.mjs): the forced cells as the released guide's own fill.sh prints them over the translation 0a8f0f417eb072b9… (all of the seat's roots in one cut). By AI agents, Wed Nov 11 2026. No macro, syntax, notation, axiom, sorry.
-/
import Derived.Test.YtkciolegfonabaaChecked
import GoSem.Claim
import GoSem.ClaimJoined
import GoSem.ClaimMapViews
import Derived.JoinedTies
import Derived.KernelRfl
namespace Go.Proofs.Ytkciolegfonabaa
/- THE CELL 'sum', in the pinned program and in every row, IS THE sha256 OF THE DUMP (.gsa) THAT YtkciolegfonabaaProg.lean LOADS. Nothing in Lean hashes anything: it is a label: what it is worth is what the hold of that sum in a sandbox is worth. -/
noncomputable def Try.pinned : Pinned := { name := "ytkciolegfonabaa", sum := "0a8f0f417eb072b9ef989c2138b266acf5b968a9b4c56b9692da00f3df17753a", checked := Try.checked }
namespace Rows
def none {H : Type} : Left H := { results := [], args := [] }

/-- 'laws.FnExactSameTune': WHATEVER THE INPUT: true; the input reads as it did. -/
def fnExactSameTuneSpec : ChangeSpec := { name := "fnExactSameTune", fn := fun _ => fun
  | [d1, d2] => { results := [.lit (.bool true)], args := [d1, d2] }
  | _ => none }
def fnExactSameTuneRow : OpenClaim := { program := "ytkciolegfonabaa", sum := "0a8f0f417eb072b9ef989c2138b266acf5b968a9b4c56b9692da00f3df17753a", func := "loop.example/g03309/laws.FnExactSameTune", spec := "fnExactSameTune", unfollowed := true, recurses := true, apart := false }
def FnExactSameTuneSaid : Prop := fnExactSameTuneRow.holds Try.pinned (OpenSpec.ofChange fnExactSameTuneSpec)

/-- ITS FALSE NEIGHBOUR: 'it returns false'. Refute it at one input. -/
def fnExactSameTuneWrong : ChangeSpec := { name := "fnExactSameTune", fn := fun _ => fun
  | [d1, d2] => { results := [.lit (.bool false)], args := [d1, d2] }
  | _ => none }
def FnExactSameTuneWrongFalsely : Prop := fnExactSameTuneRow.holds Try.pinned (OpenSpec.ofChange fnExactSameTuneWrong)

/-- 'laws.FnChanges': WHATEVER THE INPUT: true; the input reads as it did. -/
def fnChangesSpec : ChangeSpec := { name := "fnChanges", fn := fun _ => fun
  | [d] => { results := [.lit (.bool true)], args := [d] }
  | _ => none }
def fnChangesRow : OpenClaim := { program := "ytkciolegfonabaa", sum := "0a8f0f417eb072b9ef989c2138b266acf5b968a9b4c56b9692da00f3df17753a", func := "loop.example/g03309/laws.FnChanges", spec := "fnChanges", unfollowed := true, recurses := true, apart := false }
def FnChangesSaid : Prop := fnChangesRow.holds Try.pinned (OpenSpec.ofChange fnChangesSpec)

/-- ITS FALSE NEIGHBOUR: 'it returns false'. Refute it at one input. -/
def fnChangesWrong : ChangeSpec := { name := "fnChanges", fn := fun _ => fun
  | [d] => { results := [.lit (.bool false)], args := [d] }
  | _ => none }
def FnChangesWrongFalsely : Prop := fnChangesRow.holds Try.pinned (OpenSpec.ofChange fnChangesWrong)

/-- 'laws.FnExactUpsideDown': WHATEVER THE INPUT: true; the input reads as it did. -/
def fnExactUpsideDownSpec : ChangeSpec := { name := "fnExactUpsideDown", fn := fun _ => fun
  | [d] => { results := [.lit (.bool true)], args := [d] }
  | _ => none }
def fnExactUpsideDownRow : OpenClaim := { program := "ytkciolegfonabaa", sum := "0a8f0f417eb072b9ef989c2138b266acf5b968a9b4c56b9692da00f3df17753a", func := "loop.example/g03309/laws.FnExactUpsideDown", spec := "fnExactUpsideDown", unfollowed := true, recurses := true, apart := false }
def FnExactUpsideDownSaid : Prop := fnExactUpsideDownRow.holds Try.pinned (OpenSpec.ofChange fnExactUpsideDownSpec)

/-- ITS FALSE NEIGHBOUR: 'it returns false'. Refute it at one input. -/
def fnExactUpsideDownWrong : ChangeSpec := { name := "fnExactUpsideDown", fn := fun _ => fun
  | [d] => { results := [.lit (.bool false)], args := [d] }
  | _ => none }
def FnExactUpsideDownWrongFalsely : Prop := fnExactUpsideDownRow.holds Try.pinned (OpenSpec.ofChange fnExactUpsideDownWrong)

/-- 'laws.FnCombs': WHATEVER THE INPUT: true; the input reads as it did. -/
def fnCombsSpec : ChangeSpec := { name := "fnCombs", fn := fun _ => fun
  | [d] => { results := [.lit (.bool true)], args := [d] }
  | _ => none }
def fnCombsRow : OpenClaim := { program := "ytkciolegfonabaa", sum := "0a8f0f417eb072b9ef989c2138b266acf5b968a9b4c56b9692da00f3df17753a", func := "loop.example/g03309/laws.FnCombs", spec := "fnCombs", unfollowed := true, recurses := true, apart := false }
def FnCombsSaid : Prop := fnCombsRow.holds Try.pinned (OpenSpec.ofChange fnCombsSpec)

/-- ITS FALSE NEIGHBOUR: 'it returns false'. Refute it at one input. -/
def fnCombsWrong : ChangeSpec := { name := "fnCombs", fn := fun _ => fun
  | [d] => { results := [.lit (.bool false)], args := [d] }
  | _ => none }
def FnCombsWrongFalsely : Prop := fnCombsRow.holds Try.pinned (OpenSpec.ofChange fnCombsWrong)

/-- 'laws.FnExactMissingPitches': WHATEVER THE INPUT: true; the input reads as it did. -/
def fnExactMissingPitchesSpec : ChangeSpec := { name := "fnExactMissingPitches", fn := fun _ => fun
  | [d1, d2] => { results := [.lit (.bool true)], args := [d1, d2] }
  | _ => none }
def fnExactMissingPitchesRow : OpenClaim := { program := "ytkciolegfonabaa", sum := "0a8f0f417eb072b9ef989c2138b266acf5b968a9b4c56b9692da00f3df17753a", func := "loop.example/g03309/laws.FnExactMissingPitches", spec := "fnExactMissingPitches", unfollowed := true, recurses := true, apart := false }
def FnExactMissingPitchesSaid : Prop := fnExactMissingPitchesRow.holds Try.pinned (OpenSpec.ofChange fnExactMissingPitchesSpec)

/-- ITS FALSE NEIGHBOUR: 'it returns false'. Refute it at one input. -/
def fnExactMissingPitchesWrong : ChangeSpec := { name := "fnExactMissingPitches", fn := fun _ => fun
  | [d1, d2] => { results := [.lit (.bool false)], args := [d1, d2] }
  | _ => none }
def FnExactMissingPitchesWrongFalsely : Prop := fnExactMissingPitchesRow.holds Try.pinned (OpenSpec.ofChange fnExactMissingPitchesWrong)

/-- 'laws.FnExactCanPlay': WHATEVER THE INPUT: true; the input reads as it did. -/
def fnExactCanPlaySpec : ChangeSpec := { name := "fnExactCanPlay", fn := fun _ => fun
  | [d1, d2] => { results := [.lit (.bool true)], args := [d1, d2] }
  | _ => none }
def fnExactCanPlayRow : OpenClaim := { program := "ytkciolegfonabaa", sum := "0a8f0f417eb072b9ef989c2138b266acf5b968a9b4c56b9692da00f3df17753a", func := "loop.example/g03309/laws.FnExactCanPlay", spec := "fnExactCanPlay", unfollowed := true, recurses := true, apart := false }
def FnExactCanPlaySaid : Prop := fnExactCanPlayRow.holds Try.pinned (OpenSpec.ofChange fnExactCanPlaySpec)

/-- ITS FALSE NEIGHBOUR: 'it returns false'. Refute it at one input. -/
def fnExactCanPlayWrong : ChangeSpec := { name := "fnExactCanPlay", fn := fun _ => fun
  | [d1, d2] => { results := [.lit (.bool false)], args := [d1, d2] }
  | _ => none }
def FnExactCanPlayWrongFalsely : Prop := fnExactCanPlayRow.holds Try.pinned (OpenSpec.ofChange fnExactCanPlayWrong)

/-- 'laws.FnExactBestMove': WHATEVER THE INPUT: true; the input reads as it did. -/
def fnExactBestMoveSpec : ChangeSpec := { name := "fnExactBestMove", fn := fun _ => fun
  | [d1, d2] => { results := [.lit (.bool true)], args := [d1, d2] }
  | _ => none }
def fnExactBestMoveRow : OpenClaim := { program := "ytkciolegfonabaa", sum := "0a8f0f417eb072b9ef989c2138b266acf5b968a9b4c56b9692da00f3df17753a", func := "loop.example/g03309/laws.FnExactBestMove", spec := "fnExactBestMove", unfollowed := true, recurses := true, apart := false }
def FnExactBestMoveSaid : Prop := fnExactBestMoveRow.holds Try.pinned (OpenSpec.ofChange fnExactBestMoveSpec)

/-- ITS FALSE NEIGHBOUR: 'it returns false'. Refute it at one input. -/
def fnExactBestMoveWrong : ChangeSpec := { name := "fnExactBestMove", fn := fun _ => fun
  | [d1, d2] => { results := [.lit (.bool false)], args := [d1, d2] }
  | _ => none }
def FnExactBestMoveWrongFalsely : Prop := fnExactBestMoveRow.holds Try.pinned (OpenSpec.ofChange fnExactBestMoveWrong)

/-- 'laws.FnExactCombFor': WHATEVER THE INPUT: true; the input reads as it did. -/
def fnExactCombForSpec : ChangeSpec := { name := "fnExactCombFor", fn := fun _ => fun
  | [d] => { results := [.lit (.bool true)], args := [d] }
  | _ => none }
def fnExactCombForRow : OpenClaim := { program := "ytkciolegfonabaa", sum := "0a8f0f417eb072b9ef989c2138b266acf5b968a9b4c56b9692da00f3df17753a", func := "loop.example/g03309/laws.FnExactCombFor", spec := "fnExactCombFor", unfollowed := true, recurses := true, apart := false }
def FnExactCombForSaid : Prop := fnExactCombForRow.holds Try.pinned (OpenSpec.ofChange fnExactCombForSpec)

/-- ITS FALSE NEIGHBOUR: 'it returns false'. Refute it at one input. -/
def fnExactCombForWrong : ChangeSpec := { name := "fnExactCombFor", fn := fun _ => fun
  | [d] => { results := [.lit (.bool false)], args := [d] }
  | _ => none }
def FnExactCombForWrongFalsely : Prop := fnExactCombForRow.holds Try.pinned (OpenSpec.ofChange fnExactCombForWrong)

/- THE SECOND FORM. 'bulk': how many values and letters a reading holds, each counted each time it is reached (what is shared counts as often as it is met; a slice's spare places count too). A statement '..UptoSaid' is the law's where the arguments, and the package variables that the reading takes, are together of bulk at most 1048576: NARROWER than '..Said'. Prove '..Said' where nothing that the law and all that it calls make is longer than what came in: it says more and counts as full. Else prove '..UptoSaid'. A law counts once. -/
mutual
def uptoBulk {H : Type} : DataW H → Nat
  | .lit (.string bytes) => bytes.length + 1
  | .lit _ => 1
  | .nil => 1
  | .ptr d => uptoBulk d + 1
  | .slice elems spare => uptoBulkAll elems + uptoBulkAll spare + 1
  | .agg parts => uptoBulkAll parts + 1
  | .iface _ d => uptoBulk d + 1
  | .map entries => uptoBulkEntries entries + 1
  | .held _ => 1
def uptoBulkAll {H : Type} : List (DataW H) → Nat
  | [] => 0
  | d :: r => uptoBulk d + uptoBulkAll r
def uptoBulkEntries {H : Type} : List (Lit × DataW H) → Nat
  | [] => 0
  | x :: r => uptoBulkEntry x + uptoBulkEntries r
def uptoBulkEntry {H : Type} : Lit × DataW H → Nat
  | (.string bytes, d) => bytes.length + uptoBulk d + 1
  | (_, d) => uptoBulk d + 1
 end
def uptoSmall : (H : Type) → List (DataW H) → Bool := fun _ ds => decide (uptoBulkAll ds ≤ 1048576)
def OpenSpec.upto (s : _root_.Go.ChangeSpec) : _root_.Go.OpenSpec := { _root_.Go.OpenSpec.ofChange s with cond := some uptoSmall }

/-- 'laws.FnExactSameTune', WHERE WHAT IT READS IS OF BULK AT MOST 1048576: true; the input reads as it did. -/
def fnExactSameTuneUptoRow : OpenClaim := { program := "ytkciolegfonabaa", sum := "0a8f0f417eb072b9ef989c2138b266acf5b968a9b4c56b9692da00f3df17753a", func := "loop.example/g03309/laws.FnExactSameTune", spec := "fnExactSameTune", unfollowed := true, recurses := true, apart := false, narrowed := true }
def FnExactSameTuneUptoSaid : Prop := fnExactSameTuneUptoRow.holds Try.pinned (OpenSpec.upto fnExactSameTuneSpec)

/-- 'laws.FnChanges', WHERE WHAT IT READS IS OF BULK AT MOST 1048576: true; the input reads as it did. -/
def fnChangesUptoRow : OpenClaim := { program := "ytkciolegfonabaa", sum := "0a8f0f417eb072b9ef989c2138b266acf5b968a9b4c56b9692da00f3df17753a", func := "loop.example/g03309/laws.FnChanges", spec := "fnChanges", unfollowed := true, recurses := true, apart := false, narrowed := true }
def FnChangesUptoSaid : Prop := fnChangesUptoRow.holds Try.pinned (OpenSpec.upto fnChangesSpec)

/-- 'laws.FnExactUpsideDown', WHERE WHAT IT READS IS OF BULK AT MOST 1048576: true; the input reads as it did. -/
def fnExactUpsideDownUptoRow : OpenClaim := { program := "ytkciolegfonabaa", sum := "0a8f0f417eb072b9ef989c2138b266acf5b968a9b4c56b9692da00f3df17753a", func := "loop.example/g03309/laws.FnExactUpsideDown", spec := "fnExactUpsideDown", unfollowed := true, recurses := true, apart := false, narrowed := true }
def FnExactUpsideDownUptoSaid : Prop := fnExactUpsideDownUptoRow.holds Try.pinned (OpenSpec.upto fnExactUpsideDownSpec)

/-- 'laws.FnCombs', WHERE WHAT IT READS IS OF BULK AT MOST 1048576: true; the input reads as it did. -/
def fnCombsUptoRow : OpenClaim := { program := "ytkciolegfonabaa", sum := "0a8f0f417eb072b9ef989c2138b266acf5b968a9b4c56b9692da00f3df17753a", func := "loop.example/g03309/laws.FnCombs", spec := "fnCombs", unfollowed := true, recurses := true, apart := false, narrowed := true }
def FnCombsUptoSaid : Prop := fnCombsUptoRow.holds Try.pinned (OpenSpec.upto fnCombsSpec)

/-- 'laws.FnExactMissingPitches', WHERE WHAT IT READS IS OF BULK AT MOST 1048576: true; the input reads as it did. -/
def fnExactMissingPitchesUptoRow : OpenClaim := { program := "ytkciolegfonabaa", sum := "0a8f0f417eb072b9ef989c2138b266acf5b968a9b4c56b9692da00f3df17753a", func := "loop.example/g03309/laws.FnExactMissingPitches", spec := "fnExactMissingPitches", unfollowed := true, recurses := true, apart := false, narrowed := true }
def FnExactMissingPitchesUptoSaid : Prop := fnExactMissingPitchesUptoRow.holds Try.pinned (OpenSpec.upto fnExactMissingPitchesSpec)

/-- 'laws.FnExactCanPlay', WHERE WHAT IT READS IS OF BULK AT MOST 1048576: true; the input reads as it did. -/
def fnExactCanPlayUptoRow : OpenClaim := { program := "ytkciolegfonabaa", sum := "0a8f0f417eb072b9ef989c2138b266acf5b968a9b4c56b9692da00f3df17753a", func := "loop.example/g03309/laws.FnExactCanPlay", spec := "fnExactCanPlay", unfollowed := true, recurses := true, apart := false, narrowed := true }
def FnExactCanPlayUptoSaid : Prop := fnExactCanPlayUptoRow.holds Try.pinned (OpenSpec.upto fnExactCanPlaySpec)

/-- 'laws.FnExactBestMove', WHERE WHAT IT READS IS OF BULK AT MOST 1048576: true; the input reads as it did. -/
def fnExactBestMoveUptoRow : OpenClaim := { program := "ytkciolegfonabaa", sum := "0a8f0f417eb072b9ef989c2138b266acf5b968a9b4c56b9692da00f3df17753a", func := "loop.example/g03309/laws.FnExactBestMove", spec := "fnExactBestMove", unfollowed := true, recurses := true, apart := false, narrowed := true }
def FnExactBestMoveUptoSaid : Prop := fnExactBestMoveUptoRow.holds Try.pinned (OpenSpec.upto fnExactBestMoveSpec)

/-- 'laws.FnExactCombFor', WHERE WHAT IT READS IS OF BULK AT MOST 1048576: true; the input reads as it did. -/
def fnExactCombForUptoRow : OpenClaim := { program := "ytkciolegfonabaa", sum := "0a8f0f417eb072b9ef989c2138b266acf5b968a9b4c56b9692da00f3df17753a", func := "loop.example/g03309/laws.FnExactCombFor", spec := "fnExactCombFor", unfollowed := true, recurses := true, apart := false, narrowed := true }
def FnExactCombForUptoSaid : Prop := fnExactCombForUptoRow.holds Try.pinned (OpenSpec.upto fnExactCombForSpec)

end Rows
end Go.Proofs.Ytkciolegfonabaa
