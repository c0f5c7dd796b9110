/-
  No cell of these rows narrows 'for every input' (looked for: loops, veiled, ifaces, maps, wideKeys, modest, calm, conditions, laid).
  DERIVED. THE GIVEN ROWS OF THIS SEAT. 10 by the template 'for every input the law returns true; each argument reads behind the call as it read before'; 0 by the template 'total and deterministic' (their statements: YtcklhdbfgchgkaaTotals.lean).
  GIVEN WITH THE SEED: the statements are not yours to turn. If you find one false, say at which input.
  Laid BY PROGRAM, IN A SANDBOX (cutbox-rows.mjs): the forced cells as the released guide's own fill.sh prints them over the translation 724e2f76832c78b0… (all of the seat's roots in one cut). By AI agents, Wed Nov 11 2026. No macro, syntax, notation, axiom, sorry.
-/
import Derived.Test.YtcklhdbfgchgkaaChecked
import GoSem.Claim
import GoSem.ClaimJoined
import GoSem.ClaimMapViews
import Derived.JoinedTies
import Derived.KernelRfl
namespace Go.Proofs.Ytcklhdbfgchgkaa
/- THE CELL 'sum', in the pinned program and in every row, IS THE sha256 OF THE DUMP (.gsa) THAT YtcklhdbfgchgkaaProg.lean LOADS. Nothing in Lean hashes anything: it is a label: what it is worth is what the hold of that sum in a sandbox is worth. -/
noncomputable def Try.pinned : Pinned := { name := "ytcklhdbfgchgkaa", sum := "724e2f76832c78b0785828d6b22454891cc897f777c46136bea1ce696594c4a2", checked := Try.checked }
namespace Rows
def none {H : Type} : Left H := { results := [], args := [] }

/-- 'laws.FnTunes': WHATEVER THE INPUT: true; the input reads as it did. -/
def fnTunesSpec : ChangeSpec := { name := "fnTunes", fn := fun _ => fun
  | [d] => { results := [.lit (.bool true)], args := [d] }
  | _ => none }
def fnTunesRow : OpenClaim := { program := "ytcklhdbfgchgkaa", sum := "724e2f76832c78b0785828d6b22454891cc897f777c46136bea1ce696594c4a2", func := "loop.example/g03309/laws.FnTunes", spec := "fnTunes", inPlace := ["slices.overlaps[loop.example/g03309/impl.Note]"], unfollowed := true, recurses := true, apart := false }
def FnTunesSaid : Prop := fnTunesRow.holds Try.pinned (OpenSpec.ofChange fnTunesSpec)

/-- ITS FALSE NEIGHBOUR: 'it returns false'. Refute it at one input. -/
def fnTunesWrong : ChangeSpec := { name := "fnTunes", fn := fun _ => fun
  | [d] => { results := [.lit (.bool false)], args := [d] }
  | _ => none }
def FnTunesWrongFalsely : Prop := fnTunesRow.holds Try.pinned (OpenSpec.ofChange fnTunesWrong)

/-- 'laws.FnChanges': WHATEVER THE INPUT: true; the input reads as it did. -/
def fnChangesSpec : ChangeSpec := { name := "fnChanges", fn := fun _ => fun
  | [d] => { results := [.lit (.bool true)], args := [d] }
  | _ => none }
def fnChangesRow : OpenClaim := { program := "ytcklhdbfgchgkaa", sum := "724e2f76832c78b0785828d6b22454891cc897f777c46136bea1ce696594c4a2", func := "loop.example/g03309/laws.FnChanges", spec := "fnChanges", unfollowed := true, recurses := true, apart := false }
def FnChangesSaid : Prop := fnChangesRow.holds Try.pinned (OpenSpec.ofChange fnChangesSpec)

/-- ITS FALSE NEIGHBOUR: 'it returns false'. Refute it at one input. -/
def fnChangesWrong : ChangeSpec := { name := "fnChanges", fn := fun _ => fun
  | [d] => { results := [.lit (.bool false)], args := [d] }
  | _ => none }
def FnChangesWrongFalsely : Prop := fnChangesRow.holds Try.pinned (OpenSpec.ofChange fnChangesWrong)

/-- 'laws.FnExactSortNotes': WHATEVER THE INPUT: true; the input reads as it did. -/
def fnExactSortNotesSpec : ChangeSpec := { name := "fnExactSortNotes", fn := fun _ => fun
  | [d] => { results := [.lit (.bool true)], args := [d] }
  | _ => none }
def fnExactSortNotesRow : OpenClaim := { program := "ytcklhdbfgchgkaa", sum := "724e2f76832c78b0785828d6b22454891cc897f777c46136bea1ce696594c4a2", func := "loop.example/g03309/laws.FnExactSortNotes", spec := "fnExactSortNotes", unfollowed := true, recurses := true, apart := false }
def FnExactSortNotesSaid : Prop := fnExactSortNotesRow.holds Try.pinned (OpenSpec.ofChange fnExactSortNotesSpec)

/-- ITS FALSE NEIGHBOUR: 'it returns false'. Refute it at one input. -/
def fnExactSortNotesWrong : ChangeSpec := { name := "fnExactSortNotes", fn := fun _ => fun
  | [d] => { results := [.lit (.bool false)], args := [d] }
  | _ => none }
def FnExactSortNotesWrongFalsely : Prop := fnExactSortNotesRow.holds Try.pinned (OpenSpec.ofChange fnExactSortNotesWrong)

/-- 'laws.FnExactHigher': WHATEVER THE INPUT: true; the input reads as it did. -/
def fnExactHigherSpec : ChangeSpec := { name := "fnExactHigher", fn := fun _ => fun
  | [d1, d2] => { results := [.lit (.bool true)], args := [d1, d2] }
  | _ => none }
def fnExactHigherRow : OpenClaim := { program := "ytcklhdbfgchgkaa", sum := "724e2f76832c78b0785828d6b22454891cc897f777c46136bea1ce696594c4a2", func := "loop.example/g03309/laws.FnExactHigher", spec := "fnExactHigher", unfollowed := true, recurses := true, apart := false }
def FnExactHigherSaid : Prop := fnExactHigherRow.holds Try.pinned (OpenSpec.ofChange fnExactHigherSpec)

/-- ITS FALSE NEIGHBOUR: 'it returns false'. Refute it at one input. -/
def fnExactHigherWrong : ChangeSpec := { name := "fnExactHigher", fn := fun _ => fun
  | [d1, d2] => { results := [.lit (.bool false)], args := [d1, d2] }
  | _ => none }
def FnExactHigherWrongFalsely : Prop := fnExactHigherRow.holds Try.pinned (OpenSpec.ofChange fnExactHigherWrong)

/-- 'laws.FnExactLater': WHATEVER THE INPUT: true; the input reads as it did. -/
def fnExactLaterSpec : ChangeSpec := { name := "fnExactLater", fn := fun _ => fun
  | [d1, d2] => { results := [.lit (.bool true)], args := [d1, d2] }
  | _ => none }
def fnExactLaterRow : OpenClaim := { program := "ytcklhdbfgchgkaa", sum := "724e2f76832c78b0785828d6b22454891cc897f777c46136bea1ce696594c4a2", func := "loop.example/g03309/laws.FnExactLater", spec := "fnExactLater", unfollowed := true, recurses := true, apart := false }
def FnExactLaterSaid : Prop := fnExactLaterRow.holds Try.pinned (OpenSpec.ofChange fnExactLaterSpec)

/-- ITS FALSE NEIGHBOUR: 'it returns false'. Refute it at one input. -/
def fnExactLaterWrong : ChangeSpec := { name := "fnExactLater", fn := fun _ => fun
  | [d1, d2] => { results := [.lit (.bool false)], args := [d1, d2] }
  | _ => none }
def FnExactLaterWrongFalsely : Prop := fnExactLaterRow.holds Try.pinned (OpenSpec.ofChange fnExactLaterWrong)

/-- 'laws.FnExactSlower': WHATEVER THE INPUT: true; the input reads as it did. -/
def fnExactSlowerSpec : ChangeSpec := { name := "fnExactSlower", fn := fun _ => fun
  | [d1, d2] => { results := [.lit (.bool true)], args := [d1, d2] }
  | _ => none }
def fnExactSlowerRow : OpenClaim := { program := "ytcklhdbfgchgkaa", sum := "724e2f76832c78b0785828d6b22454891cc897f777c46136bea1ce696594c4a2", func := "loop.example/g03309/laws.FnExactSlower", spec := "fnExactSlower", unfollowed := true, recurses := true, apart := false }
def FnExactSlowerSaid : Prop := fnExactSlowerRow.holds Try.pinned (OpenSpec.ofChange fnExactSlowerSpec)

/-- ITS FALSE NEIGHBOUR: 'it returns false'. Refute it at one input. -/
def fnExactSlowerWrong : ChangeSpec := { name := "fnExactSlower", fn := fun _ => fun
  | [d1, d2] => { results := [.lit (.bool false)], args := [d1, d2] }
  | _ => none }
def FnExactSlowerWrongFalsely : Prop := fnExactSlowerRow.holds Try.pinned (OpenSpec.ofChange fnExactSlowerWrong)

/-- 'laws.FnExactBackward': WHATEVER THE INPUT: true; the input reads as it did. -/
def fnExactBackwardSpec : ChangeSpec := { name := "fnExactBackward", fn := fun _ => fun
  | [d] => { results := [.lit (.bool true)], args := [d] }
  | _ => none }
def fnExactBackwardRow : OpenClaim := { program := "ytcklhdbfgchgkaa", sum := "724e2f76832c78b0785828d6b22454891cc897f777c46136bea1ce696594c4a2", func := "loop.example/g03309/laws.FnExactBackward", spec := "fnExactBackward", unfollowed := true, recurses := true, apart := false }
def FnExactBackwardSaid : Prop := fnExactBackwardRow.holds Try.pinned (OpenSpec.ofChange fnExactBackwardSpec)

/-- ITS FALSE NEIGHBOUR: 'it returns false'. Refute it at one input. -/
def fnExactBackwardWrong : ChangeSpec := { name := "fnExactBackward", fn := fun _ => fun
  | [d] => { results := [.lit (.bool false)], args := [d] }
  | _ => none }
def FnExactBackwardWrongFalsely : Prop := fnExactBackwardRow.holds Try.pinned (OpenSpec.ofChange fnExactBackwardWrong)

/-- 'laws.FnExactUpsideDown': WHATEVER THE INPUT: true; the input reads as it did. -/
def fnExactUpsideDownSpec : ChangeSpec := { name := "fnExactUpsideDown", fn := fun _ => fun
  | [d] => { results := [.lit (.bool true)], args := [d] }
  | _ => none }
def fnExactUpsideDownRow : OpenClaim := { program := "ytcklhdbfgchgkaa", sum := "724e2f76832c78b0785828d6b22454891cc897f777c46136bea1ce696594c4a2", func := "loop.example/g03309/laws.FnExactUpsideDown", spec := "fnExactUpsideDown", unfollowed := true, recurses := true, apart := false }
def FnExactUpsideDownSaid : Prop := fnExactUpsideDownRow.holds Try.pinned (OpenSpec.ofChange fnExactUpsideDownSpec)

/-- ITS FALSE NEIGHBOUR: 'it returns false'. Refute it at one input. -/
def fnExactUpsideDownWrong : ChangeSpec := { name := "fnExactUpsideDown", fn := fun _ => fun
  | [d] => { results := [.lit (.bool false)], args := [d] }
  | _ => none }
def FnExactUpsideDownWrongFalsely : Prop := fnExactUpsideDownRow.holds Try.pinned (OpenSpec.ofChange fnExactUpsideDownWrong)

/-- 'laws.FnExactJoinTunes': WHATEVER THE INPUT: true; the input reads as it did. -/
def fnExactJoinTunesSpec : ChangeSpec := { name := "fnExactJoinTunes", fn := fun _ => fun
  | [d1, d2] => { results := [.lit (.bool true)], args := [d1, d2] }
  | _ => none }
def fnExactJoinTunesRow : OpenClaim := { program := "ytcklhdbfgchgkaa", sum := "724e2f76832c78b0785828d6b22454891cc897f777c46136bea1ce696594c4a2", func := "loop.example/g03309/laws.FnExactJoinTunes", spec := "fnExactJoinTunes", unfollowed := true, recurses := true, apart := false }
def FnExactJoinTunesSaid : Prop := fnExactJoinTunesRow.holds Try.pinned (OpenSpec.ofChange fnExactJoinTunesSpec)

/-- ITS FALSE NEIGHBOUR: 'it returns false'. Refute it at one input. -/
def fnExactJoinTunesWrong : ChangeSpec := { name := "fnExactJoinTunes", fn := fun _ => fun
  | [d1, d2] => { results := [.lit (.bool false)], args := [d1, d2] }
  | _ => none }
def FnExactJoinTunesWrongFalsely : Prop := fnExactJoinTunesRow.holds Try.pinned (OpenSpec.ofChange fnExactJoinTunesWrong)

/-- 'laws.FnExactSameTune': WHATEVER THE INPUT: true; the input reads as it did. -/
def fnExactSameTuneSpec : ChangeSpec := { name := "fnExactSameTune", fn := fun _ => fun
  | [d1, d2] => { results := [.lit (.bool true)], args := [d1, d2] }
  | _ => none }
def fnExactSameTuneRow : OpenClaim := { program := "ytcklhdbfgchgkaa", sum := "724e2f76832c78b0785828d6b22454891cc897f777c46136bea1ce696594c4a2", func := "loop.example/g03309/laws.FnExactSameTune", spec := "fnExactSameTune", unfollowed := true, recurses := true, apart := false }
def FnExactSameTuneSaid : Prop := fnExactSameTuneRow.holds Try.pinned (OpenSpec.ofChange fnExactSameTuneSpec)

/-- ITS FALSE NEIGHBOUR: 'it returns false'. Refute it at one input. -/
def fnExactSameTuneWrong : ChangeSpec := { name := "fnExactSameTune", fn := fun _ => fun
  | [d1, d2] => { results := [.lit (.bool false)], args := [d1, d2] }
  | _ => none }
def FnExactSameTuneWrongFalsely : Prop := fnExactSameTuneRow.holds Try.pinned (OpenSpec.ofChange fnExactSameTuneWrong)

/- THE SECOND FORM. 'bulk': how many values and letters a reading holds, each counted each time it is reached (what is shared counts as often as it is met; a slice's spare places count too). A statement '..UptoSaid' is the law's where the arguments, and the package variables that the reading takes, are together of bulk at most 1048576: NARROWER than '..Said'. Prove '..Said' where nothing that the law and all that it calls make is longer than what came in: it says more and counts as full. Else prove '..UptoSaid'. A law counts once. -/
mutual
def uptoBulk {H : Type} : DataW H → Nat
  | .lit (.string bytes) => bytes.length + 1
  | .lit _ => 1
  | .nil => 1
  | .ptr d => uptoBulk d + 1
  | .slice elems spare => uptoBulkAll elems + uptoBulkAll spare + 1
  | .agg parts => uptoBulkAll parts + 1
  | .iface _ d => uptoBulk d + 1
  | .map entries => uptoBulkEntries entries + 1
  | .held _ => 1
def uptoBulkAll {H : Type} : List (DataW H) → Nat
  | [] => 0
  | d :: r => uptoBulk d + uptoBulkAll r
def uptoBulkEntries {H : Type} : List (Lit × DataW H) → Nat
  | [] => 0
  | x :: r => uptoBulkEntry x + uptoBulkEntries r
def uptoBulkEntry {H : Type} : Lit × DataW H → Nat
  | (.string bytes, d) => bytes.length + uptoBulk d + 1
  | (_, d) => uptoBulk d + 1
 end
def uptoSmall : (H : Type) → List (DataW H) → Bool := fun _ ds => decide (uptoBulkAll ds ≤ 1048576)
def OpenSpec.upto (s : _root_.Go.ChangeSpec) : _root_.Go.OpenSpec := { _root_.Go.OpenSpec.ofChange s with cond := some uptoSmall }

/-- 'laws.FnTunes', WHERE WHAT IT READS IS OF BULK AT MOST 1048576: true; the input reads as it did. -/
def fnTunesUptoRow : OpenClaim := { program := "ytcklhdbfgchgkaa", sum := "724e2f76832c78b0785828d6b22454891cc897f777c46136bea1ce696594c4a2", func := "loop.example/g03309/laws.FnTunes", spec := "fnTunes", inPlace := ["slices.overlaps[loop.example/g03309/impl.Note]"], unfollowed := true, recurses := true, apart := false, narrowed := true }
def FnTunesUptoSaid : Prop := fnTunesUptoRow.holds Try.pinned (OpenSpec.upto fnTunesSpec)

/-- 'laws.FnChanges', WHERE WHAT IT READS IS OF BULK AT MOST 1048576: true; the input reads as it did. -/
def fnChangesUptoRow : OpenClaim := { program := "ytcklhdbfgchgkaa", sum := "724e2f76832c78b0785828d6b22454891cc897f777c46136bea1ce696594c4a2", func := "loop.example/g03309/laws.FnChanges", spec := "fnChanges", unfollowed := true, recurses := true, apart := false, narrowed := true }
def FnChangesUptoSaid : Prop := fnChangesUptoRow.holds Try.pinned (OpenSpec.upto fnChangesSpec)

/-- 'laws.FnExactSortNotes', WHERE WHAT IT READS IS OF BULK AT MOST 1048576: true; the input reads as it did. -/
def fnExactSortNotesUptoRow : OpenClaim := { program := "ytcklhdbfgchgkaa", sum := "724e2f76832c78b0785828d6b22454891cc897f777c46136bea1ce696594c4a2", func := "loop.example/g03309/laws.FnExactSortNotes", spec := "fnExactSortNotes", unfollowed := true, recurses := true, apart := false, narrowed := true }
def FnExactSortNotesUptoSaid : Prop := fnExactSortNotesUptoRow.holds Try.pinned (OpenSpec.upto fnExactSortNotesSpec)

/-- 'laws.FnExactHigher', WHERE WHAT IT READS IS OF BULK AT MOST 1048576: true; the input reads as it did. -/
def fnExactHigherUptoRow : OpenClaim := { program := "ytcklhdbfgchgkaa", sum := "724e2f76832c78b0785828d6b22454891cc897f777c46136bea1ce696594c4a2", func := "loop.example/g03309/laws.FnExactHigher", spec := "fnExactHigher", unfollowed := true, recurses := true, apart := false, narrowed := true }
def FnExactHigherUptoSaid : Prop := fnExactHigherUptoRow.holds Try.pinned (OpenSpec.upto fnExactHigherSpec)

/-- 'laws.FnExactLater', WHERE WHAT IT READS IS OF BULK AT MOST 1048576: true; the input reads as it did. -/
def fnExactLaterUptoRow : OpenClaim := { program := "ytcklhdbfgchgkaa", sum := "724e2f76832c78b0785828d6b22454891cc897f777c46136bea1ce696594c4a2", func := "loop.example/g03309/laws.FnExactLater", spec := "fnExactLater", unfollowed := true, recurses := true, apart := false, narrowed := true }
def FnExactLaterUptoSaid : Prop := fnExactLaterUptoRow.holds Try.pinned (OpenSpec.upto fnExactLaterSpec)

/-- 'laws.FnExactSlower', WHERE WHAT IT READS IS OF BULK AT MOST 1048576: true; the input reads as it did. -/
def fnExactSlowerUptoRow : OpenClaim := { program := "ytcklhdbfgchgkaa", sum := "724e2f76832c78b0785828d6b22454891cc897f777c46136bea1ce696594c4a2", func := "loop.example/g03309/laws.FnExactSlower", spec := "fnExactSlower", unfollowed := true, recurses := true, apart := false, narrowed := true }
def FnExactSlowerUptoSaid : Prop := fnExactSlowerUptoRow.holds Try.pinned (OpenSpec.upto fnExactSlowerSpec)

/-- 'laws.FnExactBackward', WHERE WHAT IT READS IS OF BULK AT MOST 1048576: true; the input reads as it did. -/
def fnExactBackwardUptoRow : OpenClaim := { program := "ytcklhdbfgchgkaa", sum := "724e2f76832c78b0785828d6b22454891cc897f777c46136bea1ce696594c4a2", func := "loop.example/g03309/laws.FnExactBackward", spec := "fnExactBackward", unfollowed := true, recurses := true, apart := false, narrowed := true }
def FnExactBackwardUptoSaid : Prop := fnExactBackwardUptoRow.holds Try.pinned (OpenSpec.upto fnExactBackwardSpec)

/-- 'laws.FnExactUpsideDown', WHERE WHAT IT READS IS OF BULK AT MOST 1048576: true; the input reads as it did. -/
def fnExactUpsideDownUptoRow : OpenClaim := { program := "ytcklhdbfgchgkaa", sum := "724e2f76832c78b0785828d6b22454891cc897f777c46136bea1ce696594c4a2", func := "loop.example/g03309/laws.FnExactUpsideDown", spec := "fnExactUpsideDown", unfollowed := true, recurses := true, apart := false, narrowed := true }
def FnExactUpsideDownUptoSaid : Prop := fnExactUpsideDownUptoRow.holds Try.pinned (OpenSpec.upto fnExactUpsideDownSpec)

/-- 'laws.FnExactJoinTunes', WHERE WHAT IT READS IS OF BULK AT MOST 1048576: true; the input reads as it did. -/
def fnExactJoinTunesUptoRow : OpenClaim := { program := "ytcklhdbfgchgkaa", sum := "724e2f76832c78b0785828d6b22454891cc897f777c46136bea1ce696594c4a2", func := "loop.example/g03309/laws.FnExactJoinTunes", spec := "fnExactJoinTunes", unfollowed := true, recurses := true, apart := false, narrowed := true }
def FnExactJoinTunesUptoSaid : Prop := fnExactJoinTunesUptoRow.holds Try.pinned (OpenSpec.upto fnExactJoinTunesSpec)

/-- 'laws.FnExactSameTune', WHERE WHAT IT READS IS OF BULK AT MOST 1048576: true; the input reads as it did. -/
def fnExactSameTuneUptoRow : OpenClaim := { program := "ytcklhdbfgchgkaa", sum := "724e2f76832c78b0785828d6b22454891cc897f777c46136bea1ce696594c4a2", func := "loop.example/g03309/laws.FnExactSameTune", spec := "fnExactSameTune", unfollowed := true, recurses := true, apart := false, narrowed := true }
def FnExactSameTuneUptoSaid : Prop := fnExactSameTuneUptoRow.holds Try.pinned (OpenSpec.upto fnExactSameTuneSpec)

end Rows
end Go.Proofs.Ytcklhdbfgchgkaa
