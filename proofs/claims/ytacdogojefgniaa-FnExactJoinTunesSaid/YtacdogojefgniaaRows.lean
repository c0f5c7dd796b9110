/-
  No cell of these rows narrows 'for every input' (looked for: loops, veiled, ifaces, maps, wideKeys, modest, calm, conditions, laid).
  DERIVED. THE GIVEN ROWS OF THIS SEAT. 12 by the template 'for every input the law returns true; each argument reads behind the call as it read before'; 0 by the template 'total and deterministic' (their statements: YtacdogojefgniaaTotals.lean).
  GIVEN WITH THE SEED: the statements are not yours to turn. If you find one false, say at which input.
  Laid BY PROGRAM, IN A SANDBOX (cutbox-rows.mjs): the forced cells as the released guide's own fill.sh prints them over the translation 3b4f334146109dfc… (all of the seat's roots in one cut). By AI agents, Wed Nov 11 2026. No macro, syntax, notation, axiom, sorry.
-/
import Derived.Test.YtacdogojefgniaaChecked
import GoSem.Claim
import GoSem.ClaimJoined
import GoSem.ClaimMapViews
import Derived.JoinedTies
import Derived.KernelRfl
namespace Go.Proofs.Ytacdogojefgniaa
/- THE CELL 'sum', in the pinned program and in every row, IS THE sha256 OF THE DUMP (.gsa) THAT YtacdogojefgniaaProg.lean LOADS. Nothing in Lean hashes anything: it is a label: what it is worth is what the hold of that sum in a sandbox is worth. -/
noncomputable def Try.pinned : Pinned := { name := "ytacdogojefgniaa", sum := "3b4f334146109dfc2e9a05f6d038581eb80e95033575734a83f8f66eb5fffa31", checked := Try.checked }
namespace Rows
def none {H : Type} : Left H := { results := [], args := [] }

/-- 'laws.FnExactTuneOk': WHATEVER THE INPUT: true; the input reads as it did. -/
def fnExactTuneOkSpec : ChangeSpec := { name := "fnExactTuneOk", fn := fun _ => fun
  | [d] => { results := [.lit (.bool true)], args := [d] }
  | _ => none }
def fnExactTuneOkRow : OpenClaim := { program := "ytacdogojefgniaa", sum := "3b4f334146109dfc2e9a05f6d038581eb80e95033575734a83f8f66eb5fffa31", func := "loop.example/g03309/laws.FnExactTuneOk", spec := "fnExactTuneOk", apart := false }
def FnExactTuneOkSaid : Prop := fnExactTuneOkRow.holds Try.pinned (OpenSpec.ofChange fnExactTuneOkSpec)

/-- ITS FALSE NEIGHBOUR: 'it returns false'. Refute it at one input. -/
def fnExactTuneOkWrong : ChangeSpec := { name := "fnExactTuneOk", fn := fun _ => fun
  | [d] => { results := [.lit (.bool false)], args := [d] }
  | _ => none }
def FnExactTuneOkWrongFalsely : Prop := fnExactTuneOkRow.holds Try.pinned (OpenSpec.ofChange fnExactTuneOkWrong)

/-- 'laws.FnExactLasts': WHATEVER THE INPUT: true; the input reads as it did. -/
def fnExactLastsSpec : ChangeSpec := { name := "fnExactLasts", fn := fun _ => fun
  | [d] => { results := [.lit (.bool true)], args := [d] }
  | _ => none }
def fnExactLastsRow : OpenClaim := { program := "ytacdogojefgniaa", sum := "3b4f334146109dfc2e9a05f6d038581eb80e95033575734a83f8f66eb5fffa31", func := "loop.example/g03309/laws.FnExactLasts", spec := "fnExactLasts", apart := false }
def FnExactLastsSaid : Prop := fnExactLastsRow.holds Try.pinned (OpenSpec.ofChange fnExactLastsSpec)

/-- ITS FALSE NEIGHBOUR: 'it returns false'. Refute it at one input. -/
def fnExactLastsWrong : ChangeSpec := { name := "fnExactLasts", fn := fun _ => fun
  | [d] => { results := [.lit (.bool false)], args := [d] }
  | _ => none }
def FnExactLastsWrongFalsely : Prop := fnExactLastsRow.holds Try.pinned (OpenSpec.ofChange fnExactLastsWrong)

/-- 'laws.FnExactPitchRange': WHATEVER THE INPUT: true; the input reads as it did. -/
def fnExactPitchRangeSpec : ChangeSpec := { name := "fnExactPitchRange", fn := fun _ => fun
  | [d] => { results := [.lit (.bool true)], args := [d] }
  | _ => none }
def fnExactPitchRangeRow : OpenClaim := { program := "ytacdogojefgniaa", sum := "3b4f334146109dfc2e9a05f6d038581eb80e95033575734a83f8f66eb5fffa31", func := "loop.example/g03309/laws.FnExactPitchRange", spec := "fnExactPitchRange", apart := false }
def FnExactPitchRangeSaid : Prop := fnExactPitchRangeRow.holds Try.pinned (OpenSpec.ofChange fnExactPitchRangeSpec)

/-- ITS FALSE NEIGHBOUR: 'it returns false'. Refute it at one input. -/
def fnExactPitchRangeWrong : ChangeSpec := { name := "fnExactPitchRange", fn := fun _ => fun
  | [d] => { results := [.lit (.bool false)], args := [d] }
  | _ => none }
def FnExactPitchRangeWrongFalsely : Prop := fnExactPitchRangeRow.holds Try.pinned (OpenSpec.ofChange fnExactPitchRangeWrong)

/-- 'laws.FnExactNotesAt': WHATEVER THE INPUT: true; the input reads as it did. -/
def fnExactNotesAtSpec : ChangeSpec := { name := "fnExactNotesAt", fn := fun _ => fun
  | [d1, d2] => { results := [.lit (.bool true)], args := [d1, d2] }
  | _ => none }
def fnExactNotesAtRow : OpenClaim := { program := "ytacdogojefgniaa", sum := "3b4f334146109dfc2e9a05f6d038581eb80e95033575734a83f8f66eb5fffa31", func := "loop.example/g03309/laws.FnExactNotesAt", spec := "fnExactNotesAt", apart := false }
def FnExactNotesAtSaid : Prop := fnExactNotesAtRow.holds Try.pinned (OpenSpec.ofChange fnExactNotesAtSpec)

/-- ITS FALSE NEIGHBOUR: 'it returns false'. Refute it at one input. -/
def fnExactNotesAtWrong : ChangeSpec := { name := "fnExactNotesAt", fn := fun _ => fun
  | [d1, d2] => { results := [.lit (.bool false)], args := [d1, d2] }
  | _ => none }
def FnExactNotesAtWrongFalsely : Prop := fnExactNotesAtRow.holds Try.pinned (OpenSpec.ofChange fnExactNotesAtWrong)

/-- 'laws.FnExactAddNote': WHATEVER THE INPUT: true; the input reads as it did. -/
def fnExactAddNoteSpec : ChangeSpec := { name := "fnExactAddNote", fn := fun _ => fun
  | [d1, d2] => { results := [.lit (.bool true)], args := [d1, d2] }
  | _ => none }
def fnExactAddNoteRow : OpenClaim := { program := "ytacdogojefgniaa", sum := "3b4f334146109dfc2e9a05f6d038581eb80e95033575734a83f8f66eb5fffa31", func := "loop.example/g03309/laws.FnExactAddNote", spec := "fnExactAddNote", inPlace := ["slices.overlaps[loop.example/g03309/impl.Note]"], unfollowed := true, recurses := true, apart := false }
def FnExactAddNoteSaid : Prop := fnExactAddNoteRow.holds Try.pinned (OpenSpec.ofChange fnExactAddNoteSpec)

/-- ITS FALSE NEIGHBOUR: 'it returns false'. Refute it at one input. -/
def fnExactAddNoteWrong : ChangeSpec := { name := "fnExactAddNote", fn := fun _ => fun
  | [d1, d2] => { results := [.lit (.bool false)], args := [d1, d2] }
  | _ => none }
def FnExactAddNoteWrongFalsely : Prop := fnExactAddNoteRow.holds Try.pinned (OpenSpec.ofChange fnExactAddNoteWrong)

/-- 'laws.FnTunes': WHATEVER THE INPUT: true; the input reads as it did. -/
def fnTunesSpec : ChangeSpec := { name := "fnTunes", fn := fun _ => fun
  | [d] => { results := [.lit (.bool true)], args := [d] }
  | _ => none }
def fnTunesRow : OpenClaim := { program := "ytacdogojefgniaa", sum := "3b4f334146109dfc2e9a05f6d038581eb80e95033575734a83f8f66eb5fffa31", func := "loop.example/g03309/laws.FnTunes", spec := "fnTunes", inPlace := ["slices.overlaps[loop.example/g03309/impl.Note]"], unfollowed := true, recurses := true, apart := false }
def FnTunesSaid : Prop := fnTunesRow.holds Try.pinned (OpenSpec.ofChange fnTunesSpec)

/-- ITS FALSE NEIGHBOUR: 'it returns false'. Refute it at one input. -/
def fnTunesWrong : ChangeSpec := { name := "fnTunes", fn := fun _ => fun
  | [d] => { results := [.lit (.bool false)], args := [d] }
  | _ => none }
def FnTunesWrongFalsely : Prop := fnTunesRow.holds Try.pinned (OpenSpec.ofChange fnTunesWrong)

/-- 'laws.FnExactHigher': WHATEVER THE INPUT: true; the input reads as it did. -/
def fnExactHigherSpec : ChangeSpec := { name := "fnExactHigher", fn := fun _ => fun
  | [d1, d2] => { results := [.lit (.bool true)], args := [d1, d2] }
  | _ => none }
def fnExactHigherRow : OpenClaim := { program := "ytacdogojefgniaa", sum := "3b4f334146109dfc2e9a05f6d038581eb80e95033575734a83f8f66eb5fffa31", func := "loop.example/g03309/laws.FnExactHigher", spec := "fnExactHigher", unfollowed := true, recurses := true, apart := false }
def FnExactHigherSaid : Prop := fnExactHigherRow.holds Try.pinned (OpenSpec.ofChange fnExactHigherSpec)

/-- ITS FALSE NEIGHBOUR: 'it returns false'. Refute it at one input. -/
def fnExactHigherWrong : ChangeSpec := { name := "fnExactHigher", fn := fun _ => fun
  | [d1, d2] => { results := [.lit (.bool false)], args := [d1, d2] }
  | _ => none }
def FnExactHigherWrongFalsely : Prop := fnExactHigherRow.holds Try.pinned (OpenSpec.ofChange fnExactHigherWrong)

/-- 'laws.FnExactLater': WHATEVER THE INPUT: true; the input reads as it did. -/
def fnExactLaterSpec : ChangeSpec := { name := "fnExactLater", fn := fun _ => fun
  | [d1, d2] => { results := [.lit (.bool true)], args := [d1, d2] }
  | _ => none }
def fnExactLaterRow : OpenClaim := { program := "ytacdogojefgniaa", sum := "3b4f334146109dfc2e9a05f6d038581eb80e95033575734a83f8f66eb5fffa31", func := "loop.example/g03309/laws.FnExactLater", spec := "fnExactLater", unfollowed := true, recurses := true, apart := false }
def FnExactLaterSaid : Prop := fnExactLaterRow.holds Try.pinned (OpenSpec.ofChange fnExactLaterSpec)

/-- ITS FALSE NEIGHBOUR: 'it returns false'. Refute it at one input. -/
def fnExactLaterWrong : ChangeSpec := { name := "fnExactLater", fn := fun _ => fun
  | [d1, d2] => { results := [.lit (.bool false)], args := [d1, d2] }
  | _ => none }
def FnExactLaterWrongFalsely : Prop := fnExactLaterRow.holds Try.pinned (OpenSpec.ofChange fnExactLaterWrong)

/-- 'laws.FnExactSlower': WHATEVER THE INPUT: true; the input reads as it did. -/
def fnExactSlowerSpec : ChangeSpec := { name := "fnExactSlower", fn := fun _ => fun
  | [d1, d2] => { results := [.lit (.bool true)], args := [d1, d2] }
  | _ => none }
def fnExactSlowerRow : OpenClaim := { program := "ytacdogojefgniaa", sum := "3b4f334146109dfc2e9a05f6d038581eb80e95033575734a83f8f66eb5fffa31", func := "loop.example/g03309/laws.FnExactSlower", spec := "fnExactSlower", unfollowed := true, recurses := true, apart := false }
def FnExactSlowerSaid : Prop := fnExactSlowerRow.holds Try.pinned (OpenSpec.ofChange fnExactSlowerSpec)

/-- ITS FALSE NEIGHBOUR: 'it returns false'. Refute it at one input. -/
def fnExactSlowerWrong : ChangeSpec := { name := "fnExactSlower", fn := fun _ => fun
  | [d1, d2] => { results := [.lit (.bool false)], args := [d1, d2] }
  | _ => none }
def FnExactSlowerWrongFalsely : Prop := fnExactSlowerRow.holds Try.pinned (OpenSpec.ofChange fnExactSlowerWrong)

/-- 'laws.FnExactBackward': WHATEVER THE INPUT: true; the input reads as it did. -/
def fnExactBackwardSpec : ChangeSpec := { name := "fnExactBackward", fn := fun _ => fun
  | [d] => { results := [.lit (.bool true)], args := [d] }
  | _ => none }
def fnExactBackwardRow : OpenClaim := { program := "ytacdogojefgniaa", sum := "3b4f334146109dfc2e9a05f6d038581eb80e95033575734a83f8f66eb5fffa31", func := "loop.example/g03309/laws.FnExactBackward", spec := "fnExactBackward", unfollowed := true, recurses := true, apart := false }
def FnExactBackwardSaid : Prop := fnExactBackwardRow.holds Try.pinned (OpenSpec.ofChange fnExactBackwardSpec)

/-- ITS FALSE NEIGHBOUR: 'it returns false'. Refute it at one input. -/
def fnExactBackwardWrong : ChangeSpec := { name := "fnExactBackward", fn := fun _ => fun
  | [d] => { results := [.lit (.bool false)], args := [d] }
  | _ => none }
def FnExactBackwardWrongFalsely : Prop := fnExactBackwardRow.holds Try.pinned (OpenSpec.ofChange fnExactBackwardWrong)

/-- 'laws.FnExactJoinTunes': WHATEVER THE INPUT: true; the input reads as it did. -/
def fnExactJoinTunesSpec : ChangeSpec := { name := "fnExactJoinTunes", fn := fun _ => fun
  | [d1, d2] => { results := [.lit (.bool true)], args := [d1, d2] }
  | _ => none }
def fnExactJoinTunesRow : OpenClaim := { program := "ytacdogojefgniaa", sum := "3b4f334146109dfc2e9a05f6d038581eb80e95033575734a83f8f66eb5fffa31", func := "loop.example/g03309/laws.FnExactJoinTunes", spec := "fnExactJoinTunes", unfollowed := true, recurses := true, apart := false }
def FnExactJoinTunesSaid : Prop := fnExactJoinTunesRow.holds Try.pinned (OpenSpec.ofChange fnExactJoinTunesSpec)

/-- ITS FALSE NEIGHBOUR: 'it returns false'. Refute it at one input. -/
def fnExactJoinTunesWrong : ChangeSpec := { name := "fnExactJoinTunes", fn := fun _ => fun
  | [d1, d2] => { results := [.lit (.bool false)], args := [d1, d2] }
  | _ => none }
def FnExactJoinTunesWrongFalsely : Prop := fnExactJoinTunesRow.holds Try.pinned (OpenSpec.ofChange fnExactJoinTunesWrong)

/-- 'laws.FnExactSameTune': WHATEVER THE INPUT: true; the input reads as it did. -/
def fnExactSameTuneSpec : ChangeSpec := { name := "fnExactSameTune", fn := fun _ => fun
  | [d1, d2] => { results := [.lit (.bool true)], args := [d1, d2] }
  | _ => none }
def fnExactSameTuneRow : OpenClaim := { program := "ytacdogojefgniaa", sum := "3b4f334146109dfc2e9a05f6d038581eb80e95033575734a83f8f66eb5fffa31", func := "loop.example/g03309/laws.FnExactSameTune", spec := "fnExactSameTune", unfollowed := true, recurses := true, apart := false }
def FnExactSameTuneSaid : Prop := fnExactSameTuneRow.holds Try.pinned (OpenSpec.ofChange fnExactSameTuneSpec)

/-- ITS FALSE NEIGHBOUR: 'it returns false'. Refute it at one input. -/
def fnExactSameTuneWrong : ChangeSpec := { name := "fnExactSameTune", fn := fun _ => fun
  | [d1, d2] => { results := [.lit (.bool false)], args := [d1, d2] }
  | _ => none }
def FnExactSameTuneWrongFalsely : Prop := fnExactSameTuneRow.holds Try.pinned (OpenSpec.ofChange fnExactSameTuneWrong)

/- THE SECOND FORM. 'bulk': how many values and letters a reading holds, each counted each time it is reached (what is shared counts as often as it is met; a slice's spare places count too). A statement '..UptoSaid' is the law's where the arguments, and the package variables that the reading takes, are together of bulk at most 1048576: NARROWER than '..Said'. Prove '..Said' where nothing that the law and all that it calls make is longer than what came in: it says more and counts as full. Else prove '..UptoSaid'. A law counts once. -/
mutual
def uptoBulk {H : Type} : DataW H → Nat
  | .lit (.string bytes) => bytes.length + 1
  | .lit _ => 1
  | .nil => 1
  | .ptr d => uptoBulk d + 1
  | .slice elems spare => uptoBulkAll elems + uptoBulkAll spare + 1
  | .agg parts => uptoBulkAll parts + 1
  | .iface _ d => uptoBulk d + 1
  | .map entries => uptoBulkEntries entries + 1
  | .held _ => 1
def uptoBulkAll {H : Type} : List (DataW H) → Nat
  | [] => 0
  | d :: r => uptoBulk d + uptoBulkAll r
def uptoBulkEntries {H : Type} : List (Lit × DataW H) → Nat
  | [] => 0
  | x :: r => uptoBulkEntry x + uptoBulkEntries r
def uptoBulkEntry {H : Type} : Lit × DataW H → Nat
  | (.string bytes, d) => bytes.length + uptoBulk d + 1
  | (_, d) => uptoBulk d + 1
 end
def uptoSmall : (H : Type) → List (DataW H) → Bool := fun _ ds => decide (uptoBulkAll ds ≤ 1048576)
def OpenSpec.upto (s : _root_.Go.ChangeSpec) : _root_.Go.OpenSpec := { _root_.Go.OpenSpec.ofChange s with cond := some uptoSmall }

/-- 'laws.FnExactTuneOk', WHERE WHAT IT READS IS OF BULK AT MOST 1048576: true; the input reads as it did. -/
def fnExactTuneOkUptoRow : OpenClaim := { program := "ytacdogojefgniaa", sum := "3b4f334146109dfc2e9a05f6d038581eb80e95033575734a83f8f66eb5fffa31", func := "loop.example/g03309/laws.FnExactTuneOk", spec := "fnExactTuneOk", apart := false, narrowed := true }
def FnExactTuneOkUptoSaid : Prop := fnExactTuneOkUptoRow.holds Try.pinned (OpenSpec.upto fnExactTuneOkSpec)

/-- 'laws.FnExactLasts', WHERE WHAT IT READS IS OF BULK AT MOST 1048576: true; the input reads as it did. -/
def fnExactLastsUptoRow : OpenClaim := { program := "ytacdogojefgniaa", sum := "3b4f334146109dfc2e9a05f6d038581eb80e95033575734a83f8f66eb5fffa31", func := "loop.example/g03309/laws.FnExactLasts", spec := "fnExactLasts", apart := false, narrowed := true }
def FnExactLastsUptoSaid : Prop := fnExactLastsUptoRow.holds Try.pinned (OpenSpec.upto fnExactLastsSpec)

/-- 'laws.FnExactPitchRange', WHERE WHAT IT READS IS OF BULK AT MOST 1048576: true; the input reads as it did. -/
def fnExactPitchRangeUptoRow : OpenClaim := { program := "ytacdogojefgniaa", sum := "3b4f334146109dfc2e9a05f6d038581eb80e95033575734a83f8f66eb5fffa31", func := "loop.example/g03309/laws.FnExactPitchRange", spec := "fnExactPitchRange", apart := false, narrowed := true }
def FnExactPitchRangeUptoSaid : Prop := fnExactPitchRangeUptoRow.holds Try.pinned (OpenSpec.upto fnExactPitchRangeSpec)

/-- 'laws.FnExactNotesAt', WHERE WHAT IT READS IS OF BULK AT MOST 1048576: true; the input reads as it did. -/
def fnExactNotesAtUptoRow : OpenClaim := { program := "ytacdogojefgniaa", sum := "3b4f334146109dfc2e9a05f6d038581eb80e95033575734a83f8f66eb5fffa31", func := "loop.example/g03309/laws.FnExactNotesAt", spec := "fnExactNotesAt", apart := false, narrowed := true }
def FnExactNotesAtUptoSaid : Prop := fnExactNotesAtUptoRow.holds Try.pinned (OpenSpec.upto fnExactNotesAtSpec)

/-- 'laws.FnExactAddNote', WHERE WHAT IT READS IS OF BULK AT MOST 1048576: true; the input reads as it did. -/
def fnExactAddNoteUptoRow : OpenClaim := { program := "ytacdogojefgniaa", sum := "3b4f334146109dfc2e9a05f6d038581eb80e95033575734a83f8f66eb5fffa31", func := "loop.example/g03309/laws.FnExactAddNote", spec := "fnExactAddNote", inPlace := ["slices.overlaps[loop.example/g03309/impl.Note]"], unfollowed := true, recurses := true, apart := false, narrowed := true }
def FnExactAddNoteUptoSaid : Prop := fnExactAddNoteUptoRow.holds Try.pinned (OpenSpec.upto fnExactAddNoteSpec)

/-- 'laws.FnTunes', WHERE WHAT IT READS IS OF BULK AT MOST 1048576: true; the input reads as it did. -/
def fnTunesUptoRow : OpenClaim := { program := "ytacdogojefgniaa", sum := "3b4f334146109dfc2e9a05f6d038581eb80e95033575734a83f8f66eb5fffa31", func := "loop.example/g03309/laws.FnTunes", spec := "fnTunes", inPlace := ["slices.overlaps[loop.example/g03309/impl.Note]"], unfollowed := true, recurses := true, apart := false, narrowed := true }
def FnTunesUptoSaid : Prop := fnTunesUptoRow.holds Try.pinned (OpenSpec.upto fnTunesSpec)

/-- 'laws.FnExactHigher', WHERE WHAT IT READS IS OF BULK AT MOST 1048576: true; the input reads as it did. -/
def fnExactHigherUptoRow : OpenClaim := { program := "ytacdogojefgniaa", sum := "3b4f334146109dfc2e9a05f6d038581eb80e95033575734a83f8f66eb5fffa31", func := "loop.example/g03309/laws.FnExactHigher", spec := "fnExactHigher", unfollowed := true, recurses := true, apart := false, narrowed := true }
def FnExactHigherUptoSaid : Prop := fnExactHigherUptoRow.holds Try.pinned (OpenSpec.upto fnExactHigherSpec)

/-- 'laws.FnExactLater', WHERE WHAT IT READS IS OF BULK AT MOST 1048576: true; the input reads as it did. -/
def fnExactLaterUptoRow : OpenClaim := { program := "ytacdogojefgniaa", sum := "3b4f334146109dfc2e9a05f6d038581eb80e95033575734a83f8f66eb5fffa31", func := "loop.example/g03309/laws.FnExactLater", spec := "fnExactLater", unfollowed := true, recurses := true, apart := false, narrowed := true }
def FnExactLaterUptoSaid : Prop := fnExactLaterUptoRow.holds Try.pinned (OpenSpec.upto fnExactLaterSpec)

/-- 'laws.FnExactSlower', WHERE WHAT IT READS IS OF BULK AT MOST 1048576: true; the input reads as it did. -/
def fnExactSlowerUptoRow : OpenClaim := { program := "ytacdogojefgniaa", sum := "3b4f334146109dfc2e9a05f6d038581eb80e95033575734a83f8f66eb5fffa31", func := "loop.example/g03309/laws.FnExactSlower", spec := "fnExactSlower", unfollowed := true, recurses := true, apart := false, narrowed := true }
def FnExactSlowerUptoSaid : Prop := fnExactSlowerUptoRow.holds Try.pinned (OpenSpec.upto fnExactSlowerSpec)

/-- 'laws.FnExactBackward', WHERE WHAT IT READS IS OF BULK AT MOST 1048576: true; the input reads as it did. -/
def fnExactBackwardUptoRow : OpenClaim := { program := "ytacdogojefgniaa", sum := "3b4f334146109dfc2e9a05f6d038581eb80e95033575734a83f8f66eb5fffa31", func := "loop.example/g03309/laws.FnExactBackward", spec := "fnExactBackward", unfollowed := true, recurses := true, apart := false, narrowed := true }
def FnExactBackwardUptoSaid : Prop := fnExactBackwardUptoRow.holds Try.pinned (OpenSpec.upto fnExactBackwardSpec)

/-- 'laws.FnExactJoinTunes', WHERE WHAT IT READS IS OF BULK AT MOST 1048576: true; the input reads as it did. -/
def fnExactJoinTunesUptoRow : OpenClaim := { program := "ytacdogojefgniaa", sum := "3b4f334146109dfc2e9a05f6d038581eb80e95033575734a83f8f66eb5fffa31", func := "loop.example/g03309/laws.FnExactJoinTunes", spec := "fnExactJoinTunes", unfollowed := true, recurses := true, apart := false, narrowed := true }
def FnExactJoinTunesUptoSaid : Prop := fnExactJoinTunesUptoRow.holds Try.pinned (OpenSpec.upto fnExactJoinTunesSpec)

/-- 'laws.FnExactSameTune', WHERE WHAT IT READS IS OF BULK AT MOST 1048576: true; the input reads as it did. -/
def fnExactSameTuneUptoRow : OpenClaim := { program := "ytacdogojefgniaa", sum := "3b4f334146109dfc2e9a05f6d038581eb80e95033575734a83f8f66eb5fffa31", func := "loop.example/g03309/laws.FnExactSameTune", spec := "fnExactSameTune", unfollowed := true, recurses := true, apart := false, narrowed := true }
def FnExactSameTuneUptoSaid : Prop := fnExactSameTuneUptoRow.holds Try.pinned (OpenSpec.upto fnExactSameTuneSpec)

end Rows
end Go.Proofs.Ytacdogojefgniaa
