/-
  No cell of these rows narrows 'for every input' (looked for: loops, veiled, ifaces, maps, wideKeys, modest, calm, conditions, laid).
  DERIVED. THE GIVEN ROWS OF THIS SEAT. 8 by the template 'for every input the law returns true; each argument reads behind the call as it read before'; 0 by the template 'total and deterministic' (their statements: YtjnkggingbbobaaTotals.lean).
  GIVEN WITH THE SEED: the statements are not yours to turn. If you find one false, say at which input.
  Laid BY PROGRAM, IN A SANDBOX (cutbox-rows.mjs): the forced cells as the released guide's own fill.sh prints them over the translation bccbe9267b8184b2… (all of the seat's roots in one cut). By AI agents, Wed Nov 11 2026. No macro, syntax, notation, axiom, sorry.
-/
import Derived.Test.YtjnkggingbbobaaChecked
import GoSem.Claim
import GoSem.ClaimJoined
import GoSem.ClaimMapViews
import Derived.JoinedTies
import Derived.KernelRfl
namespace Go.Proofs.Ytjnkggingbbobaa
/- THE CELL 'sum', in the pinned program and in every row, IS THE sha256 OF THE DUMP (.gsa) THAT YtjnkggingbbobaaProg.lean LOADS. Nothing in Lean hashes anything: it is a label: what it is worth is what the hold of that sum in a sandbox is worth. -/
noncomputable def Try.pinned : Pinned := { name := "ytjnkggingbbobaa", sum := "bccbe9267b8184b257436b336621beb05d3801d6bb9556045b22d2006b94cb97", checked := Try.checked }
namespace Rows
def none {H : Type} : Left H := { results := [], args := [] }

/-- 'laws.FnTunes': WHATEVER THE INPUT: true; the input reads as it did. -/
def fnTunesSpec : ChangeSpec := { name := "fnTunes", fn := fun _ => fun
  | [d] => { results := [.lit (.bool true)], args := [d] }
  | _ => none }
def fnTunesRow : OpenClaim := { program := "ytjnkggingbbobaa", sum := "bccbe9267b8184b257436b336621beb05d3801d6bb9556045b22d2006b94cb97", func := "loop.example/g03309/laws.FnTunes", spec := "fnTunes", inPlace := ["slices.overlaps[loop.example/g03309/impl.Note]"], unfollowed := true, recurses := true, apart := false }
def FnTunesSaid : Prop := fnTunesRow.holds Try.pinned (OpenSpec.ofChange fnTunesSpec)

/-- ITS FALSE NEIGHBOUR: 'it returns false'. Refute it at one input. -/
def fnTunesWrong : ChangeSpec := { name := "fnTunes", fn := fun _ => fun
  | [d] => { results := [.lit (.bool false)], args := [d] }
  | _ => none }
def FnTunesWrongFalsely : Prop := fnTunesRow.holds Try.pinned (OpenSpec.ofChange fnTunesWrong)

/-- 'laws.FnExactTuneOk': WHATEVER THE INPUT: true; the input reads as it did. -/
def fnExactTuneOkSpec : ChangeSpec := { name := "fnExactTuneOk", fn := fun _ => fun
  | [d] => { results := [.lit (.bool true)], args := [d] }
  | _ => none }
def fnExactTuneOkRow : OpenClaim := { program := "ytjnkggingbbobaa", sum := "bccbe9267b8184b257436b336621beb05d3801d6bb9556045b22d2006b94cb97", func := "loop.example/g03309/laws.FnExactTuneOk", spec := "fnExactTuneOk", apart := false }
def FnExactTuneOkSaid : Prop := fnExactTuneOkRow.holds Try.pinned (OpenSpec.ofChange fnExactTuneOkSpec)

/-- ITS FALSE NEIGHBOUR: 'it returns false'. Refute it at one input. -/
def fnExactTuneOkWrong : ChangeSpec := { name := "fnExactTuneOk", fn := fun _ => fun
  | [d] => { results := [.lit (.bool false)], args := [d] }
  | _ => none }
def FnExactTuneOkWrongFalsely : Prop := fnExactTuneOkRow.holds Try.pinned (OpenSpec.ofChange fnExactTuneOkWrong)

/-- 'laws.FnExactSortNotes': WHATEVER THE INPUT: true; the input reads as it did. -/
def fnExactSortNotesSpec : ChangeSpec := { name := "fnExactSortNotes", fn := fun _ => fun
  | [d] => { results := [.lit (.bool true)], args := [d] }
  | _ => none }
def fnExactSortNotesRow : OpenClaim := { program := "ytjnkggingbbobaa", sum := "bccbe9267b8184b257436b336621beb05d3801d6bb9556045b22d2006b94cb97", func := "loop.example/g03309/laws.FnExactSortNotes", spec := "fnExactSortNotes", unfollowed := true, recurses := true, apart := false }
def FnExactSortNotesSaid : Prop := fnExactSortNotesRow.holds Try.pinned (OpenSpec.ofChange fnExactSortNotesSpec)

/-- ITS FALSE NEIGHBOUR: 'it returns false'. Refute it at one input. -/
def fnExactSortNotesWrong : ChangeSpec := { name := "fnExactSortNotes", fn := fun _ => fun
  | [d] => { results := [.lit (.bool false)], args := [d] }
  | _ => none }
def FnExactSortNotesWrongFalsely : Prop := fnExactSortNotesRow.holds Try.pinned (OpenSpec.ofChange fnExactSortNotesWrong)

/-- 'laws.FnExactLasts': WHATEVER THE INPUT: true; the input reads as it did. -/
def fnExactLastsSpec : ChangeSpec := { name := "fnExactLasts", fn := fun _ => fun
  | [d] => { results := [.lit (.bool true)], args := [d] }
  | _ => none }
def fnExactLastsRow : OpenClaim := { program := "ytjnkggingbbobaa", sum := "bccbe9267b8184b257436b336621beb05d3801d6bb9556045b22d2006b94cb97", func := "loop.example/g03309/laws.FnExactLasts", spec := "fnExactLasts", apart := false }
def FnExactLastsSaid : Prop := fnExactLastsRow.holds Try.pinned (OpenSpec.ofChange fnExactLastsSpec)

/-- ITS FALSE NEIGHBOUR: 'it returns false'. Refute it at one input. -/
def fnExactLastsWrong : ChangeSpec := { name := "fnExactLasts", fn := fun _ => fun
  | [d] => { results := [.lit (.bool false)], args := [d] }
  | _ => none }
def FnExactLastsWrongFalsely : Prop := fnExactLastsRow.holds Try.pinned (OpenSpec.ofChange fnExactLastsWrong)

/-- 'laws.FnExactPitchRange': WHATEVER THE INPUT: true; the input reads as it did. -/
def fnExactPitchRangeSpec : ChangeSpec := { name := "fnExactPitchRange", fn := fun _ => fun
  | [d] => { results := [.lit (.bool true)], args := [d] }
  | _ => none }
def fnExactPitchRangeRow : OpenClaim := { program := "ytjnkggingbbobaa", sum := "bccbe9267b8184b257436b336621beb05d3801d6bb9556045b22d2006b94cb97", func := "loop.example/g03309/laws.FnExactPitchRange", spec := "fnExactPitchRange", apart := false }
def FnExactPitchRangeSaid : Prop := fnExactPitchRangeRow.holds Try.pinned (OpenSpec.ofChange fnExactPitchRangeSpec)

/-- ITS FALSE NEIGHBOUR: 'it returns false'. Refute it at one input. -/
def fnExactPitchRangeWrong : ChangeSpec := { name := "fnExactPitchRange", fn := fun _ => fun
  | [d] => { results := [.lit (.bool false)], args := [d] }
  | _ => none }
def FnExactPitchRangeWrongFalsely : Prop := fnExactPitchRangeRow.holds Try.pinned (OpenSpec.ofChange fnExactPitchRangeWrong)

/-- 'laws.FnExactNotesAt': WHATEVER THE INPUT: true; the input reads as it did. -/
def fnExactNotesAtSpec : ChangeSpec := { name := "fnExactNotesAt", fn := fun _ => fun
  | [d1, d2] => { results := [.lit (.bool true)], args := [d1, d2] }
  | _ => none }
def fnExactNotesAtRow : OpenClaim := { program := "ytjnkggingbbobaa", sum := "bccbe9267b8184b257436b336621beb05d3801d6bb9556045b22d2006b94cb97", func := "loop.example/g03309/laws.FnExactNotesAt", spec := "fnExactNotesAt", apart := false }
def FnExactNotesAtSaid : Prop := fnExactNotesAtRow.holds Try.pinned (OpenSpec.ofChange fnExactNotesAtSpec)

/-- ITS FALSE NEIGHBOUR: 'it returns false'. Refute it at one input. -/
def fnExactNotesAtWrong : ChangeSpec := { name := "fnExactNotesAt", fn := fun _ => fun
  | [d1, d2] => { results := [.lit (.bool false)], args := [d1, d2] }
  | _ => none }
def FnExactNotesAtWrongFalsely : Prop := fnExactNotesAtRow.holds Try.pinned (OpenSpec.ofChange fnExactNotesAtWrong)

/-- 'laws.FnExactAddNote': WHATEVER THE INPUT: true; the input reads as it did. -/
def fnExactAddNoteSpec : ChangeSpec := { name := "fnExactAddNote", fn := fun _ => fun
  | [d1, d2] => { results := [.lit (.bool true)], args := [d1, d2] }
  | _ => none }
def fnExactAddNoteRow : OpenClaim := { program := "ytjnkggingbbobaa", sum := "bccbe9267b8184b257436b336621beb05d3801d6bb9556045b22d2006b94cb97", func := "loop.example/g03309/laws.FnExactAddNote", spec := "fnExactAddNote", inPlace := ["slices.overlaps[loop.example/g03309/impl.Note]"], unfollowed := true, recurses := true, apart := false }
def FnExactAddNoteSaid : Prop := fnExactAddNoteRow.holds Try.pinned (OpenSpec.ofChange fnExactAddNoteSpec)

/-- ITS FALSE NEIGHBOUR: 'it returns false'. Refute it at one input. -/
def fnExactAddNoteWrong : ChangeSpec := { name := "fnExactAddNote", fn := fun _ => fun
  | [d1, d2] => { results := [.lit (.bool false)], args := [d1, d2] }
  | _ => none }
def FnExactAddNoteWrongFalsely : Prop := fnExactAddNoteRow.holds Try.pinned (OpenSpec.ofChange fnExactAddNoteWrong)

/-- 'laws.FnExactSampleTune': WHATEVER THE INPUT: true; the input reads as it did. -/
def fnExactSampleTuneSpec : ChangeSpec := { name := "fnExactSampleTune", fn := fun _ => fun
  | [] => { results := [.lit (.bool true)], args := [] }
  | _ => none }
def fnExactSampleTuneRow : OpenClaim := { program := "ytjnkggingbbobaa", sum := "bccbe9267b8184b257436b336621beb05d3801d6bb9556045b22d2006b94cb97", func := "loop.example/g03309/laws.FnExactSampleTune", spec := "fnExactSampleTune", apart := false }
def FnExactSampleTuneSaid : Prop := fnExactSampleTuneRow.holds Try.pinned (OpenSpec.ofChange fnExactSampleTuneSpec)

/-- ITS FALSE NEIGHBOUR: 'it returns false'. Refute it at one input. -/
def fnExactSampleTuneWrong : ChangeSpec := { name := "fnExactSampleTune", fn := fun _ => fun
  | [] => { results := [.lit (.bool false)], args := [] }
  | _ => none }
def FnExactSampleTuneWrongFalsely : Prop := fnExactSampleTuneRow.holds Try.pinned (OpenSpec.ofChange fnExactSampleTuneWrong)

/- THE SECOND FORM. 'bulk': how many values and letters a reading holds, each counted each time it is reached (what is shared counts as often as it is met; a slice's spare places count too). A statement '..UptoSaid' is the law's where the arguments, and the package variables that the reading takes, are together of bulk at most 1048576: NARROWER than '..Said'. Prove '..Said' where nothing that the law and all that it calls make is longer than what came in: it says more and counts as full. Else prove '..UptoSaid'. A law counts once. -/
mutual
def uptoBulk {H : Type} : DataW H → Nat
  | .lit (.string bytes) => bytes.length + 1
  | .lit _ => 1
  | .nil => 1
  | .ptr d => uptoBulk d + 1
  | .slice elems spare => uptoBulkAll elems + uptoBulkAll spare + 1
  | .agg parts => uptoBulkAll parts + 1
  | .iface _ d => uptoBulk d + 1
  | .map entries => uptoBulkEntries entries + 1
  | .held _ => 1
def uptoBulkAll {H : Type} : List (DataW H) → Nat
  | [] => 0
  | d :: r => uptoBulk d + uptoBulkAll r
def uptoBulkEntries {H : Type} : List (Lit × DataW H) → Nat
  | [] => 0
  | x :: r => uptoBulkEntry x + uptoBulkEntries r
def uptoBulkEntry {H : Type} : Lit × DataW H → Nat
  | (.string bytes, d) => bytes.length + uptoBulk d + 1
  | (_, d) => uptoBulk d + 1
 end
def uptoSmall : (H : Type) → List (DataW H) → Bool := fun _ ds => decide (uptoBulkAll ds ≤ 1048576)
def OpenSpec.upto (s : _root_.Go.ChangeSpec) : _root_.Go.OpenSpec := { _root_.Go.OpenSpec.ofChange s with cond := some uptoSmall }

/-- 'laws.FnTunes', WHERE WHAT IT READS IS OF BULK AT MOST 1048576: true; the input reads as it did. -/
def fnTunesUptoRow : OpenClaim := { program := "ytjnkggingbbobaa", sum := "bccbe9267b8184b257436b336621beb05d3801d6bb9556045b22d2006b94cb97", func := "loop.example/g03309/laws.FnTunes", spec := "fnTunes", inPlace := ["slices.overlaps[loop.example/g03309/impl.Note]"], unfollowed := true, recurses := true, apart := false, narrowed := true }
def FnTunesUptoSaid : Prop := fnTunesUptoRow.holds Try.pinned (OpenSpec.upto fnTunesSpec)

/-- 'laws.FnExactTuneOk', WHERE WHAT IT READS IS OF BULK AT MOST 1048576: true; the input reads as it did. -/
def fnExactTuneOkUptoRow : OpenClaim := { program := "ytjnkggingbbobaa", sum := "bccbe9267b8184b257436b336621beb05d3801d6bb9556045b22d2006b94cb97", func := "loop.example/g03309/laws.FnExactTuneOk", spec := "fnExactTuneOk", apart := false, narrowed := true }
def FnExactTuneOkUptoSaid : Prop := fnExactTuneOkUptoRow.holds Try.pinned (OpenSpec.upto fnExactTuneOkSpec)

/-- 'laws.FnExactSortNotes', WHERE WHAT IT READS IS OF BULK AT MOST 1048576: true; the input reads as it did. -/
def fnExactSortNotesUptoRow : OpenClaim := { program := "ytjnkggingbbobaa", sum := "bccbe9267b8184b257436b336621beb05d3801d6bb9556045b22d2006b94cb97", func := "loop.example/g03309/laws.FnExactSortNotes", spec := "fnExactSortNotes", unfollowed := true, recurses := true, apart := false, narrowed := true }
def FnExactSortNotesUptoSaid : Prop := fnExactSortNotesUptoRow.holds Try.pinned (OpenSpec.upto fnExactSortNotesSpec)

/-- 'laws.FnExactLasts', WHERE WHAT IT READS IS OF BULK AT MOST 1048576: true; the input reads as it did. -/
def fnExactLastsUptoRow : OpenClaim := { program := "ytjnkggingbbobaa", sum := "bccbe9267b8184b257436b336621beb05d3801d6bb9556045b22d2006b94cb97", func := "loop.example/g03309/laws.FnExactLasts", spec := "fnExactLasts", apart := false, narrowed := true }
def FnExactLastsUptoSaid : Prop := fnExactLastsUptoRow.holds Try.pinned (OpenSpec.upto fnExactLastsSpec)

/-- 'laws.FnExactPitchRange', WHERE WHAT IT READS IS OF BULK AT MOST 1048576: true; the input reads as it did. -/
def fnExactPitchRangeUptoRow : OpenClaim := { program := "ytjnkggingbbobaa", sum := "bccbe9267b8184b257436b336621beb05d3801d6bb9556045b22d2006b94cb97", func := "loop.example/g03309/laws.FnExactPitchRange", spec := "fnExactPitchRange", apart := false, narrowed := true }
def FnExactPitchRangeUptoSaid : Prop := fnExactPitchRangeUptoRow.holds Try.pinned (OpenSpec.upto fnExactPitchRangeSpec)

/-- 'laws.FnExactNotesAt', WHERE WHAT IT READS IS OF BULK AT MOST 1048576: true; the input reads as it did. -/
def fnExactNotesAtUptoRow : OpenClaim := { program := "ytjnkggingbbobaa", sum := "bccbe9267b8184b257436b336621beb05d3801d6bb9556045b22d2006b94cb97", func := "loop.example/g03309/laws.FnExactNotesAt", spec := "fnExactNotesAt", apart := false, narrowed := true }
def FnExactNotesAtUptoSaid : Prop := fnExactNotesAtUptoRow.holds Try.pinned (OpenSpec.upto fnExactNotesAtSpec)

/-- 'laws.FnExactAddNote', WHERE WHAT IT READS IS OF BULK AT MOST 1048576: true; the input reads as it did. -/
def fnExactAddNoteUptoRow : OpenClaim := { program := "ytjnkggingbbobaa", sum := "bccbe9267b8184b257436b336621beb05d3801d6bb9556045b22d2006b94cb97", func := "loop.example/g03309/laws.FnExactAddNote", spec := "fnExactAddNote", inPlace := ["slices.overlaps[loop.example/g03309/impl.Note]"], unfollowed := true, recurses := true, apart := false, narrowed := true }
def FnExactAddNoteUptoSaid : Prop := fnExactAddNoteUptoRow.holds Try.pinned (OpenSpec.upto fnExactAddNoteSpec)

/-- 'laws.FnExactSampleTune', WHERE WHAT IT READS IS OF BULK AT MOST 1048576: true; the input reads as it did. -/
def fnExactSampleTuneUptoRow : OpenClaim := { program := "ytjnkggingbbobaa", sum := "bccbe9267b8184b257436b336621beb05d3801d6bb9556045b22d2006b94cb97", func := "loop.example/g03309/laws.FnExactSampleTune", spec := "fnExactSampleTune", apart := false, narrowed := true }
def FnExactSampleTuneUptoSaid : Prop := fnExactSampleTuneUptoRow.holds Try.pinned (OpenSpec.upto fnExactSampleTuneSpec)

end Rows
end Go.Proofs.Ytjnkggingbbobaa
