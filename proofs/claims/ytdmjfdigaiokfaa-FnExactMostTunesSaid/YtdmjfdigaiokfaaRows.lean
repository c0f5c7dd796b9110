/-
  No cell of these rows narrows 'for every input' (looked for: loops, veiled, ifaces, maps, wideKeys, modest, calm, conditions, laid).
  DERIVED. THE GIVEN ROWS OF THIS SEAT. 7 by the template 'for every input the law returns true; each argument reads behind the call as it read before'; 0 by the template 'total and deterministic' (their statements: YtdmjfdigaiokfaaTotals.lean).
  GIVEN WITH THE SEED: the statements are not yours to turn. If you find one false, say at which input.
  Laid BY PROGRAM, IN A SANDBOX (cutbox-rows.mjs): the forced cells as the released guide's own fill.sh prints them over the translation 1fdce41dd75fb3ca… (all of the seat's roots in one cut). By AI agents, Wed Nov 11 2026. No macro, syntax, notation, axiom, sorry.
-/
import Derived.Test.YtdmjfdigaiokfaaChecked
import GoSem.Claim
import GoSem.ClaimJoined
import GoSem.ClaimMapViews
import Derived.JoinedTies
import Derived.KernelRfl
namespace Go.Proofs.Ytdmjfdigaiokfaa
/- THE CELL 'sum', in the pinned program and in every row, IS THE sha256 OF THE DUMP (.gsa) THAT YtdmjfdigaiokfaaProg.lean LOADS. Nothing in Lean hashes anything: it is a label: what it is worth is what the hold of that sum in a sandbox is worth. -/
noncomputable def Try.pinned : Pinned := { name := "ytdmjfdigaiokfaa", sum := "1fdce41dd75fb3ca3ff0793a24709f045cd9d01fa04edaccc7b01998a7b61363", checked := Try.checked }
namespace Rows
def none {H : Type} : Left H := { results := [], args := [] }

/-- 'laws.FnPrograms': WHATEVER THE INPUT: true; the input reads as it did. -/
def fnProgramsSpec : ChangeSpec := { name := "fnPrograms", fn := fun _ => fun
  | [d] => { results := [.lit (.bool true)], args := [d] }
  | _ => none }
def fnProgramsRow : OpenClaim := { program := "ytdmjfdigaiokfaa", sum := "1fdce41dd75fb3ca3ff0793a24709f045cd9d01fa04edaccc7b01998a7b61363", func := "loop.example/g03309/laws.FnPrograms", spec := "fnPrograms", apart := false }
def FnProgramsSaid : Prop := fnProgramsRow.holds Try.pinned (OpenSpec.ofChange fnProgramsSpec)

/-- ITS FALSE NEIGHBOUR: 'it returns false'. Refute it at one input. -/
def fnProgramsWrong : ChangeSpec := { name := "fnPrograms", fn := fun _ => fun
  | [d] => { results := [.lit (.bool false)], args := [d] }
  | _ => none }
def FnProgramsWrongFalsely : Prop := fnProgramsRow.holds Try.pinned (OpenSpec.ofChange fnProgramsWrong)

/-- 'laws.FnExactTeethForAll': WHATEVER THE INPUT: true; the input reads as it did. -/
def fnExactTeethForAllSpec : ChangeSpec := { name := "fnExactTeethForAll", fn := fun _ => fun
  | [d1, d2, d3] => { results := [.lit (.bool true)], args := [d1, d2, d3] }
  | _ => none }
def fnExactTeethForAllRow : OpenClaim := { program := "ytdmjfdigaiokfaa", sum := "1fdce41dd75fb3ca3ff0793a24709f045cd9d01fa04edaccc7b01998a7b61363", func := "loop.example/g03309/laws.FnExactTeethForAll", spec := "fnExactTeethForAll", apart := false }
def FnExactTeethForAllSaid : Prop := fnExactTeethForAllRow.holds Try.pinned (OpenSpec.ofChange fnExactTeethForAllSpec)

/-- ITS FALSE NEIGHBOUR: 'it returns false'. Refute it at one input. -/
def fnExactTeethForAllWrong : ChangeSpec := { name := "fnExactTeethForAll", fn := fun _ => fun
  | [d1, d2, d3] => { results := [.lit (.bool false)], args := [d1, d2, d3] }
  | _ => none }
def FnExactTeethForAllWrongFalsely : Prop := fnExactTeethForAllRow.holds Try.pinned (OpenSpec.ofChange fnExactTeethForAllWrong)

/-- 'laws.FnExactCombForAll': WHATEVER THE INPUT: true; the input reads as it did. -/
def fnExactCombForAllSpec : ChangeSpec := { name := "fnExactCombForAll", fn := fun _ => fun
  | [d1, d2, d3] => { results := [.lit (.bool true)], args := [d1, d2, d3] }
  | _ => none }
def fnExactCombForAllRow : OpenClaim := { program := "ytdmjfdigaiokfaa", sum := "1fdce41dd75fb3ca3ff0793a24709f045cd9d01fa04edaccc7b01998a7b61363", func := "loop.example/g03309/laws.FnExactCombForAll", spec := "fnExactCombForAll", apart := false }
def FnExactCombForAllSaid : Prop := fnExactCombForAllRow.holds Try.pinned (OpenSpec.ofChange fnExactCombForAllSpec)

/-- ITS FALSE NEIGHBOUR: 'it returns false'. Refute it at one input. -/
def fnExactCombForAllWrong : ChangeSpec := { name := "fnExactCombForAll", fn := fun _ => fun
  | [d1, d2, d3] => { results := [.lit (.bool false)], args := [d1, d2, d3] }
  | _ => none }
def FnExactCombForAllWrongFalsely : Prop := fnExactCombForAllRow.holds Try.pinned (OpenSpec.ofChange fnExactCombForAllWrong)

/-- 'laws.FnExactMostTunes': WHATEVER THE INPUT: true; the input reads as it did. -/
def fnExactMostTunesSpec : ChangeSpec := { name := "fnExactMostTunes", fn := fun _ => fun
  | [d1, d2, d3] => { results := [.lit (.bool true)], args := [d1, d2, d3] }
  | _ => none }
def fnExactMostTunesRow : OpenClaim := { program := "ytdmjfdigaiokfaa", sum := "1fdce41dd75fb3ca3ff0793a24709f045cd9d01fa04edaccc7b01998a7b61363", func := "loop.example/g03309/laws.FnExactMostTunes", spec := "fnExactMostTunes", apart := false }
def FnExactMostTunesSaid : Prop := fnExactMostTunesRow.holds Try.pinned (OpenSpec.ofChange fnExactMostTunesSpec)

/-- ITS FALSE NEIGHBOUR: 'it returns false'. Refute it at one input. -/
def fnExactMostTunesWrong : ChangeSpec := { name := "fnExactMostTunes", fn := fun _ => fun
  | [d1, d2, d3] => { results := [.lit (.bool false)], args := [d1, d2, d3] }
  | _ => none }
def FnExactMostTunesWrongFalsely : Prop := fnExactMostTunesRow.holds Try.pinned (OpenSpec.ofChange fnExactMostTunesWrong)

/-- 'laws.FnExactExtraTeeth': WHATEVER THE INPUT: true; the input reads as it did. -/
def fnExactExtraTeethSpec : ChangeSpec := { name := "fnExactExtraTeeth", fn := fun _ => fun
  | [d1, d2, d3, d4] => { results := [.lit (.bool true)], args := [d1, d2, d3, d4] }
  | _ => none }
def fnExactExtraTeethRow : OpenClaim := { program := "ytdmjfdigaiokfaa", sum := "1fdce41dd75fb3ca3ff0793a24709f045cd9d01fa04edaccc7b01998a7b61363", func := "loop.example/g03309/laws.FnExactExtraTeeth", spec := "fnExactExtraTeeth", apart := false }
def FnExactExtraTeethSaid : Prop := fnExactExtraTeethRow.holds Try.pinned (OpenSpec.ofChange fnExactExtraTeethSpec)

/-- ITS FALSE NEIGHBOUR: 'it returns false'. Refute it at one input. -/
def fnExactExtraTeethWrong : ChangeSpec := { name := "fnExactExtraTeeth", fn := fun _ => fun
  | [d1, d2, d3, d4] => { results := [.lit (.bool false)], args := [d1, d2, d3, d4] }
  | _ => none }
def FnExactExtraTeethWrongFalsely : Prop := fnExactExtraTeethRow.holds Try.pinned (OpenSpec.ofChange fnExactExtraTeethWrong)

/-- 'laws.FnPins': WHATEVER THE INPUT: true; the input reads as it did. -/
def fnPinsSpec : ChangeSpec := { name := "fnPins", fn := fun _ => fun
  | [d] => { results := [.lit (.bool true)], args := [d] }
  | _ => none }
def fnPinsRow : OpenClaim := { program := "ytdmjfdigaiokfaa", sum := "1fdce41dd75fb3ca3ff0793a24709f045cd9d01fa04edaccc7b01998a7b61363", func := "loop.example/g03309/laws.FnPins", spec := "fnPins", inPlace := ["slices.overlaps[loop.example/g03309/impl.Pin]"], unfollowed := true, recurses := true, apart := false }
def FnPinsSaid : Prop := fnPinsRow.holds Try.pinned (OpenSpec.ofChange fnPinsSpec)

/-- ITS FALSE NEIGHBOUR: 'it returns false'. Refute it at one input. -/
def fnPinsWrong : ChangeSpec := { name := "fnPins", fn := fun _ => fun
  | [d] => { results := [.lit (.bool false)], args := [d] }
  | _ => none }
def FnPinsWrongFalsely : Prop := fnPinsRow.holds Try.pinned (OpenSpec.ofChange fnPinsWrong)

/-- 'laws.FnExactCylinderOf': WHATEVER THE INPUT: true; the input reads as it did. -/
def fnExactCylinderOfSpec : ChangeSpec := { name := "fnExactCylinderOf", fn := fun _ => fun
  | [d1, d2, d3, d4] => { results := [.lit (.bool true)], args := [d1, d2, d3, d4] }
  | _ => none }
def fnExactCylinderOfRow : OpenClaim := { program := "ytdmjfdigaiokfaa", sum := "1fdce41dd75fb3ca3ff0793a24709f045cd9d01fa04edaccc7b01998a7b61363", func := "loop.example/g03309/laws.FnExactCylinderOf", spec := "fnExactCylinderOf", unfollowed := true, recurses := true, apart := false }
def FnExactCylinderOfSaid : Prop := fnExactCylinderOfRow.holds Try.pinned (OpenSpec.ofChange fnExactCylinderOfSpec)

/-- ITS FALSE NEIGHBOUR: 'it returns false'. Refute it at one input. -/
def fnExactCylinderOfWrong : ChangeSpec := { name := "fnExactCylinderOf", fn := fun _ => fun
  | [d1, d2, d3, d4] => { results := [.lit (.bool false)], args := [d1, d2, d3, d4] }
  | _ => none }
def FnExactCylinderOfWrongFalsely : Prop := fnExactCylinderOfRow.holds Try.pinned (OpenSpec.ofChange fnExactCylinderOfWrong)

/- THE SECOND FORM. 'bulk': how many values and letters a reading holds, each counted each time it is reached (what is shared counts as often as it is met; a slice's spare places count too). A statement '..UptoSaid' is the law's where the arguments, and the package variables that the reading takes, are together of bulk at most 1048576: NARROWER than '..Said'. Prove '..Said' where nothing that the law and all that it calls make is longer than what came in: it says more and counts as full. Else prove '..UptoSaid'. A law counts once. -/
mutual
def uptoBulk {H : Type} : DataW H → Nat
  | .lit (.string bytes) => bytes.length + 1
  | .lit _ => 1
  | .nil => 1
  | .ptr d => uptoBulk d + 1
  | .slice elems spare => uptoBulkAll elems + uptoBulkAll spare + 1
  | .agg parts => uptoBulkAll parts + 1
  | .iface _ d => uptoBulk d + 1
  | .map entries => uptoBulkEntries entries + 1
  | .held _ => 1
def uptoBulkAll {H : Type} : List (DataW H) → Nat
  | [] => 0
  | d :: r => uptoBulk d + uptoBulkAll r
def uptoBulkEntries {H : Type} : List (Lit × DataW H) → Nat
  | [] => 0
  | x :: r => uptoBulkEntry x + uptoBulkEntries r
def uptoBulkEntry {H : Type} : Lit × DataW H → Nat
  | (.string bytes, d) => bytes.length + uptoBulk d + 1
  | (_, d) => uptoBulk d + 1
 end
def uptoSmall : (H : Type) → List (DataW H) → Bool := fun _ ds => decide (uptoBulkAll ds ≤ 1048576)
def OpenSpec.upto (s : _root_.Go.ChangeSpec) : _root_.Go.OpenSpec := { _root_.Go.OpenSpec.ofChange s with cond := some uptoSmall }

/-- 'laws.FnPrograms', WHERE WHAT IT READS IS OF BULK AT MOST 1048576: true; the input reads as it did. -/
def fnProgramsUptoRow : OpenClaim := { program := "ytdmjfdigaiokfaa", sum := "1fdce41dd75fb3ca3ff0793a24709f045cd9d01fa04edaccc7b01998a7b61363", func := "loop.example/g03309/laws.FnPrograms", spec := "fnPrograms", apart := false, narrowed := true }
def FnProgramsUptoSaid : Prop := fnProgramsUptoRow.holds Try.pinned (OpenSpec.upto fnProgramsSpec)

/-- 'laws.FnExactTeethForAll', WHERE WHAT IT READS IS OF BULK AT MOST 1048576: true; the input reads as it did. -/
def fnExactTeethForAllUptoRow : OpenClaim := { program := "ytdmjfdigaiokfaa", sum := "1fdce41dd75fb3ca3ff0793a24709f045cd9d01fa04edaccc7b01998a7b61363", func := "loop.example/g03309/laws.FnExactTeethForAll", spec := "fnExactTeethForAll", apart := false, narrowed := true }
def FnExactTeethForAllUptoSaid : Prop := fnExactTeethForAllUptoRow.holds Try.pinned (OpenSpec.upto fnExactTeethForAllSpec)

/-- 'laws.FnExactCombForAll', WHERE WHAT IT READS IS OF BULK AT MOST 1048576: true; the input reads as it did. -/
def fnExactCombForAllUptoRow : OpenClaim := { program := "ytdmjfdigaiokfaa", sum := "1fdce41dd75fb3ca3ff0793a24709f045cd9d01fa04edaccc7b01998a7b61363", func := "loop.example/g03309/laws.FnExactCombForAll", spec := "fnExactCombForAll", apart := false, narrowed := true }
def FnExactCombForAllUptoSaid : Prop := fnExactCombForAllUptoRow.holds Try.pinned (OpenSpec.upto fnExactCombForAllSpec)

/-- 'laws.FnExactMostTunes', WHERE WHAT IT READS IS OF BULK AT MOST 1048576: true; the input reads as it did. -/
def fnExactMostTunesUptoRow : OpenClaim := { program := "ytdmjfdigaiokfaa", sum := "1fdce41dd75fb3ca3ff0793a24709f045cd9d01fa04edaccc7b01998a7b61363", func := "loop.example/g03309/laws.FnExactMostTunes", spec := "fnExactMostTunes", apart := false, narrowed := true }
def FnExactMostTunesUptoSaid : Prop := fnExactMostTunesUptoRow.holds Try.pinned (OpenSpec.upto fnExactMostTunesSpec)

/-- 'laws.FnExactExtraTeeth', WHERE WHAT IT READS IS OF BULK AT MOST 1048576: true; the input reads as it did. -/
def fnExactExtraTeethUptoRow : OpenClaim := { program := "ytdmjfdigaiokfaa", sum := "1fdce41dd75fb3ca3ff0793a24709f045cd9d01fa04edaccc7b01998a7b61363", func := "loop.example/g03309/laws.FnExactExtraTeeth", spec := "fnExactExtraTeeth", apart := false, narrowed := true }
def FnExactExtraTeethUptoSaid : Prop := fnExactExtraTeethUptoRow.holds Try.pinned (OpenSpec.upto fnExactExtraTeethSpec)

/-- 'laws.FnPins', WHERE WHAT IT READS IS OF BULK AT MOST 1048576: true; the input reads as it did. -/
def fnPinsUptoRow : OpenClaim := { program := "ytdmjfdigaiokfaa", sum := "1fdce41dd75fb3ca3ff0793a24709f045cd9d01fa04edaccc7b01998a7b61363", func := "loop.example/g03309/laws.FnPins", spec := "fnPins", inPlace := ["slices.overlaps[loop.example/g03309/impl.Pin]"], unfollowed := true, recurses := true, apart := false, narrowed := true }
def FnPinsUptoSaid : Prop := fnPinsUptoRow.holds Try.pinned (OpenSpec.upto fnPinsSpec)

/-- 'laws.FnExactCylinderOf', WHERE WHAT IT READS IS OF BULK AT MOST 1048576: true; the input reads as it did. -/
def fnExactCylinderOfUptoRow : OpenClaim := { program := "ytdmjfdigaiokfaa", sum := "1fdce41dd75fb3ca3ff0793a24709f045cd9d01fa04edaccc7b01998a7b61363", func := "loop.example/g03309/laws.FnExactCylinderOf", spec := "fnExactCylinderOf", unfollowed := true, recurses := true, apart := false, narrowed := true }
def FnExactCylinderOfUptoSaid : Prop := fnExactCylinderOfUptoRow.holds Try.pinned (OpenSpec.upto fnExactCylinderOfSpec)

end Rows
end Go.Proofs.Ytdmjfdigaiokfaa
