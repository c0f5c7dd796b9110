/-
  No cell of these rows narrows 'for every input' (looked for: loops, veiled, ifaces, maps, wideKeys, modest, calm, conditions, laid).
  DERIVED. THE GIVEN ROWS OF THIS SEAT. 7 by the template 'for every input the law returns true; each argument reads behind the call as it read before'; 0 by the template 'total and deterministic' (their statements: YtnnoknejigaklaaTotals.lean).
  GIVEN WITH THE SEED: the statements are not yours to turn. If you find one false, say at which input.
  Laid BY PROGRAM, IN A SANDBOX (cutbox-rows.mjs): the forced cells as the released guide's own fill.sh prints them over the translation 1463b5bd82dfafae… (all of the seat's roots in one cut). By AI agents, Wed Nov 11 2026. No macro, syntax, notation, axiom, sorry.
-/
import Derived.Test.YtnnoknejigaklaaChecked
import GoSem.Claim
import GoSem.ClaimJoined
import GoSem.ClaimMapViews
import Derived.JoinedTies
import Derived.KernelRfl
namespace Go.Proofs.Ytnnoknejigaklaa
/- THE CELL 'sum', in the pinned program and in every row, IS THE sha256 OF THE DUMP (.gsa) THAT YtnnoknejigaklaaProg.lean LOADS. Nothing in Lean hashes anything: it is a label: what it is worth is what the hold of that sum in a sandbox is worth. -/
noncomputable def Try.pinned : Pinned := { name := "ytnnoknejigaklaa", sum := "1463b5bd82dfafae628eaf60ba97185a971e48bde3be8b047c9a3b2665b38394", checked := Try.checked }
namespace Rows
def none {H : Type} : Left H := { results := [], args := [] }

/-- 'laws.FnPins': WHATEVER THE INPUT: true; the input reads as it did. -/
def fnPinsSpec : ChangeSpec := { name := "fnPins", fn := fun _ => fun
  | [d] => { results := [.lit (.bool true)], args := [d] }
  | _ => none }
def fnPinsRow : OpenClaim := { program := "ytnnoknejigaklaa", sum := "1463b5bd82dfafae628eaf60ba97185a971e48bde3be8b047c9a3b2665b38394", func := "loop.example/g03309/laws.FnPins", spec := "fnPins", inPlace := ["slices.overlaps[loop.example/g03309/impl.Pin]"], unfollowed := true, recurses := true, apart := false }
def FnPinsSaid : Prop := fnPinsRow.holds Try.pinned (OpenSpec.ofChange fnPinsSpec)

/-- ITS FALSE NEIGHBOUR: 'it returns false'. Refute it at one input. -/
def fnPinsWrong : ChangeSpec := { name := "fnPins", fn := fun _ => fun
  | [d] => { results := [.lit (.bool false)], args := [d] }
  | _ => none }
def FnPinsWrongFalsely : Prop := fnPinsRow.holds Try.pinned (OpenSpec.ofChange fnPinsWrong)

/-- 'laws.FnExactCylinderOk': WHATEVER THE INPUT: true; the input reads as it did. -/
def fnExactCylinderOkSpec : ChangeSpec := { name := "fnExactCylinderOk", fn := fun _ => fun
  | [d] => { results := [.lit (.bool true)], args := [d] }
  | _ => none }
def fnExactCylinderOkRow : OpenClaim := { program := "ytnnoknejigaklaa", sum := "1463b5bd82dfafae628eaf60ba97185a971e48bde3be8b047c9a3b2665b38394", func := "loop.example/g03309/laws.FnExactCylinderOk", spec := "fnExactCylinderOk", apart := false }
def FnExactCylinderOkSaid : Prop := fnExactCylinderOkRow.holds Try.pinned (OpenSpec.ofChange fnExactCylinderOkSpec)

/-- ITS FALSE NEIGHBOUR: 'it returns false'. Refute it at one input. -/
def fnExactCylinderOkWrong : ChangeSpec := { name := "fnExactCylinderOk", fn := fun _ => fun
  | [d] => { results := [.lit (.bool false)], args := [d] }
  | _ => none }
def FnExactCylinderOkWrongFalsely : Prop := fnExactCylinderOkRow.holds Try.pinned (OpenSpec.ofChange fnExactCylinderOkWrong)

/-- 'laws.FnExactPinsAt': WHATEVER THE INPUT: true; the input reads as it did. -/
def fnExactPinsAtSpec : ChangeSpec := { name := "fnExactPinsAt", fn := fun _ => fun
  | [d1, d2] => { results := [.lit (.bool true)], args := [d1, d2] }
  | _ => none }
def fnExactPinsAtRow : OpenClaim := { program := "ytnnoknejigaklaa", sum := "1463b5bd82dfafae628eaf60ba97185a971e48bde3be8b047c9a3b2665b38394", func := "loop.example/g03309/laws.FnExactPinsAt", spec := "fnExactPinsAt", apart := false }
def FnExactPinsAtSaid : Prop := fnExactPinsAtRow.holds Try.pinned (OpenSpec.ofChange fnExactPinsAtSpec)

/-- ITS FALSE NEIGHBOUR: 'it returns false'. Refute it at one input. -/
def fnExactPinsAtWrong : ChangeSpec := { name := "fnExactPinsAt", fn := fun _ => fun
  | [d1, d2] => { results := [.lit (.bool false)], args := [d1, d2] }
  | _ => none }
def FnExactPinsAtWrongFalsely : Prop := fnExactPinsAtRow.holds Try.pinned (OpenSpec.ofChange fnExactPinsAtWrong)

/-- 'laws.FnExactAddPin': WHATEVER THE INPUT: true; the input reads as it did. -/
def fnExactAddPinSpec : ChangeSpec := { name := "fnExactAddPin", fn := fun _ => fun
  | [d1, d2] => { results := [.lit (.bool true)], args := [d1, d2] }
  | _ => none }
def fnExactAddPinRow : OpenClaim := { program := "ytnnoknejigaklaa", sum := "1463b5bd82dfafae628eaf60ba97185a971e48bde3be8b047c9a3b2665b38394", func := "loop.example/g03309/laws.FnExactAddPin", spec := "fnExactAddPin", inPlace := ["slices.overlaps[loop.example/g03309/impl.Pin]"], unfollowed := true, recurses := true, apart := false }
def FnExactAddPinSaid : Prop := fnExactAddPinRow.holds Try.pinned (OpenSpec.ofChange fnExactAddPinSpec)

/-- ITS FALSE NEIGHBOUR: 'it returns false'. Refute it at one input. -/
def fnExactAddPinWrong : ChangeSpec := { name := "fnExactAddPin", fn := fun _ => fun
  | [d1, d2] => { results := [.lit (.bool false)], args := [d1, d2] }
  | _ => none }
def FnExactAddPinWrongFalsely : Prop := fnExactAddPinRow.holds Try.pinned (OpenSpec.ofChange fnExactAddPinWrong)

/-- 'laws.FnExactPullPin': WHATEVER THE INPUT: true; the input reads as it did. -/
def fnExactPullPinSpec : ChangeSpec := { name := "fnExactPullPin", fn := fun _ => fun
  | [d1, d2] => { results := [.lit (.bool true)], args := [d1, d2] }
  | _ => none }
def fnExactPullPinRow : OpenClaim := { program := "ytnnoknejigaklaa", sum := "1463b5bd82dfafae628eaf60ba97185a971e48bde3be8b047c9a3b2665b38394", func := "loop.example/g03309/laws.FnExactPullPin", spec := "fnExactPullPin", apart := false }
def FnExactPullPinSaid : Prop := fnExactPullPinRow.holds Try.pinned (OpenSpec.ofChange fnExactPullPinSpec)

/-- ITS FALSE NEIGHBOUR: 'it returns false'. Refute it at one input. -/
def fnExactPullPinWrong : ChangeSpec := { name := "fnExactPullPin", fn := fun _ => fun
  | [d1, d2] => { results := [.lit (.bool false)], args := [d1, d2] }
  | _ => none }
def FnExactPullPinWrongFalsely : Prop := fnExactPullPinRow.holds Try.pinned (OpenSpec.ofChange fnExactPullPinWrong)

/-- 'laws.FnExactTurnBy': WHATEVER THE INPUT: true; the input reads as it did. -/
def fnExactTurnBySpec : ChangeSpec := { name := "fnExactTurnBy", fn := fun _ => fun
  | [d1, d2] => { results := [.lit (.bool true)], args := [d1, d2] }
  | _ => none }
def fnExactTurnByRow : OpenClaim := { program := "ytnnoknejigaklaa", sum := "1463b5bd82dfafae628eaf60ba97185a971e48bde3be8b047c9a3b2665b38394", func := "loop.example/g03309/laws.FnExactTurnBy", spec := "fnExactTurnBy", unfollowed := true, recurses := true, apart := false }
def FnExactTurnBySaid : Prop := fnExactTurnByRow.holds Try.pinned (OpenSpec.ofChange fnExactTurnBySpec)

/-- ITS FALSE NEIGHBOUR: 'it returns false'. Refute it at one input. -/
def fnExactTurnByWrong : ChangeSpec := { name := "fnExactTurnBy", fn := fun _ => fun
  | [d1, d2] => { results := [.lit (.bool false)], args := [d1, d2] }
  | _ => none }
def FnExactTurnByWrongFalsely : Prop := fnExactTurnByRow.holds Try.pinned (OpenSpec.ofChange fnExactTurnByWrong)

/-- 'laws.FnExactCylinderOf': WHATEVER THE INPUT: true; the input reads as it did. -/
def fnExactCylinderOfSpec : ChangeSpec := { name := "fnExactCylinderOf", fn := fun _ => fun
  | [d1, d2, d3, d4] => { results := [.lit (.bool true)], args := [d1, d2, d3, d4] }
  | _ => none }
def fnExactCylinderOfRow : OpenClaim := { program := "ytnnoknejigaklaa", sum := "1463b5bd82dfafae628eaf60ba97185a971e48bde3be8b047c9a3b2665b38394", func := "loop.example/g03309/laws.FnExactCylinderOf", spec := "fnExactCylinderOf", unfollowed := true, recurses := true, apart := false }
def FnExactCylinderOfSaid : Prop := fnExactCylinderOfRow.holds Try.pinned (OpenSpec.ofChange fnExactCylinderOfSpec)

/-- ITS FALSE NEIGHBOUR: 'it returns false'. Refute it at one input. -/
def fnExactCylinderOfWrong : ChangeSpec := { name := "fnExactCylinderOf", fn := fun _ => fun
  | [d1, d2, d3, d4] => { results := [.lit (.bool false)], args := [d1, d2, d3, d4] }
  | _ => none }
def FnExactCylinderOfWrongFalsely : Prop := fnExactCylinderOfRow.holds Try.pinned (OpenSpec.ofChange fnExactCylinderOfWrong)

/- THE SECOND FORM. 'bulk': how many values and letters a reading holds, each counted each time it is reached (what is shared counts as often as it is met; a slice's spare places count too). A statement '..UptoSaid' is the law's where the arguments, and the package variables that the reading takes, are together of bulk at most 1048576: NARROWER than '..Said'. Prove '..Said' where nothing that the law and all that it calls make is longer than what came in: it says more and counts as full. Else prove '..UptoSaid'. A law counts once. -/
mutual
def uptoBulk {H : Type} : DataW H → Nat
  | .lit (.string bytes) => bytes.length + 1
  | .lit _ => 1
  | .nil => 1
  | .ptr d => uptoBulk d + 1
  | .slice elems spare => uptoBulkAll elems + uptoBulkAll spare + 1
  | .agg parts => uptoBulkAll parts + 1
  | .iface _ d => uptoBulk d + 1
  | .map entries => uptoBulkEntries entries + 1
  | .held _ => 1
def uptoBulkAll {H : Type} : List (DataW H) → Nat
  | [] => 0
  | d :: r => uptoBulk d + uptoBulkAll r
def uptoBulkEntries {H : Type} : List (Lit × DataW H) → Nat
  | [] => 0
  | x :: r => uptoBulkEntry x + uptoBulkEntries r
def uptoBulkEntry {H : Type} : Lit × DataW H → Nat
  | (.string bytes, d) => bytes.length + uptoBulk d + 1
  | (_, d) => uptoBulk d + 1
 end
def uptoSmall : (H : Type) → List (DataW H) → Bool := fun _ ds => decide (uptoBulkAll ds ≤ 1048576)
def OpenSpec.upto (s : _root_.Go.ChangeSpec) : _root_.Go.OpenSpec := { _root_.Go.OpenSpec.ofChange s with cond := some uptoSmall }

/-- 'laws.FnPins', WHERE WHAT IT READS IS OF BULK AT MOST 1048576: true; the input reads as it did. -/
def fnPinsUptoRow : OpenClaim := { program := "ytnnoknejigaklaa", sum := "1463b5bd82dfafae628eaf60ba97185a971e48bde3be8b047c9a3b2665b38394", func := "loop.example/g03309/laws.FnPins", spec := "fnPins", inPlace := ["slices.overlaps[loop.example/g03309/impl.Pin]"], unfollowed := true, recurses := true, apart := false, narrowed := true }
def FnPinsUptoSaid : Prop := fnPinsUptoRow.holds Try.pinned (OpenSpec.upto fnPinsSpec)

/-- 'laws.FnExactCylinderOk', WHERE WHAT IT READS IS OF BULK AT MOST 1048576: true; the input reads as it did. -/
def fnExactCylinderOkUptoRow : OpenClaim := { program := "ytnnoknejigaklaa", sum := "1463b5bd82dfafae628eaf60ba97185a971e48bde3be8b047c9a3b2665b38394", func := "loop.example/g03309/laws.FnExactCylinderOk", spec := "fnExactCylinderOk", apart := false, narrowed := true }
def FnExactCylinderOkUptoSaid : Prop := fnExactCylinderOkUptoRow.holds Try.pinned (OpenSpec.upto fnExactCylinderOkSpec)

/-- 'laws.FnExactPinsAt', WHERE WHAT IT READS IS OF BULK AT MOST 1048576: true; the input reads as it did. -/
def fnExactPinsAtUptoRow : OpenClaim := { program := "ytnnoknejigaklaa", sum := "1463b5bd82dfafae628eaf60ba97185a971e48bde3be8b047c9a3b2665b38394", func := "loop.example/g03309/laws.FnExactPinsAt", spec := "fnExactPinsAt", apart := false, narrowed := true }
def FnExactPinsAtUptoSaid : Prop := fnExactPinsAtUptoRow.holds Try.pinned (OpenSpec.upto fnExactPinsAtSpec)

/-- 'laws.FnExactAddPin', WHERE WHAT IT READS IS OF BULK AT MOST 1048576: true; the input reads as it did. -/
def fnExactAddPinUptoRow : OpenClaim := { program := "ytnnoknejigaklaa", sum := "1463b5bd82dfafae628eaf60ba97185a971e48bde3be8b047c9a3b2665b38394", func := "loop.example/g03309/laws.FnExactAddPin", spec := "fnExactAddPin", inPlace := ["slices.overlaps[loop.example/g03309/impl.Pin]"], unfollowed := true, recurses := true, apart := false, narrowed := true }
def FnExactAddPinUptoSaid : Prop := fnExactAddPinUptoRow.holds Try.pinned (OpenSpec.upto fnExactAddPinSpec)

/-- 'laws.FnExactPullPin', WHERE WHAT IT READS IS OF BULK AT MOST 1048576: true; the input reads as it did. -/
def fnExactPullPinUptoRow : OpenClaim := { program := "ytnnoknejigaklaa", sum := "1463b5bd82dfafae628eaf60ba97185a971e48bde3be8b047c9a3b2665b38394", func := "loop.example/g03309/laws.FnExactPullPin", spec := "fnExactPullPin", apart := false, narrowed := true }
def FnExactPullPinUptoSaid : Prop := fnExactPullPinUptoRow.holds Try.pinned (OpenSpec.upto fnExactPullPinSpec)

/-- 'laws.FnExactTurnBy', WHERE WHAT IT READS IS OF BULK AT MOST 1048576: true; the input reads as it did. -/
def fnExactTurnByUptoRow : OpenClaim := { program := "ytnnoknejigaklaa", sum := "1463b5bd82dfafae628eaf60ba97185a971e48bde3be8b047c9a3b2665b38394", func := "loop.example/g03309/laws.FnExactTurnBy", spec := "fnExactTurnBy", unfollowed := true, recurses := true, apart := false, narrowed := true }
def FnExactTurnByUptoSaid : Prop := fnExactTurnByUptoRow.holds Try.pinned (OpenSpec.upto fnExactTurnBySpec)

/-- 'laws.FnExactCylinderOf', WHERE WHAT IT READS IS OF BULK AT MOST 1048576: true; the input reads as it did. -/
def fnExactCylinderOfUptoRow : OpenClaim := { program := "ytnnoknejigaklaa", sum := "1463b5bd82dfafae628eaf60ba97185a971e48bde3be8b047c9a3b2665b38394", func := "loop.example/g03309/laws.FnExactCylinderOf", spec := "fnExactCylinderOf", unfollowed := true, recurses := true, apart := false, narrowed := true }
def FnExactCylinderOfUptoSaid : Prop := fnExactCylinderOfUptoRow.holds Try.pinned (OpenSpec.upto fnExactCylinderOfSpec)

end Rows
end Go.Proofs.Ytnnoknejigaklaa
