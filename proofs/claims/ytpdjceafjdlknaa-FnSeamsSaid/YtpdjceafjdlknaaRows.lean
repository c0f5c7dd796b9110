/-
  No cell of these rows narrows 'for every input' (looked for: loops, veiled, ifaces, maps, wideKeys, modest, calm, conditions, laid).
  DERIVED. THE GIVEN ROWS OF THIS SEAT. 7 by the template 'for every input the law returns true; each argument reads behind the call as it read before'; 0 by the template 'total and deterministic' (their statements: YtpdjceafjdlknaaTotals.lean).
  GIVEN WITH THE SEED: the statements are not yours to turn. If you find one false, say at which input.
  Laid BY PROGRAM, IN A SANDBOX (cutbox-rows.mjs): the forced cells as the released guide's own fill.sh prints them over the translation b4732aa1a6da2572… (all of the seat's roots in one cut). By AI agents, Wed Nov 11 2026. No macro, syntax, notation, axiom, sorry.
-/
import Derived.Test.YtpdjceafjdlknaaChecked
import GoSem.Claim
import GoSem.ClaimJoined
import GoSem.ClaimMapViews
import Derived.JoinedTies
import Derived.KernelRfl
namespace Go.Proofs.Ytpdjceafjdlknaa
/- THE CELL 'sum', in the pinned program and in every row, IS THE sha256 OF THE DUMP (.gsa) THAT YtpdjceafjdlknaaProg.lean LOADS. Nothing in Lean hashes anything: it is a label: what it is worth is what the hold of that sum in a sandbox is worth. -/
noncomputable def Try.pinned : Pinned := { name := "ytpdjceafjdlknaa", sum := "b4732aa1a6da2572c823767740491b649567af45cd9c68b9e5cb2d931acbc319", checked := Try.checked }
namespace Rows
def none {H : Type} : Left H := { results := [], args := [] }

/-- 'laws.FnSeams': WHATEVER THE INPUT: true; the input reads as it did. -/
def fnSeamsSpec : ChangeSpec := { name := "fnSeams", fn := fun _ => fun
  | [d] => { results := [.lit (.bool true)], args := [d] }
  | _ => none }
def fnSeamsRow : OpenClaim := { program := "ytpdjceafjdlknaa", sum := "b4732aa1a6da2572c823767740491b649567af45cd9c68b9e5cb2d931acbc319", func := "loop.example/g03309/laws.FnSeams", spec := "fnSeams", unfollowed := true, recurses := true, apart := false }
def FnSeamsSaid : Prop := fnSeamsRow.holds Try.pinned (OpenSpec.ofChange fnSeamsSpec)

/-- ITS FALSE NEIGHBOUR: 'it returns false'. Refute it at one input. -/
def fnSeamsWrong : ChangeSpec := { name := "fnSeams", fn := fun _ => fun
  | [d] => { results := [.lit (.bool false)], args := [d] }
  | _ => none }
def FnSeamsWrongFalsely : Prop := fnSeamsRow.holds Try.pinned (OpenSpec.ofChange fnSeamsWrong)

/-- 'laws.FnExactGapAround': WHATEVER THE INPUT: true; the input reads as it did. -/
def fnExactGapAroundSpec : ChangeSpec := { name := "fnExactGapAround", fn := fun _ => fun
  | [d1, d2, d3] => { results := [.lit (.bool true)], args := [d1, d2, d3] }
  | _ => none }
def fnExactGapAroundRow : OpenClaim := { program := "ytpdjceafjdlknaa", sum := "b4732aa1a6da2572c823767740491b649567af45cd9c68b9e5cb2d931acbc319", func := "loop.example/g03309/laws.FnExactGapAround", spec := "fnExactGapAround", apart := false }
def FnExactGapAroundSaid : Prop := fnExactGapAroundRow.holds Try.pinned (OpenSpec.ofChange fnExactGapAroundSpec)

/-- ITS FALSE NEIGHBOUR: 'it returns false'. Refute it at one input. -/
def fnExactGapAroundWrong : ChangeSpec := { name := "fnExactGapAround", fn := fun _ => fun
  | [d1, d2, d3] => { results := [.lit (.bool false)], args := [d1, d2, d3] }
  | _ => none }
def FnExactGapAroundWrongFalsely : Prop := fnExactGapAroundRow.holds Try.pinned (OpenSpec.ofChange fnExactGapAroundWrong)

/-- 'laws.FnExactClosestPins': WHATEVER THE INPUT: true; the input reads as it did. -/
def fnExactClosestPinsSpec : ChangeSpec := { name := "fnExactClosestPins", fn := fun _ => fun
  | [d] => { results := [.lit (.bool true)], args := [d] }
  | _ => none }
def fnExactClosestPinsRow : OpenClaim := { program := "ytpdjceafjdlknaa", sum := "b4732aa1a6da2572c823767740491b649567af45cd9c68b9e5cb2d931acbc319", func := "loop.example/g03309/laws.FnExactClosestPins", spec := "fnExactClosestPins", apart := false }
def FnExactClosestPinsSaid : Prop := fnExactClosestPinsRow.holds Try.pinned (OpenSpec.ofChange fnExactClosestPinsSpec)

/-- ITS FALSE NEIGHBOUR: 'it returns false'. Refute it at one input. -/
def fnExactClosestPinsWrong : ChangeSpec := { name := "fnExactClosestPins", fn := fun _ => fun
  | [d] => { results := [.lit (.bool false)], args := [d] }
  | _ => none }
def FnExactClosestPinsWrongFalsely : Prop := fnExactClosestPinsRow.holds Try.pinned (OpenSpec.ofChange fnExactClosestPinsWrong)

/-- 'laws.FnExactTooClose': WHATEVER THE INPUT: true; the input reads as it did. -/
def fnExactTooCloseSpec : ChangeSpec := { name := "fnExactTooClose", fn := fun _ => fun
  | [d1, d2] => { results := [.lit (.bool true)], args := [d1, d2] }
  | _ => none }
def fnExactTooCloseRow : OpenClaim := { program := "ytpdjceafjdlknaa", sum := "b4732aa1a6da2572c823767740491b649567af45cd9c68b9e5cb2d931acbc319", func := "loop.example/g03309/laws.FnExactTooClose", spec := "fnExactTooClose", apart := false }
def FnExactTooCloseSaid : Prop := fnExactTooCloseRow.holds Try.pinned (OpenSpec.ofChange fnExactTooCloseSpec)

/-- ITS FALSE NEIGHBOUR: 'it returns false'. Refute it at one input. -/
def fnExactTooCloseWrong : ChangeSpec := { name := "fnExactTooClose", fn := fun _ => fun
  | [d1, d2] => { results := [.lit (.bool false)], args := [d1, d2] }
  | _ => none }
def FnExactTooCloseWrongFalsely : Prop := fnExactTooCloseRow.holds Try.pinned (OpenSpec.ofChange fnExactTooCloseWrong)

/-- 'laws.FnExactIsPlayable': WHATEVER THE INPUT: true; the input reads as it did. -/
def fnExactIsPlayableSpec : ChangeSpec := { name := "fnExactIsPlayable", fn := fun _ => fun
  | [d1, d2] => { results := [.lit (.bool true)], args := [d1, d2] }
  | _ => none }
def fnExactIsPlayableRow : OpenClaim := { program := "ytpdjceafjdlknaa", sum := "b4732aa1a6da2572c823767740491b649567af45cd9c68b9e5cb2d931acbc319", func := "loop.example/g03309/laws.FnExactIsPlayable", spec := "fnExactIsPlayable", apart := false }
def FnExactIsPlayableSaid : Prop := fnExactIsPlayableRow.holds Try.pinned (OpenSpec.ofChange fnExactIsPlayableSpec)

/-- ITS FALSE NEIGHBOUR: 'it returns false'. Refute it at one input. -/
def fnExactIsPlayableWrong : ChangeSpec := { name := "fnExactIsPlayable", fn := fun _ => fun
  | [d1, d2] => { results := [.lit (.bool false)], args := [d1, d2] }
  | _ => none }
def FnExactIsPlayableWrongFalsely : Prop := fnExactIsPlayableRow.holds Try.pinned (OpenSpec.ofChange fnExactIsPlayableWrong)

/-- 'laws.FnExactOnlyAtSeam': WHATEVER THE INPUT: true; the input reads as it did. -/
def fnExactOnlyAtSeamSpec : ChangeSpec := { name := "fnExactOnlyAtSeam", fn := fun _ => fun
  | [d1, d2] => { results := [.lit (.bool true)], args := [d1, d2] }
  | _ => none }
def fnExactOnlyAtSeamRow : OpenClaim := { program := "ytpdjceafjdlknaa", sum := "b4732aa1a6da2572c823767740491b649567af45cd9c68b9e5cb2d931acbc319", func := "loop.example/g03309/laws.FnExactOnlyAtSeam", spec := "fnExactOnlyAtSeam", unfollowed := true, recurses := true, apart := false }
def FnExactOnlyAtSeamSaid : Prop := fnExactOnlyAtSeamRow.holds Try.pinned (OpenSpec.ofChange fnExactOnlyAtSeamSpec)

/-- ITS FALSE NEIGHBOUR: 'it returns false'. Refute it at one input. -/
def fnExactOnlyAtSeamWrong : ChangeSpec := { name := "fnExactOnlyAtSeam", fn := fun _ => fun
  | [d1, d2] => { results := [.lit (.bool false)], args := [d1, d2] }
  | _ => none }
def FnExactOnlyAtSeamWrongFalsely : Prop := fnExactOnlyAtSeamRow.holds Try.pinned (OpenSpec.ofChange fnExactOnlyAtSeamWrong)

/-- 'laws.FnExactQuietAngle': WHATEVER THE INPUT: true; the input reads as it did. -/
def fnExactQuietAngleSpec : ChangeSpec := { name := "fnExactQuietAngle", fn := fun _ => fun
  | [d] => { results := [.lit (.bool true)], args := [d] }
  | _ => none }
def fnExactQuietAngleRow : OpenClaim := { program := "ytpdjceafjdlknaa", sum := "b4732aa1a6da2572c823767740491b649567af45cd9c68b9e5cb2d931acbc319", func := "loop.example/g03309/laws.FnExactQuietAngle", spec := "fnExactQuietAngle", apart := false }
def FnExactQuietAngleSaid : Prop := fnExactQuietAngleRow.holds Try.pinned (OpenSpec.ofChange fnExactQuietAngleSpec)

/-- ITS FALSE NEIGHBOUR: 'it returns false'. Refute it at one input. -/
def fnExactQuietAngleWrong : ChangeSpec := { name := "fnExactQuietAngle", fn := fun _ => fun
  | [d] => { results := [.lit (.bool false)], args := [d] }
  | _ => none }
def FnExactQuietAngleWrongFalsely : Prop := fnExactQuietAngleRow.holds Try.pinned (OpenSpec.ofChange fnExactQuietAngleWrong)

/- THE SECOND FORM. 'bulk': how many values and letters a reading holds, each counted each time it is reached (what is shared counts as often as it is met; a slice's spare places count too). A statement '..UptoSaid' is the law's where the arguments, and the package variables that the reading takes, are together of bulk at most 1048576: NARROWER than '..Said'. Prove '..Said' where nothing that the law and all that it calls make is longer than what came in: it says more and counts as full. Else prove '..UptoSaid'. A law counts once. -/
mutual
def uptoBulk {H : Type} : DataW H → Nat
  | .lit (.string bytes) => bytes.length + 1
  | .lit _ => 1
  | .nil => 1
  | .ptr d => uptoBulk d + 1
  | .slice elems spare => uptoBulkAll elems + uptoBulkAll spare + 1
  | .agg parts => uptoBulkAll parts + 1
  | .iface _ d => uptoBulk d + 1
  | .map entries => uptoBulkEntries entries + 1
  | .held _ => 1
def uptoBulkAll {H : Type} : List (DataW H) → Nat
  | [] => 0
  | d :: r => uptoBulk d + uptoBulkAll r
def uptoBulkEntries {H : Type} : List (Lit × DataW H) → Nat
  | [] => 0
  | x :: r => uptoBulkEntry x + uptoBulkEntries r
def uptoBulkEntry {H : Type} : Lit × DataW H → Nat
  | (.string bytes, d) => bytes.length + uptoBulk d + 1
  | (_, d) => uptoBulk d + 1
 end
def uptoSmall : (H : Type) → List (DataW H) → Bool := fun _ ds => decide (uptoBulkAll ds ≤ 1048576)
def OpenSpec.upto (s : _root_.Go.ChangeSpec) : _root_.Go.OpenSpec := { _root_.Go.OpenSpec.ofChange s with cond := some uptoSmall }

/-- 'laws.FnSeams', WHERE WHAT IT READS IS OF BULK AT MOST 1048576: true; the input reads as it did. -/
def fnSeamsUptoRow : OpenClaim := { program := "ytpdjceafjdlknaa", sum := "b4732aa1a6da2572c823767740491b649567af45cd9c68b9e5cb2d931acbc319", func := "loop.example/g03309/laws.FnSeams", spec := "fnSeams", unfollowed := true, recurses := true, apart := false, narrowed := true }
def FnSeamsUptoSaid : Prop := fnSeamsUptoRow.holds Try.pinned (OpenSpec.upto fnSeamsSpec)

/-- 'laws.FnExactGapAround', WHERE WHAT IT READS IS OF BULK AT MOST 1048576: true; the input reads as it did. -/
def fnExactGapAroundUptoRow : OpenClaim := { program := "ytpdjceafjdlknaa", sum := "b4732aa1a6da2572c823767740491b649567af45cd9c68b9e5cb2d931acbc319", func := "loop.example/g03309/laws.FnExactGapAround", spec := "fnExactGapAround", apart := false, narrowed := true }
def FnExactGapAroundUptoSaid : Prop := fnExactGapAroundUptoRow.holds Try.pinned (OpenSpec.upto fnExactGapAroundSpec)

/-- 'laws.FnExactClosestPins', WHERE WHAT IT READS IS OF BULK AT MOST 1048576: true; the input reads as it did. -/
def fnExactClosestPinsUptoRow : OpenClaim := { program := "ytpdjceafjdlknaa", sum := "b4732aa1a6da2572c823767740491b649567af45cd9c68b9e5cb2d931acbc319", func := "loop.example/g03309/laws.FnExactClosestPins", spec := "fnExactClosestPins", apart := false, narrowed := true }
def FnExactClosestPinsUptoSaid : Prop := fnExactClosestPinsUptoRow.holds Try.pinned (OpenSpec.upto fnExactClosestPinsSpec)

/-- 'laws.FnExactTooClose', WHERE WHAT IT READS IS OF BULK AT MOST 1048576: true; the input reads as it did. -/
def fnExactTooCloseUptoRow : OpenClaim := { program := "ytpdjceafjdlknaa", sum := "b4732aa1a6da2572c823767740491b649567af45cd9c68b9e5cb2d931acbc319", func := "loop.example/g03309/laws.FnExactTooClose", spec := "fnExactTooClose", apart := false, narrowed := true }
def FnExactTooCloseUptoSaid : Prop := fnExactTooCloseUptoRow.holds Try.pinned (OpenSpec.upto fnExactTooCloseSpec)

/-- 'laws.FnExactIsPlayable', WHERE WHAT IT READS IS OF BULK AT MOST 1048576: true; the input reads as it did. -/
def fnExactIsPlayableUptoRow : OpenClaim := { program := "ytpdjceafjdlknaa", sum := "b4732aa1a6da2572c823767740491b649567af45cd9c68b9e5cb2d931acbc319", func := "loop.example/g03309/laws.FnExactIsPlayable", spec := "fnExactIsPlayable", apart := false, narrowed := true }
def FnExactIsPlayableUptoSaid : Prop := fnExactIsPlayableUptoRow.holds Try.pinned (OpenSpec.upto fnExactIsPlayableSpec)

/-- 'laws.FnExactOnlyAtSeam', WHERE WHAT IT READS IS OF BULK AT MOST 1048576: true; the input reads as it did. -/
def fnExactOnlyAtSeamUptoRow : OpenClaim := { program := "ytpdjceafjdlknaa", sum := "b4732aa1a6da2572c823767740491b649567af45cd9c68b9e5cb2d931acbc319", func := "loop.example/g03309/laws.FnExactOnlyAtSeam", spec := "fnExactOnlyAtSeam", unfollowed := true, recurses := true, apart := false, narrowed := true }
def FnExactOnlyAtSeamUptoSaid : Prop := fnExactOnlyAtSeamUptoRow.holds Try.pinned (OpenSpec.upto fnExactOnlyAtSeamSpec)

/-- 'laws.FnExactQuietAngle', WHERE WHAT IT READS IS OF BULK AT MOST 1048576: true; the input reads as it did. -/
def fnExactQuietAngleUptoRow : OpenClaim := { program := "ytpdjceafjdlknaa", sum := "b4732aa1a6da2572c823767740491b649567af45cd9c68b9e5cb2d931acbc319", func := "loop.example/g03309/laws.FnExactQuietAngle", spec := "fnExactQuietAngle", apart := false, narrowed := true }
def FnExactQuietAngleUptoSaid : Prop := fnExactQuietAngleUptoRow.holds Try.pinned (OpenSpec.upto fnExactQuietAngleSpec)

end Rows
end Go.Proofs.Ytpdjceafjdlknaa
