/-
  No cell of these rows narrows 'for every input' (looked for: loops, veiled, ifaces, maps, wideKeys, modest, calm, conditions, laid).
  DERIVED. THE GIVEN ROWS OF THIS SEAT. 6 by the template 'for every input the law returns true; each argument reads behind the call as it read before'; 0 by the template 'total and deterministic' (their statements: YtjikpkigncomfaaTotals.lean).
  GIVEN WITH THE SEED: the statements are not yours to turn. If you find one false, say at which input.
  Laid BY PROGRAM, IN A SANDBOX (cutbox-rows.mjs): the forced cells as the released guide's own fill.sh prints them over the translation b6bed949c0e37f39… (all of the seat's roots in one cut). By AI agents, Wed Nov 11 2026. No macro, syntax, notation, axiom, sorry.
-/
import Derived.Test.YtjikpkigncomfaaChecked
import GoSem.Claim
import GoSem.ClaimJoined
import GoSem.ClaimMapViews
import Derived.JoinedTies
import Derived.KernelRfl
namespace Go.Proofs.Ytjikpkigncomfaa
/- THE CELL 'sum', in the pinned program and in every row, IS THE sha256 OF THE DUMP (.gsa) THAT YtjikpkigncomfaaProg.lean LOADS. Nothing in Lean hashes anything: it is a label: what it is worth is what the hold of that sum in a sandbox is worth. -/
noncomputable def Try.pinned : Pinned := { name := "ytjikpkigncomfaa", sum := "b6bed949c0e37f39468dd8250c16b3732a72171a4476cf4eb8bfd6691677cce3", checked := Try.checked }
namespace Rows
def none {H : Type} : Left H := { results := [], args := [] }

/-- 'laws.FnNearest': WHATEVER THE INPUT: true; the input reads as it did. -/
def fnNearestSpec : ChangeSpec := { name := "fnNearest", fn := fun _ => fun
  | [d] => { results := [.lit (.bool true)], args := [d] }
  | _ => none }
def fnNearestRow : OpenClaim := { program := "ytjikpkigncomfaa", sum := "b6bed949c0e37f39468dd8250c16b3732a72171a4476cf4eb8bfd6691677cce3", func := "loop.example/g03309/laws.FnNearest", spec := "fnNearest", unfollowed := true, recurses := true, apart := false }
def FnNearestSaid : Prop := fnNearestRow.holds Try.pinned (OpenSpec.ofChange fnNearestSpec)

/-- ITS FALSE NEIGHBOUR: 'it returns false'. Refute it at one input. -/
def fnNearestWrong : ChangeSpec := { name := "fnNearest", fn := fun _ => fun
  | [d] => { results := [.lit (.bool false)], args := [d] }
  | _ => none }
def FnNearestWrongFalsely : Prop := fnNearestRow.holds Try.pinned (OpenSpec.ofChange fnNearestWrong)

/-- 'laws.FnExactContinuedOf': WHATEVER THE INPUT: true; the input reads as it did. -/
def fnExactContinuedOfSpec : ChangeSpec := { name := "fnExactContinuedOf", fn := fun _ => fun
  | [d1, d2] => { results := [.lit (.bool true)], args := [d1, d2] }
  | _ => none }
def fnExactContinuedOfRow : OpenClaim := { program := "ytjikpkigncomfaa", sum := "b6bed949c0e37f39468dd8250c16b3732a72171a4476cf4eb8bfd6691677cce3", func := "loop.example/g03309/laws.FnExactContinuedOf", spec := "fnExactContinuedOf", apart := false }
def FnExactContinuedOfSaid : Prop := fnExactContinuedOfRow.holds Try.pinned (OpenSpec.ofChange fnExactContinuedOfSpec)

/-- ITS FALSE NEIGHBOUR: 'it returns false'. Refute it at one input. -/
def fnExactContinuedOfWrong : ChangeSpec := { name := "fnExactContinuedOf", fn := fun _ => fun
  | [d1, d2] => { results := [.lit (.bool false)], args := [d1, d2] }
  | _ => none }
def FnExactContinuedOfWrongFalsely : Prop := fnExactContinuedOfRow.holds Try.pinned (OpenSpec.ofChange fnExactContinuedOfWrong)

/-- 'laws.FnExactFractionOf': WHATEVER THE INPUT: true; the input reads as it did. -/
def fnExactFractionOfSpec : ChangeSpec := { name := "fnExactFractionOf", fn := fun _ => fun
  | [d] => { results := [.lit (.bool true)], args := [d] }
  | _ => none }
def fnExactFractionOfRow : OpenClaim := { program := "ytjikpkigncomfaa", sum := "b6bed949c0e37f39468dd8250c16b3732a72171a4476cf4eb8bfd6691677cce3", func := "loop.example/g03309/laws.FnExactFractionOf", spec := "fnExactFractionOf", unfollowed := true, recurses := true, apart := false }
def FnExactFractionOfSaid : Prop := fnExactFractionOfRow.holds Try.pinned (OpenSpec.ofChange fnExactFractionOfSpec)

/-- ITS FALSE NEIGHBOUR: 'it returns false'. Refute it at one input. -/
def fnExactFractionOfWrong : ChangeSpec := { name := "fnExactFractionOf", fn := fun _ => fun
  | [d] => { results := [.lit (.bool false)], args := [d] }
  | _ => none }
def FnExactFractionOfWrongFalsely : Prop := fnExactFractionOfRow.holds Try.pinned (OpenSpec.ofChange fnExactFractionOfWrong)

/-- 'laws.FnExactCloserOf': WHATEVER THE INPUT: true; the input reads as it did. -/
def fnExactCloserOfSpec : ChangeSpec := { name := "fnExactCloserOf", fn := fun _ => fun
  | [d1, d2, d3, d4, d5, d6] => { results := [.lit (.bool true)], args := [d1, d2, d3, d4, d5, d6] }
  | _ => none }
def fnExactCloserOfRow : OpenClaim := { program := "ytjikpkigncomfaa", sum := "b6bed949c0e37f39468dd8250c16b3732a72171a4476cf4eb8bfd6691677cce3", func := "loop.example/g03309/laws.FnExactCloserOf", spec := "fnExactCloserOf", unfollowed := true, recurses := true, apart := false }
def FnExactCloserOfSaid : Prop := fnExactCloserOfRow.holds Try.pinned (OpenSpec.ofChange fnExactCloserOfSpec)

/-- ITS FALSE NEIGHBOUR: 'it returns false'. Refute it at one input. -/
def fnExactCloserOfWrong : ChangeSpec := { name := "fnExactCloserOf", fn := fun _ => fun
  | [d1, d2, d3, d4, d5, d6] => { results := [.lit (.bool false)], args := [d1, d2, d3, d4, d5, d6] }
  | _ => none }
def FnExactCloserOfWrongFalsely : Prop := fnExactCloserOfRow.holds Try.pinned (OpenSpec.ofChange fnExactCloserOfWrong)

/-- 'laws.FnExactNearestGear': WHATEVER THE INPUT: true; the input reads as it did. -/
def fnExactNearestGearSpec : ChangeSpec := { name := "fnExactNearestGear", fn := fun _ => fun
  | [d1, d2] => { results := [.lit (.bool true)], args := [d1, d2] }
  | _ => none }
def fnExactNearestGearRow : OpenClaim := { program := "ytjikpkigncomfaa", sum := "b6bed949c0e37f39468dd8250c16b3732a72171a4476cf4eb8bfd6691677cce3", func := "loop.example/g03309/laws.FnExactNearestGear", spec := "fnExactNearestGear", unfollowed := true, recurses := true, apart := false }
def FnExactNearestGearSaid : Prop := fnExactNearestGearRow.holds Try.pinned (OpenSpec.ofChange fnExactNearestGearSpec)

/-- ITS FALSE NEIGHBOUR: 'it returns false'. Refute it at one input. -/
def fnExactNearestGearWrong : ChangeSpec := { name := "fnExactNearestGear", fn := fun _ => fun
  | [d1, d2] => { results := [.lit (.bool false)], args := [d1, d2] }
  | _ => none }
def FnExactNearestGearWrongFalsely : Prop := fnExactNearestGearRow.holds Try.pinned (OpenSpec.ofChange fnExactNearestGearWrong)

/-- 'laws.FnExactErrorParts': WHATEVER THE INPUT: true; the input reads as it did. -/
def fnExactErrorPartsSpec : ChangeSpec := { name := "fnExactErrorParts", fn := fun _ => fun
  | [d1, d2, d3] => { results := [.lit (.bool true)], args := [d1, d2, d3] }
  | _ => none }
def fnExactErrorPartsRow : OpenClaim := { program := "ytjikpkigncomfaa", sum := "b6bed949c0e37f39468dd8250c16b3732a72171a4476cf4eb8bfd6691677cce3", func := "loop.example/g03309/laws.FnExactErrorParts", spec := "fnExactErrorParts", unfollowed := true, recurses := true, apart := false }
def FnExactErrorPartsSaid : Prop := fnExactErrorPartsRow.holds Try.pinned (OpenSpec.ofChange fnExactErrorPartsSpec)

/-- ITS FALSE NEIGHBOUR: 'it returns false'. Refute it at one input. -/
def fnExactErrorPartsWrong : ChangeSpec := { name := "fnExactErrorParts", fn := fun _ => fun
  | [d1, d2, d3] => { results := [.lit (.bool false)], args := [d1, d2, d3] }
  | _ => none }
def FnExactErrorPartsWrongFalsely : Prop := fnExactErrorPartsRow.holds Try.pinned (OpenSpec.ofChange fnExactErrorPartsWrong)

/- THE SECOND FORM. 'bulk': how many values and letters a reading holds, each counted each time it is reached (what is shared counts as often as it is met; a slice's spare places count too). A statement '..UptoSaid' is the law's where the arguments, and the package variables that the reading takes, are together of bulk at most 1048576: NARROWER than '..Said'. Prove '..Said' where nothing that the law and all that it calls make is longer than what came in: it says more and counts as full. Else prove '..UptoSaid'. A law counts once. -/
mutual
def uptoBulk {H : Type} : DataW H → Nat
  | .lit (.string bytes) => bytes.length + 1
  | .lit _ => 1
  | .nil => 1
  | .ptr d => uptoBulk d + 1
  | .slice elems spare => uptoBulkAll elems + uptoBulkAll spare + 1
  | .agg parts => uptoBulkAll parts + 1
  | .iface _ d => uptoBulk d + 1
  | .map entries => uptoBulkEntries entries + 1
  | .held _ => 1
def uptoBulkAll {H : Type} : List (DataW H) → Nat
  | [] => 0
  | d :: r => uptoBulk d + uptoBulkAll r
def uptoBulkEntries {H : Type} : List (Lit × DataW H) → Nat
  | [] => 0
  | x :: r => uptoBulkEntry x + uptoBulkEntries r
def uptoBulkEntry {H : Type} : Lit × DataW H → Nat
  | (.string bytes, d) => bytes.length + uptoBulk d + 1
  | (_, d) => uptoBulk d + 1
 end
def uptoSmall : (H : Type) → List (DataW H) → Bool := fun _ ds => decide (uptoBulkAll ds ≤ 1048576)
def OpenSpec.upto (s : _root_.Go.ChangeSpec) : _root_.Go.OpenSpec := { _root_.Go.OpenSpec.ofChange s with cond := some uptoSmall }

/-- 'laws.FnNearest', WHERE WHAT IT READS IS OF BULK AT MOST 1048576: true; the input reads as it did. -/
def fnNearestUptoRow : OpenClaim := { program := "ytjikpkigncomfaa", sum := "b6bed949c0e37f39468dd8250c16b3732a72171a4476cf4eb8bfd6691677cce3", func := "loop.example/g03309/laws.FnNearest", spec := "fnNearest", unfollowed := true, recurses := true, apart := false, narrowed := true }
def FnNearestUptoSaid : Prop := fnNearestUptoRow.holds Try.pinned (OpenSpec.upto fnNearestSpec)

/-- 'laws.FnExactContinuedOf', WHERE WHAT IT READS IS OF BULK AT MOST 1048576: true; the input reads as it did. -/
def fnExactContinuedOfUptoRow : OpenClaim := { program := "ytjikpkigncomfaa", sum := "b6bed949c0e37f39468dd8250c16b3732a72171a4476cf4eb8bfd6691677cce3", func := "loop.example/g03309/laws.FnExactContinuedOf", spec := "fnExactContinuedOf", apart := false, narrowed := true }
def FnExactContinuedOfUptoSaid : Prop := fnExactContinuedOfUptoRow.holds Try.pinned (OpenSpec.upto fnExactContinuedOfSpec)

/-- 'laws.FnExactFractionOf', WHERE WHAT IT READS IS OF BULK AT MOST 1048576: true; the input reads as it did. -/
def fnExactFractionOfUptoRow : OpenClaim := { program := "ytjikpkigncomfaa", sum := "b6bed949c0e37f39468dd8250c16b3732a72171a4476cf4eb8bfd6691677cce3", func := "loop.example/g03309/laws.FnExactFractionOf", spec := "fnExactFractionOf", unfollowed := true, recurses := true, apart := false, narrowed := true }
def FnExactFractionOfUptoSaid : Prop := fnExactFractionOfUptoRow.holds Try.pinned (OpenSpec.upto fnExactFractionOfSpec)

/-- 'laws.FnExactCloserOf', WHERE WHAT IT READS IS OF BULK AT MOST 1048576: true; the input reads as it did. -/
def fnExactCloserOfUptoRow : OpenClaim := { program := "ytjikpkigncomfaa", sum := "b6bed949c0e37f39468dd8250c16b3732a72171a4476cf4eb8bfd6691677cce3", func := "loop.example/g03309/laws.FnExactCloserOf", spec := "fnExactCloserOf", unfollowed := true, recurses := true, apart := false, narrowed := true }
def FnExactCloserOfUptoSaid : Prop := fnExactCloserOfUptoRow.holds Try.pinned (OpenSpec.upto fnExactCloserOfSpec)

/-- 'laws.FnExactNearestGear', WHERE WHAT IT READS IS OF BULK AT MOST 1048576: true; the input reads as it did. -/
def fnExactNearestGearUptoRow : OpenClaim := { program := "ytjikpkigncomfaa", sum := "b6bed949c0e37f39468dd8250c16b3732a72171a4476cf4eb8bfd6691677cce3", func := "loop.example/g03309/laws.FnExactNearestGear", spec := "fnExactNearestGear", unfollowed := true, recurses := true, apart := false, narrowed := true }
def FnExactNearestGearUptoSaid : Prop := fnExactNearestGearUptoRow.holds Try.pinned (OpenSpec.upto fnExactNearestGearSpec)

/-- 'laws.FnExactErrorParts', WHERE WHAT IT READS IS OF BULK AT MOST 1048576: true; the input reads as it did. -/
def fnExactErrorPartsUptoRow : OpenClaim := { program := "ytjikpkigncomfaa", sum := "b6bed949c0e37f39468dd8250c16b3732a72171a4476cf4eb8bfd6691677cce3", func := "loop.example/g03309/laws.FnExactErrorParts", spec := "fnExactErrorParts", unfollowed := true, recurses := true, apart := false, narrowed := true }
def FnExactErrorPartsUptoSaid : Prop := fnExactErrorPartsUptoRow.holds Try.pinned (OpenSpec.upto fnExactErrorPartsSpec)

end Rows
end Go.Proofs.Ytjikpkigncomfaa
