/-
  No cell of these rows narrows 'for every input' (looked for: loops, veiled, ifaces, maps, wideKeys, modest, calm, conditions, laid).
  DERIVED. THE GIVEN ROWS OF THIS SEAT. 7 by the template 'for every input the law returns true; each argument reads behind the call as it read before'; 0 by the template 'total and deterministic' (their statements: YtgkkapedhiipdaaTotals.lean).
  GIVEN WITH THE SEED: the statements are not yours to turn. If you find one false, say at which input.
  Laid BY PROGRAM, IN A SANDBOX (cutbox-rows.mjs): the forced cells as the released guide's own fill.sh prints them over the translation b5791c9935b762c2… (all of the seat's roots in one cut). By AI agents, Wed Nov 11 2026. No macro, syntax, notation, axiom, sorry.
-/
import Derived.Test.YtgkkapedhiipdaaChecked
import GoSem.Claim
import GoSem.ClaimJoined
import GoSem.ClaimMapViews
import Derived.JoinedTies
import Derived.KernelRfl
namespace Go.Proofs.Ytgkkapedhiipdaa
/- THE CELL 'sum', in the pinned program and in every row, IS THE sha256 OF THE DUMP (.gsa) THAT YtgkkapedhiipdaaProg.lean LOADS. Nothing in Lean hashes anything: it is a label: what it is worth is what the hold of that sum in a sandbox is worth. -/
noncomputable def Try.pinned : Pinned := { name := "ytgkkapedhiipdaa", sum := "b5791c9935b762c2763691d5d2ce63a5f28ff56a7ffc9ddc29922b8d2fff9d93", checked := Try.checked }
namespace Rows
def none {H : Type} : Left H := { results := [], args := [] }

/-- 'laws.FnGears': WHATEVER THE INPUT: true; the input reads as it did. -/
def fnGearsSpec : ChangeSpec := { name := "fnGears", fn := fun _ => fun
  | [d] => { results := [.lit (.bool true)], args := [d] }
  | _ => none }
def fnGearsRow : OpenClaim := { program := "ytgkkapedhiipdaa", sum := "b5791c9935b762c2763691d5d2ce63a5f28ff56a7ffc9ddc29922b8d2fff9d93", func := "loop.example/g03309/laws.FnGears", spec := "fnGears", unfollowed := true, recurses := true, apart := false }
def FnGearsSaid : Prop := fnGearsRow.holds Try.pinned (OpenSpec.ofChange fnGearsSpec)

/-- ITS FALSE NEIGHBOUR: 'it returns false'. Refute it at one input. -/
def fnGearsWrong : ChangeSpec := { name := "fnGears", fn := fun _ => fun
  | [d] => { results := [.lit (.bool false)], args := [d] }
  | _ => none }
def FnGearsWrongFalsely : Prop := fnGearsRow.holds Try.pinned (OpenSpec.ofChange fnGearsWrong)

/-- 'laws.FnExactGearOk': WHATEVER THE INPUT: true; the input reads as it did. -/
def fnExactGearOkSpec : ChangeSpec := { name := "fnExactGearOk", fn := fun _ => fun
  | [d] => { results := [.lit (.bool true)], args := [d] }
  | _ => none }
def fnExactGearOkRow : OpenClaim := { program := "ytgkkapedhiipdaa", sum := "b5791c9935b762c2763691d5d2ce63a5f28ff56a7ffc9ddc29922b8d2fff9d93", func := "loop.example/g03309/laws.FnExactGearOk", spec := "fnExactGearOk", apart := false }
def FnExactGearOkSaid : Prop := fnExactGearOkRow.holds Try.pinned (OpenSpec.ofChange fnExactGearOkSpec)

/-- ITS FALSE NEIGHBOUR: 'it returns false'. Refute it at one input. -/
def fnExactGearOkWrong : ChangeSpec := { name := "fnExactGearOk", fn := fun _ => fun
  | [d] => { results := [.lit (.bool false)], args := [d] }
  | _ => none }
def FnExactGearOkWrongFalsely : Prop := fnExactGearOkRow.holds Try.pinned (OpenSpec.ofChange fnExactGearOkWrong)

/-- 'laws.FnExactTrainRatio': WHATEVER THE INPUT: true; the input reads as it did. -/
def fnExactTrainRatioSpec : ChangeSpec := { name := "fnExactTrainRatio", fn := fun _ => fun
  | [d] => { results := [.lit (.bool true)], args := [d] }
  | _ => none }
def fnExactTrainRatioRow : OpenClaim := { program := "ytgkkapedhiipdaa", sum := "b5791c9935b762c2763691d5d2ce63a5f28ff56a7ffc9ddc29922b8d2fff9d93", func := "loop.example/g03309/laws.FnExactTrainRatio", spec := "fnExactTrainRatio", unfollowed := true, recurses := true, apart := false }
def FnExactTrainRatioSaid : Prop := fnExactTrainRatioRow.holds Try.pinned (OpenSpec.ofChange fnExactTrainRatioSpec)

/-- ITS FALSE NEIGHBOUR: 'it returns false'. Refute it at one input. -/
def fnExactTrainRatioWrong : ChangeSpec := { name := "fnExactTrainRatio", fn := fun _ => fun
  | [d] => { results := [.lit (.bool false)], args := [d] }
  | _ => none }
def FnExactTrainRatioWrongFalsely : Prop := fnExactTrainRatioRow.holds Try.pinned (OpenSpec.ofChange fnExactTrainRatioWrong)

/-- 'laws.FnExactTurnsOf': WHATEVER THE INPUT: true; the input reads as it did. -/
def fnExactTurnsOfSpec : ChangeSpec := { name := "fnExactTurnsOf", fn := fun _ => fun
  | [d1, d2] => { results := [.lit (.bool true)], args := [d1, d2] }
  | _ => none }
def fnExactTurnsOfRow : OpenClaim := { program := "ytgkkapedhiipdaa", sum := "b5791c9935b762c2763691d5d2ce63a5f28ff56a7ffc9ddc29922b8d2fff9d93", func := "loop.example/g03309/laws.FnExactTurnsOf", spec := "fnExactTurnsOf", unfollowed := true, recurses := true, apart := false }
def FnExactTurnsOfSaid : Prop := fnExactTurnsOfRow.holds Try.pinned (OpenSpec.ofChange fnExactTurnsOfSpec)

/-- ITS FALSE NEIGHBOUR: 'it returns false'. Refute it at one input. -/
def fnExactTurnsOfWrong : ChangeSpec := { name := "fnExactTurnsOf", fn := fun _ => fun
  | [d1, d2] => { results := [.lit (.bool false)], args := [d1, d2] }
  | _ => none }
def FnExactTurnsOfWrongFalsely : Prop := fnExactTurnsOfRow.holds Try.pinned (OpenSpec.ofChange fnExactTurnsOfWrong)

/-- 'laws.FnExactLeastWhole': WHATEVER THE INPUT: true; the input reads as it did. -/
def fnExactLeastWholeSpec : ChangeSpec := { name := "fnExactLeastWhole", fn := fun _ => fun
  | [d] => { results := [.lit (.bool true)], args := [d] }
  | _ => none }
def fnExactLeastWholeRow : OpenClaim := { program := "ytgkkapedhiipdaa", sum := "b5791c9935b762c2763691d5d2ce63a5f28ff56a7ffc9ddc29922b8d2fff9d93", func := "loop.example/g03309/laws.FnExactLeastWhole", spec := "fnExactLeastWhole", unfollowed := true, recurses := true, apart := false }
def FnExactLeastWholeSaid : Prop := fnExactLeastWholeRow.holds Try.pinned (OpenSpec.ofChange fnExactLeastWholeSpec)

/-- ITS FALSE NEIGHBOUR: 'it returns false'. Refute it at one input. -/
def fnExactLeastWholeWrong : ChangeSpec := { name := "fnExactLeastWhole", fn := fun _ => fun
  | [d] => { results := [.lit (.bool false)], args := [d] }
  | _ => none }
def FnExactLeastWholeWrongFalsely : Prop := fnExactLeastWholeRow.holds Try.pinned (OpenSpec.ofChange fnExactLeastWholeWrong)

/-- 'laws.FnExactTurnTrain': WHATEVER THE INPUT: true; the input reads as it did. -/
def fnExactTurnTrainSpec : ChangeSpec := { name := "fnExactTurnTrain", fn := fun _ => fun
  | [d] => { results := [.lit (.bool true)], args := [d] }
  | _ => none }
def fnExactTurnTrainRow : OpenClaim := { program := "ytgkkapedhiipdaa", sum := "b5791c9935b762c2763691d5d2ce63a5f28ff56a7ffc9ddc29922b8d2fff9d93", func := "loop.example/g03309/laws.FnExactTurnTrain", spec := "fnExactTurnTrain", unfollowed := true, recurses := true, apart := false }
def FnExactTurnTrainSaid : Prop := fnExactTurnTrainRow.holds Try.pinned (OpenSpec.ofChange fnExactTurnTrainSpec)

/-- ITS FALSE NEIGHBOUR: 'it returns false'. Refute it at one input. -/
def fnExactTurnTrainWrong : ChangeSpec := { name := "fnExactTurnTrain", fn := fun _ => fun
  | [d] => { results := [.lit (.bool false)], args := [d] }
  | _ => none }
def FnExactTurnTrainWrongFalsely : Prop := fnExactTurnTrainRow.holds Try.pinned (OpenSpec.ofChange fnExactTurnTrainWrong)

/-- 'laws.FnExactGearsFor': WHATEVER THE INPUT: true; the input reads as it did. -/
def fnExactGearsForSpec : ChangeSpec := { name := "fnExactGearsFor", fn := fun _ => fun
  | [d1, d2] => { results := [.lit (.bool true)], args := [d1, d2] }
  | _ => none }
def fnExactGearsForRow : OpenClaim := { program := "ytgkkapedhiipdaa", sum := "b5791c9935b762c2763691d5d2ce63a5f28ff56a7ffc9ddc29922b8d2fff9d93", func := "loop.example/g03309/laws.FnExactGearsFor", spec := "fnExactGearsFor", apart := false }
def FnExactGearsForSaid : Prop := fnExactGearsForRow.holds Try.pinned (OpenSpec.ofChange fnExactGearsForSpec)

/-- ITS FALSE NEIGHBOUR: 'it returns false'. Refute it at one input. -/
def fnExactGearsForWrong : ChangeSpec := { name := "fnExactGearsFor", fn := fun _ => fun
  | [d1, d2] => { results := [.lit (.bool false)], args := [d1, d2] }
  | _ => none }
def FnExactGearsForWrongFalsely : Prop := fnExactGearsForRow.holds Try.pinned (OpenSpec.ofChange fnExactGearsForWrong)

/- THE SECOND FORM. 'bulk': how many values and letters a reading holds, each counted each time it is reached (what is shared counts as often as it is met; a slice's spare places count too). A statement '..UptoSaid' is the law's where the arguments, and the package variables that the reading takes, are together of bulk at most 1048576: NARROWER than '..Said'. Prove '..Said' where nothing that the law and all that it calls make is longer than what came in: it says more and counts as full. Else prove '..UptoSaid'. A law counts once. -/
mutual
def uptoBulk {H : Type} : DataW H → Nat
  | .lit (.string bytes) => bytes.length + 1
  | .lit _ => 1
  | .nil => 1
  | .ptr d => uptoBulk d + 1
  | .slice elems spare => uptoBulkAll elems + uptoBulkAll spare + 1
  | .agg parts => uptoBulkAll parts + 1
  | .iface _ d => uptoBulk d + 1
  | .map entries => uptoBulkEntries entries + 1
  | .held _ => 1
def uptoBulkAll {H : Type} : List (DataW H) → Nat
  | [] => 0
  | d :: r => uptoBulk d + uptoBulkAll r
def uptoBulkEntries {H : Type} : List (Lit × DataW H) → Nat
  | [] => 0
  | x :: r => uptoBulkEntry x + uptoBulkEntries r
def uptoBulkEntry {H : Type} : Lit × DataW H → Nat
  | (.string bytes, d) => bytes.length + uptoBulk d + 1
  | (_, d) => uptoBulk d + 1
 end
def uptoSmall : (H : Type) → List (DataW H) → Bool := fun _ ds => decide (uptoBulkAll ds ≤ 1048576)
def OpenSpec.upto (s : _root_.Go.ChangeSpec) : _root_.Go.OpenSpec := { _root_.Go.OpenSpec.ofChange s with cond := some uptoSmall }

/-- 'laws.FnGears', WHERE WHAT IT READS IS OF BULK AT MOST 1048576: true; the input reads as it did. -/
def fnGearsUptoRow : OpenClaim := { program := "ytgkkapedhiipdaa", sum := "b5791c9935b762c2763691d5d2ce63a5f28ff56a7ffc9ddc29922b8d2fff9d93", func := "loop.example/g03309/laws.FnGears", spec := "fnGears", unfollowed := true, recurses := true, apart := false, narrowed := true }
def FnGearsUptoSaid : Prop := fnGearsUptoRow.holds Try.pinned (OpenSpec.upto fnGearsSpec)

/-- 'laws.FnExactGearOk', WHERE WHAT IT READS IS OF BULK AT MOST 1048576: true; the input reads as it did. -/
def fnExactGearOkUptoRow : OpenClaim := { program := "ytgkkapedhiipdaa", sum := "b5791c9935b762c2763691d5d2ce63a5f28ff56a7ffc9ddc29922b8d2fff9d93", func := "loop.example/g03309/laws.FnExactGearOk", spec := "fnExactGearOk", apart := false, narrowed := true }
def FnExactGearOkUptoSaid : Prop := fnExactGearOkUptoRow.holds Try.pinned (OpenSpec.upto fnExactGearOkSpec)

/-- 'laws.FnExactTrainRatio', WHERE WHAT IT READS IS OF BULK AT MOST 1048576: true; the input reads as it did. -/
def fnExactTrainRatioUptoRow : OpenClaim := { program := "ytgkkapedhiipdaa", sum := "b5791c9935b762c2763691d5d2ce63a5f28ff56a7ffc9ddc29922b8d2fff9d93", func := "loop.example/g03309/laws.FnExactTrainRatio", spec := "fnExactTrainRatio", unfollowed := true, recurses := true, apart := false, narrowed := true }
def FnExactTrainRatioUptoSaid : Prop := fnExactTrainRatioUptoRow.holds Try.pinned (OpenSpec.upto fnExactTrainRatioSpec)

/-- 'laws.FnExactTurnsOf', WHERE WHAT IT READS IS OF BULK AT MOST 1048576: true; the input reads as it did. -/
def fnExactTurnsOfUptoRow : OpenClaim := { program := "ytgkkapedhiipdaa", sum := "b5791c9935b762c2763691d5d2ce63a5f28ff56a7ffc9ddc29922b8d2fff9d93", func := "loop.example/g03309/laws.FnExactTurnsOf", spec := "fnExactTurnsOf", unfollowed := true, recurses := true, apart := false, narrowed := true }
def FnExactTurnsOfUptoSaid : Prop := fnExactTurnsOfUptoRow.holds Try.pinned (OpenSpec.upto fnExactTurnsOfSpec)

/-- 'laws.FnExactLeastWhole', WHERE WHAT IT READS IS OF BULK AT MOST 1048576: true; the input reads as it did. -/
def fnExactLeastWholeUptoRow : OpenClaim := { program := "ytgkkapedhiipdaa", sum := "b5791c9935b762c2763691d5d2ce63a5f28ff56a7ffc9ddc29922b8d2fff9d93", func := "loop.example/g03309/laws.FnExactLeastWhole", spec := "fnExactLeastWhole", unfollowed := true, recurses := true, apart := false, narrowed := true }
def FnExactLeastWholeUptoSaid : Prop := fnExactLeastWholeUptoRow.holds Try.pinned (OpenSpec.upto fnExactLeastWholeSpec)

/-- 'laws.FnExactTurnTrain', WHERE WHAT IT READS IS OF BULK AT MOST 1048576: true; the input reads as it did. -/
def fnExactTurnTrainUptoRow : OpenClaim := { program := "ytgkkapedhiipdaa", sum := "b5791c9935b762c2763691d5d2ce63a5f28ff56a7ffc9ddc29922b8d2fff9d93", func := "loop.example/g03309/laws.FnExactTurnTrain", spec := "fnExactTurnTrain", unfollowed := true, recurses := true, apart := false, narrowed := true }
def FnExactTurnTrainUptoSaid : Prop := fnExactTurnTrainUptoRow.holds Try.pinned (OpenSpec.upto fnExactTurnTrainSpec)

/-- 'laws.FnExactGearsFor', WHERE WHAT IT READS IS OF BULK AT MOST 1048576: true; the input reads as it did. -/
def fnExactGearsForUptoRow : OpenClaim := { program := "ytgkkapedhiipdaa", sum := "b5791c9935b762c2763691d5d2ce63a5f28ff56a7ffc9ddc29922b8d2fff9d93", func := "loop.example/g03309/laws.FnExactGearsFor", spec := "fnExactGearsFor", apart := false, narrowed := true }
def FnExactGearsForUptoSaid : Prop := fnExactGearsForUptoRow.holds Try.pinned (OpenSpec.upto fnExactGearsForSpec)

end Rows
end Go.Proofs.Ytgkkapedhiipdaa
