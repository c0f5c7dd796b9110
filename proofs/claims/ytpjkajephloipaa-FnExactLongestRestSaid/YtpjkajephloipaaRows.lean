/-
  No cell of these rows narrows 'for every input' (looked for: loops, veiled, ifaces, maps, wideKeys, modest, calm, conditions, laid).
  DERIVED. THE GIVEN ROWS OF THIS SEAT. 10 by the template 'for every input the law returns true; each argument reads behind the call as it read before'; 0 by the template 'total and deterministic' (their statements: YtpjkajephloipaaTotals.lean).
  GIVEN WITH THE SEED: the statements are not yours to turn. If you find one false, say at which input.
  Laid BY PROGRAM, IN A SANDBOX (cutbox-rows.mjs): the forced cells as the released guide's own fill.sh prints them over the translation fba8025529261445… (all of the seat's roots in one cut). By AI agents, Wed Nov 11 2026. No macro, syntax, notation, axiom, sorry.
-/
import Derived.Test.YtpjkajephloipaaChecked
import GoSem.Claim
import GoSem.ClaimJoined
import GoSem.ClaimMapViews
import Derived.JoinedTies
import Derived.KernelRfl
namespace Go.Proofs.Ytpjkajephloipaa
/- THE CELL 'sum', in the pinned program and in every row, IS THE sha256 OF THE DUMP (.gsa) THAT YtpjkajephloipaaProg.lean LOADS. Nothing in Lean hashes anything: it is a label: what it is worth is what the hold of that sum in a sandbox is worth. -/
noncomputable def Try.pinned : Pinned := { name := "ytpjkajephloipaa", sum := "fba8025529261445aa66c35012ed80a9742cc58a15d3c8e7f05afa9ec5752f3c", checked := Try.checked }
namespace Rows
def none {H : Type} : Left H := { results := [], args := [] }

/-- 'laws.FnTeeth': WHATEVER THE INPUT: true; the input reads as it did. -/
def fnTeethSpec : ChangeSpec := { name := "fnTeeth", fn := fun _ => fun
  | [d] => { results := [.lit (.bool true)], args := [d] }
  | _ => none }
def fnTeethRow : OpenClaim := { program := "ytpjkajephloipaa", sum := "fba8025529261445aa66c35012ed80a9742cc58a15d3c8e7f05afa9ec5752f3c", func := "loop.example/g03309/laws.FnTeeth", spec := "fnTeeth", unfollowed := true, recurses := true, apart := false }
def FnTeethSaid : Prop := fnTeethRow.holds Try.pinned (OpenSpec.ofChange fnTeethSpec)

/-- ITS FALSE NEIGHBOUR: 'it returns false'. Refute it at one input. -/
def fnTeethWrong : ChangeSpec := { name := "fnTeeth", fn := fun _ => fun
  | [d] => { results := [.lit (.bool false)], args := [d] }
  | _ => none }
def FnTeethWrongFalsely : Prop := fnTeethRow.holds Try.pinned (OpenSpec.ofChange fnTeethWrong)

/-- 'laws.FnExactTeethNeeded': WHATEVER THE INPUT: true; the input reads as it did. -/
def fnExactTeethNeededSpec : ChangeSpec := { name := "fnExactTeethNeeded", fn := fun _ => fun
  | [d1, d2] => { results := [.lit (.bool true)], args := [d1, d2] }
  | _ => none }
def fnExactTeethNeededRow : OpenClaim := { program := "ytpjkajephloipaa", sum := "fba8025529261445aa66c35012ed80a9742cc58a15d3c8e7f05afa9ec5752f3c", func := "loop.example/g03309/laws.FnExactTeethNeeded", spec := "fnExactTeethNeeded", apart := false }
def FnExactTeethNeededSaid : Prop := fnExactTeethNeededRow.holds Try.pinned (OpenSpec.ofChange fnExactTeethNeededSpec)

/-- ITS FALSE NEIGHBOUR: 'it returns false'. Refute it at one input. -/
def fnExactTeethNeededWrong : ChangeSpec := { name := "fnExactTeethNeeded", fn := fun _ => fun
  | [d1, d2] => { results := [.lit (.bool false)], args := [d1, d2] }
  | _ => none }
def FnExactTeethNeededWrongFalsely : Prop := fnExactTeethNeededRow.holds Try.pinned (OpenSpec.ofChange fnExactTeethNeededWrong)

/-- 'laws.FnExactAssignTeeth': WHATEVER THE INPUT: true; the input reads as it did. -/
def fnExactAssignTeethSpec : ChangeSpec := { name := "fnExactAssignTeeth", fn := fun _ => fun
  | [d1, d2, d3] => { results := [.lit (.bool true)], args := [d1, d2, d3] }
  | _ => none }
def fnExactAssignTeethRow : OpenClaim := { program := "ytpjkajephloipaa", sum := "fba8025529261445aa66c35012ed80a9742cc58a15d3c8e7f05afa9ec5752f3c", func := "loop.example/g03309/laws.FnExactAssignTeeth", spec := "fnExactAssignTeeth", unfollowed := true, recurses := true, apart := false }
def FnExactAssignTeethSaid : Prop := fnExactAssignTeethRow.holds Try.pinned (OpenSpec.ofChange fnExactAssignTeethSpec)

/-- ITS FALSE NEIGHBOUR: 'it returns false'. Refute it at one input. -/
def fnExactAssignTeethWrong : ChangeSpec := { name := "fnExactAssignTeeth", fn := fun _ => fun
  | [d1, d2, d3] => { results := [.lit (.bool false)], args := [d1, d2, d3] }
  | _ => none }
def FnExactAssignTeethWrongFalsely : Prop := fnExactAssignTeethRow.holds Try.pinned (OpenSpec.ofChange fnExactAssignTeethWrong)

/-- 'laws.FnExactIsAssigned': WHATEVER THE INPUT: true; the input reads as it did. -/
def fnExactIsAssignedSpec : ChangeSpec := { name := "fnExactIsAssigned", fn := fun _ => fun
  | [d1, d2, d3, d4] => { results := [.lit (.bool true)], args := [d1, d2, d3, d4] }
  | _ => none }
def fnExactIsAssignedRow : OpenClaim := { program := "ytpjkajephloipaa", sum := "fba8025529261445aa66c35012ed80a9742cc58a15d3c8e7f05afa9ec5752f3c", func := "loop.example/g03309/laws.FnExactIsAssigned", spec := "fnExactIsAssigned", apart := false }
def FnExactIsAssignedSaid : Prop := fnExactIsAssignedRow.holds Try.pinned (OpenSpec.ofChange fnExactIsAssignedSpec)

/-- ITS FALSE NEIGHBOUR: 'it returns false'. Refute it at one input. -/
def fnExactIsAssignedWrong : ChangeSpec := { name := "fnExactIsAssigned", fn := fun _ => fun
  | [d1, d2, d3, d4] => { results := [.lit (.bool false)], args := [d1, d2, d3, d4] }
  | _ => none }
def FnExactIsAssignedWrongFalsely : Prop := fnExactIsAssignedRow.holds Try.pinned (OpenSpec.ofChange fnExactIsAssignedWrong)

/-- 'laws.FnExactLeastComb': WHATEVER THE INPUT: true; the input reads as it did. -/
def fnExactLeastCombSpec : ChangeSpec := { name := "fnExactLeastComb", fn := fun _ => fun
  | [d1, d2] => { results := [.lit (.bool true)], args := [d1, d2] }
  | _ => none }
def fnExactLeastCombRow : OpenClaim := { program := "ytpjkajephloipaa", sum := "fba8025529261445aa66c35012ed80a9742cc58a15d3c8e7f05afa9ec5752f3c", func := "loop.example/g03309/laws.FnExactLeastComb", spec := "fnExactLeastComb", apart := false }
def FnExactLeastCombSaid : Prop := fnExactLeastCombRow.holds Try.pinned (OpenSpec.ofChange fnExactLeastCombSpec)

/-- ITS FALSE NEIGHBOUR: 'it returns false'. Refute it at one input. -/
def fnExactLeastCombWrong : ChangeSpec := { name := "fnExactLeastComb", fn := fun _ => fun
  | [d1, d2] => { results := [.lit (.bool false)], args := [d1, d2] }
  | _ => none }
def FnExactLeastCombWrongFalsely : Prop := fnExactLeastCombRow.holds Try.pinned (OpenSpec.ofChange fnExactLeastCombWrong)

/-- 'laws.FnExactLongestRest': WHATEVER THE INPUT: true; the input reads as it did. -/
def fnExactLongestRestSpec : ChangeSpec := { name := "fnExactLongestRest", fn := fun _ => fun
  | [d1, d2] => { results := [.lit (.bool true)], args := [d1, d2] }
  | _ => none }
def fnExactLongestRestRow : OpenClaim := { program := "ytpjkajephloipaa", sum := "fba8025529261445aa66c35012ed80a9742cc58a15d3c8e7f05afa9ec5752f3c", func := "loop.example/g03309/laws.FnExactLongestRest", spec := "fnExactLongestRest", unfollowed := true, recurses := true, apart := false }
def FnExactLongestRestSaid : Prop := fnExactLongestRestRow.holds Try.pinned (OpenSpec.ofChange fnExactLongestRestSpec)

/-- ITS FALSE NEIGHBOUR: 'it returns false'. Refute it at one input. -/
def fnExactLongestRestWrong : ChangeSpec := { name := "fnExactLongestRest", fn := fun _ => fun
  | [d1, d2] => { results := [.lit (.bool false)], args := [d1, d2] }
  | _ => none }
def FnExactLongestRestWrongFalsely : Prop := fnExactLongestRestRow.holds Try.pinned (OpenSpec.ofChange fnExactLongestRestWrong)

/-- 'laws.FnSpeeds': WHATEVER THE INPUT: true; the input reads as it did. -/
def fnSpeedsSpec : ChangeSpec := { name := "fnSpeeds", fn := fun _ => fun
  | [d] => { results := [.lit (.bool true)], args := [d] }
  | _ => none }
def fnSpeedsRow : OpenClaim := { program := "ytpjkajephloipaa", sum := "fba8025529261445aa66c35012ed80a9742cc58a15d3c8e7f05afa9ec5752f3c", func := "loop.example/g03309/laws.FnSpeeds", spec := "fnSpeeds", unfollowed := true, recurses := true, apart := false }
def FnSpeedsSaid : Prop := fnSpeedsRow.holds Try.pinned (OpenSpec.ofChange fnSpeedsSpec)

/-- ITS FALSE NEIGHBOUR: 'it returns false'. Refute it at one input. -/
def fnSpeedsWrong : ChangeSpec := { name := "fnSpeeds", fn := fun _ => fun
  | [d] => { results := [.lit (.bool false)], args := [d] }
  | _ => none }
def FnSpeedsWrongFalsely : Prop := fnSpeedsRow.holds Try.pinned (OpenSpec.ofChange fnSpeedsWrong)

/-- 'laws.FnExactBeatsOf': WHATEVER THE INPUT: true; the input reads as it did. -/
def fnExactBeatsOfSpec : ChangeSpec := { name := "fnExactBeatsOf", fn := fun _ => fun
  | [d] => { results := [.lit (.bool true)], args := [d] }
  | _ => none }
def fnExactBeatsOfRow : OpenClaim := { program := "ytpjkajephloipaa", sum := "fba8025529261445aa66c35012ed80a9742cc58a15d3c8e7f05afa9ec5752f3c", func := "loop.example/g03309/laws.FnExactBeatsOf", spec := "fnExactBeatsOf", apart := false }
def FnExactBeatsOfSaid : Prop := fnExactBeatsOfRow.holds Try.pinned (OpenSpec.ofChange fnExactBeatsOfSpec)

/-- ITS FALSE NEIGHBOUR: 'it returns false'. Refute it at one input. -/
def fnExactBeatsOfWrong : ChangeSpec := { name := "fnExactBeatsOf", fn := fun _ => fun
  | [d] => { results := [.lit (.bool false)], args := [d] }
  | _ => none }
def FnExactBeatsOfWrongFalsely : Prop := fnExactBeatsOfRow.holds Try.pinned (OpenSpec.ofChange fnExactBeatsOfWrong)

/-- 'laws.FnExactShortened': WHATEVER THE INPUT: true; the input reads as it did. -/
def fnExactShortenedSpec : ChangeSpec := { name := "fnExactShortened", fn := fun _ => fun
  | [d] => { results := [.lit (.bool true)], args := [d] }
  | _ => none }
def fnExactShortenedRow : OpenClaim := { program := "ytpjkajephloipaa", sum := "fba8025529261445aa66c35012ed80a9742cc58a15d3c8e7f05afa9ec5752f3c", func := "loop.example/g03309/laws.FnExactShortened", spec := "fnExactShortened", unfollowed := true, recurses := true, apart := false }
def FnExactShortenedSaid : Prop := fnExactShortenedRow.holds Try.pinned (OpenSpec.ofChange fnExactShortenedSpec)

/-- ITS FALSE NEIGHBOUR: 'it returns false'. Refute it at one input. -/
def fnExactShortenedWrong : ChangeSpec := { name := "fnExactShortened", fn := fun _ => fun
  | [d] => { results := [.lit (.bool false)], args := [d] }
  | _ => none }
def FnExactShortenedWrongFalsely : Prop := fnExactShortenedRow.holds Try.pinned (OpenSpec.ofChange fnExactShortenedWrong)

/-- 'laws.FnExactFitsTurn': WHATEVER THE INPUT: true; the input reads as it did. -/
def fnExactFitsTurnSpec : ChangeSpec := { name := "fnExactFitsTurn", fn := fun _ => fun
  | [d1, d2] => { results := [.lit (.bool true)], args := [d1, d2] }
  | _ => none }
def fnExactFitsTurnRow : OpenClaim := { program := "ytpjkajephloipaa", sum := "fba8025529261445aa66c35012ed80a9742cc58a15d3c8e7f05afa9ec5752f3c", func := "loop.example/g03309/laws.FnExactFitsTurn", spec := "fnExactFitsTurn", unfollowed := true, recurses := true, apart := false }
def FnExactFitsTurnSaid : Prop := fnExactFitsTurnRow.holds Try.pinned (OpenSpec.ofChange fnExactFitsTurnSpec)

/-- ITS FALSE NEIGHBOUR: 'it returns false'. Refute it at one input. -/
def fnExactFitsTurnWrong : ChangeSpec := { name := "fnExactFitsTurn", fn := fun _ => fun
  | [d1, d2] => { results := [.lit (.bool false)], args := [d1, d2] }
  | _ => none }
def FnExactFitsTurnWrongFalsely : Prop := fnExactFitsTurnRow.holds Try.pinned (OpenSpec.ofChange fnExactFitsTurnWrong)

/- THE SECOND FORM. 'bulk': how many values and letters a reading holds, each counted each time it is reached (what is shared counts as often as it is met; a slice's spare places count too). A statement '..UptoSaid' is the law's where the arguments, and the package variables that the reading takes, are together of bulk at most 1048576: NARROWER than '..Said'. Prove '..Said' where nothing that the law and all that it calls make is longer than what came in: it says more and counts as full. Else prove '..UptoSaid'. A law counts once. -/
mutual
def uptoBulk {H : Type} : DataW H → Nat
  | .lit (.string bytes) => bytes.length + 1
  | .lit _ => 1
  | .nil => 1
  | .ptr d => uptoBulk d + 1
  | .slice elems spare => uptoBulkAll elems + uptoBulkAll spare + 1
  | .agg parts => uptoBulkAll parts + 1
  | .iface _ d => uptoBulk d + 1
  | .map entries => uptoBulkEntries entries + 1
  | .held _ => 1
def uptoBulkAll {H : Type} : List (DataW H) → Nat
  | [] => 0
  | d :: r => uptoBulk d + uptoBulkAll r
def uptoBulkEntries {H : Type} : List (Lit × DataW H) → Nat
  | [] => 0
  | x :: r => uptoBulkEntry x + uptoBulkEntries r
def uptoBulkEntry {H : Type} : Lit × DataW H → Nat
  | (.string bytes, d) => bytes.length + uptoBulk d + 1
  | (_, d) => uptoBulk d + 1
 end
def uptoSmall : (H : Type) → List (DataW H) → Bool := fun _ ds => decide (uptoBulkAll ds ≤ 1048576)
def OpenSpec.upto (s : _root_.Go.ChangeSpec) : _root_.Go.OpenSpec := { _root_.Go.OpenSpec.ofChange s with cond := some uptoSmall }

/-- 'laws.FnTeeth', WHERE WHAT IT READS IS OF BULK AT MOST 1048576: true; the input reads as it did. -/
def fnTeethUptoRow : OpenClaim := { program := "ytpjkajephloipaa", sum := "fba8025529261445aa66c35012ed80a9742cc58a15d3c8e7f05afa9ec5752f3c", func := "loop.example/g03309/laws.FnTeeth", spec := "fnTeeth", unfollowed := true, recurses := true, apart := false, narrowed := true }
def FnTeethUptoSaid : Prop := fnTeethUptoRow.holds Try.pinned (OpenSpec.upto fnTeethSpec)

/-- 'laws.FnExactTeethNeeded', WHERE WHAT IT READS IS OF BULK AT MOST 1048576: true; the input reads as it did. -/
def fnExactTeethNeededUptoRow : OpenClaim := { program := "ytpjkajephloipaa", sum := "fba8025529261445aa66c35012ed80a9742cc58a15d3c8e7f05afa9ec5752f3c", func := "loop.example/g03309/laws.FnExactTeethNeeded", spec := "fnExactTeethNeeded", apart := false, narrowed := true }
def FnExactTeethNeededUptoSaid : Prop := fnExactTeethNeededUptoRow.holds Try.pinned (OpenSpec.upto fnExactTeethNeededSpec)

/-- 'laws.FnExactAssignTeeth', WHERE WHAT IT READS IS OF BULK AT MOST 1048576: true; the input reads as it did. -/
def fnExactAssignTeethUptoRow : OpenClaim := { program := "ytpjkajephloipaa", sum := "fba8025529261445aa66c35012ed80a9742cc58a15d3c8e7f05afa9ec5752f3c", func := "loop.example/g03309/laws.FnExactAssignTeeth", spec := "fnExactAssignTeeth", unfollowed := true, recurses := true, apart := false, narrowed := true }
def FnExactAssignTeethUptoSaid : Prop := fnExactAssignTeethUptoRow.holds Try.pinned (OpenSpec.upto fnExactAssignTeethSpec)

/-- 'laws.FnExactIsAssigned', WHERE WHAT IT READS IS OF BULK AT MOST 1048576: true; the input reads as it did. -/
def fnExactIsAssignedUptoRow : OpenClaim := { program := "ytpjkajephloipaa", sum := "fba8025529261445aa66c35012ed80a9742cc58a15d3c8e7f05afa9ec5752f3c", func := "loop.example/g03309/laws.FnExactIsAssigned", spec := "fnExactIsAssigned", apart := false, narrowed := true }
def FnExactIsAssignedUptoSaid : Prop := fnExactIsAssignedUptoRow.holds Try.pinned (OpenSpec.upto fnExactIsAssignedSpec)

/-- 'laws.FnExactLeastComb', WHERE WHAT IT READS IS OF BULK AT MOST 1048576: true; the input reads as it did. -/
def fnExactLeastCombUptoRow : OpenClaim := { program := "ytpjkajephloipaa", sum := "fba8025529261445aa66c35012ed80a9742cc58a15d3c8e7f05afa9ec5752f3c", func := "loop.example/g03309/laws.FnExactLeastComb", spec := "fnExactLeastComb", apart := false, narrowed := true }
def FnExactLeastCombUptoSaid : Prop := fnExactLeastCombUptoRow.holds Try.pinned (OpenSpec.upto fnExactLeastCombSpec)

/-- 'laws.FnExactLongestRest', WHERE WHAT IT READS IS OF BULK AT MOST 1048576: true; the input reads as it did. -/
def fnExactLongestRestUptoRow : OpenClaim := { program := "ytpjkajephloipaa", sum := "fba8025529261445aa66c35012ed80a9742cc58a15d3c8e7f05afa9ec5752f3c", func := "loop.example/g03309/laws.FnExactLongestRest", spec := "fnExactLongestRest", unfollowed := true, recurses := true, apart := false, narrowed := true }
def FnExactLongestRestUptoSaid : Prop := fnExactLongestRestUptoRow.holds Try.pinned (OpenSpec.upto fnExactLongestRestSpec)

/-- 'laws.FnSpeeds', WHERE WHAT IT READS IS OF BULK AT MOST 1048576: true; the input reads as it did. -/
def fnSpeedsUptoRow : OpenClaim := { program := "ytpjkajephloipaa", sum := "fba8025529261445aa66c35012ed80a9742cc58a15d3c8e7f05afa9ec5752f3c", func := "loop.example/g03309/laws.FnSpeeds", spec := "fnSpeeds", unfollowed := true, recurses := true, apart := false, narrowed := true }
def FnSpeedsUptoSaid : Prop := fnSpeedsUptoRow.holds Try.pinned (OpenSpec.upto fnSpeedsSpec)

/-- 'laws.FnExactBeatsOf', WHERE WHAT IT READS IS OF BULK AT MOST 1048576: true; the input reads as it did. -/
def fnExactBeatsOfUptoRow : OpenClaim := { program := "ytpjkajephloipaa", sum := "fba8025529261445aa66c35012ed80a9742cc58a15d3c8e7f05afa9ec5752f3c", func := "loop.example/g03309/laws.FnExactBeatsOf", spec := "fnExactBeatsOf", apart := false, narrowed := true }
def FnExactBeatsOfUptoSaid : Prop := fnExactBeatsOfUptoRow.holds Try.pinned (OpenSpec.upto fnExactBeatsOfSpec)

/-- 'laws.FnExactShortened', WHERE WHAT IT READS IS OF BULK AT MOST 1048576: true; the input reads as it did. -/
def fnExactShortenedUptoRow : OpenClaim := { program := "ytpjkajephloipaa", sum := "fba8025529261445aa66c35012ed80a9742cc58a15d3c8e7f05afa9ec5752f3c", func := "loop.example/g03309/laws.FnExactShortened", spec := "fnExactShortened", unfollowed := true, recurses := true, apart := false, narrowed := true }
def FnExactShortenedUptoSaid : Prop := fnExactShortenedUptoRow.holds Try.pinned (OpenSpec.upto fnExactShortenedSpec)

/-- 'laws.FnExactFitsTurn', WHERE WHAT IT READS IS OF BULK AT MOST 1048576: true; the input reads as it did. -/
def fnExactFitsTurnUptoRow : OpenClaim := { program := "ytpjkajephloipaa", sum := "fba8025529261445aa66c35012ed80a9742cc58a15d3c8e7f05afa9ec5752f3c", func := "loop.example/g03309/laws.FnExactFitsTurn", spec := "fnExactFitsTurn", unfollowed := true, recurses := true, apart := false, narrowed := true }
def FnExactFitsTurnUptoSaid : Prop := fnExactFitsTurnUptoRow.holds Try.pinned (OpenSpec.upto fnExactFitsTurnSpec)

end Rows
end Go.Proofs.Ytpjkajephloipaa
