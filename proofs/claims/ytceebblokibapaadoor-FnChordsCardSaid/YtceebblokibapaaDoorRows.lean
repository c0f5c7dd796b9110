/-
  NARROWER THAN 'FOR EVERY INPUT', by the rows' own cells (each row's printed sentence says how): FnChords: laid · FnExactIsSweet: laid · FnExactIsChord: laid · FnExactHarshPairs: laid · FnExactSweetFor: laid.
  DERIVED. THE GIVEN ROWS OF THIS SEAT. 5 by the template 'for every input the law returns true; each argument reads behind the call as it read before'; 0 by the template 'total and deterministic' (their statements: YtceebblokibapaaDoorTotals.lean).
  GIVEN WITH THE SEED: the statements are not yours to turn. If you find one false, say at which input.
  Laid BY PROGRAM, IN A SANDBOX (cutbox-rows.mjs): the forced cells as the released guide's own fill.sh prints them over the translation 9f153497c5448bed… (all of the seat's roots in one cut). By AI agents, Wed Nov 11 2026. No macro, syntax, notation, axiom, sorry.
-/
import Derived.Test.YtceebblokibapaaDoorChecked
import GoSem.Claim
import GoSem.ClaimJoined
import GoSem.ClaimMapViews
import Derived.JoinedTies
import Derived.KernelRfl
namespace Go.Proofs.YtceebblokibapaaDoor
/- THE CELL 'sum', in the pinned program and in every row, IS THE sha256 OF THE DUMP (.gsa) THAT YtceebblokibapaaDoorProg.lean LOADS. Nothing in Lean hashes anything: it is a label: what it is worth is what the hold of that sum in a sandbox is worth. -/
noncomputable def Tryd.pinned : Pinned := { name := "ytceebblokibapaadoor", sum := "9f153497c5448bed5187aea5b996705defff0b5dfa965b5168cf1dce3ec4651d", checked := Tryd.checked }
namespace Rows
def none {H : Type} : Left H := { results := [], args := [] }

/- WHAT THE LISTED PACKAGE-LEVEL VARIABLES READ AS WHEN THE CALL BEGINS. Each datum BY PROGRAM (the guide's laid-datum.mjs) off the statement by which the dump's own 'gosem.cut.vars' lays the variable. In a bare row this is a premise. The card (YtceebblokibapaaDoorCards.lean) ties it to the program's text. -/
def laid_loop_example_g03309_impl_sweetSteps {H : Type} : DataW H := .agg [.lit (.bool true), .lit (.bool false), .lit (.bool false), .lit (.bool true), .lit (.bool true), .lit (.bool true), .lit (.bool false)]

/-- 'laws.FnChords': WHATEVER THE INPUT: true; the input reads as it did. -/
def fnChordsSpec : ChangeSpec := { name := "fnChords", vars := ["loop.example/g03309/impl.sweetSteps"], fn := fun _ => fun
  | [d, g1] => { results := [.lit (.bool true)], args := [d], vars := [g1] }
  | _ => none }
def fnChordsRow : OpenClaim := { program := "ytceebblokibapaadoor", sum := "9f153497c5448bed5187aea5b996705defff0b5dfa965b5168cf1dce3ec4651d", func := "loop.example/g03309/laws.FnChords", spec := "fnChords", named := ["loop.example/g03309/impl.sweetSteps"], apart := false, laid := [("loop.example/g03309/impl.sweetSteps", laid_loop_example_g03309_impl_sweetSteps)] }
def FnChordsSaid : Prop := fnChordsRow.holds Tryd.pinned (OpenSpec.ofChange fnChordsSpec)

/-- ITS FALSE NEIGHBOUR: 'it returns false'. Refute it at one input. -/
def fnChordsWrong : ChangeSpec := { name := "fnChords", vars := ["loop.example/g03309/impl.sweetSteps"], fn := fun _ => fun
  | [d, g1] => { results := [.lit (.bool false)], args := [d], vars := [g1] }
  | _ => none }
def FnChordsWrongFalsely : Prop := fnChordsRow.holds Tryd.pinned (OpenSpec.ofChange fnChordsWrong)

/-- 'laws.FnExactIsSweet': WHATEVER THE INPUT: true; the input reads as it did. -/
def fnExactIsSweetSpec : ChangeSpec := { name := "fnExactIsSweet", vars := ["loop.example/g03309/impl.sweetSteps"], fn := fun _ => fun
  | [d1, d2, g1] => { results := [.lit (.bool true)], args := [d1, d2], vars := [g1] }
  | _ => none }
def fnExactIsSweetRow : OpenClaim := { program := "ytceebblokibapaadoor", sum := "9f153497c5448bed5187aea5b996705defff0b5dfa965b5168cf1dce3ec4651d", func := "loop.example/g03309/laws.FnExactIsSweet", spec := "fnExactIsSweet", named := ["loop.example/g03309/impl.sweetSteps"], apart := false, laid := [("loop.example/g03309/impl.sweetSteps", laid_loop_example_g03309_impl_sweetSteps)] }
def FnExactIsSweetSaid : Prop := fnExactIsSweetRow.holds Tryd.pinned (OpenSpec.ofChange fnExactIsSweetSpec)

/-- ITS FALSE NEIGHBOUR: 'it returns false'. Refute it at one input. -/
def fnExactIsSweetWrong : ChangeSpec := { name := "fnExactIsSweet", vars := ["loop.example/g03309/impl.sweetSteps"], fn := fun _ => fun
  | [d1, d2, g1] => { results := [.lit (.bool false)], args := [d1, d2], vars := [g1] }
  | _ => none }
def FnExactIsSweetWrongFalsely : Prop := fnExactIsSweetRow.holds Tryd.pinned (OpenSpec.ofChange fnExactIsSweetWrong)

/-- 'laws.FnExactIsChord': WHATEVER THE INPUT: true; the input reads as it did. -/
def fnExactIsChordSpec : ChangeSpec := { name := "fnExactIsChord", vars := ["loop.example/g03309/impl.sweetSteps"], fn := fun _ => fun
  | [d, g1] => { results := [.lit (.bool true)], args := [d], vars := [g1] }
  | _ => none }
def fnExactIsChordRow : OpenClaim := { program := "ytceebblokibapaadoor", sum := "9f153497c5448bed5187aea5b996705defff0b5dfa965b5168cf1dce3ec4651d", func := "loop.example/g03309/laws.FnExactIsChord", spec := "fnExactIsChord", named := ["loop.example/g03309/impl.sweetSteps"], apart := false, laid := [("loop.example/g03309/impl.sweetSteps", laid_loop_example_g03309_impl_sweetSteps)] }
def FnExactIsChordSaid : Prop := fnExactIsChordRow.holds Tryd.pinned (OpenSpec.ofChange fnExactIsChordSpec)

/-- ITS FALSE NEIGHBOUR: 'it returns false'. Refute it at one input. -/
def fnExactIsChordWrong : ChangeSpec := { name := "fnExactIsChord", vars := ["loop.example/g03309/impl.sweetSteps"], fn := fun _ => fun
  | [d, g1] => { results := [.lit (.bool false)], args := [d], vars := [g1] }
  | _ => none }
def FnExactIsChordWrongFalsely : Prop := fnExactIsChordRow.holds Tryd.pinned (OpenSpec.ofChange fnExactIsChordWrong)

/-- 'laws.FnExactHarshPairs': WHATEVER THE INPUT: true; the input reads as it did. -/
def fnExactHarshPairsSpec : ChangeSpec := { name := "fnExactHarshPairs", vars := ["loop.example/g03309/impl.sweetSteps"], fn := fun _ => fun
  | [d, g1] => { results := [.lit (.bool true)], args := [d], vars := [g1] }
  | _ => none }
def fnExactHarshPairsRow : OpenClaim := { program := "ytceebblokibapaadoor", sum := "9f153497c5448bed5187aea5b996705defff0b5dfa965b5168cf1dce3ec4651d", func := "loop.example/g03309/laws.FnExactHarshPairs", spec := "fnExactHarshPairs", named := ["loop.example/g03309/impl.sweetSteps"], apart := false, laid := [("loop.example/g03309/impl.sweetSteps", laid_loop_example_g03309_impl_sweetSteps)] }
def FnExactHarshPairsSaid : Prop := fnExactHarshPairsRow.holds Tryd.pinned (OpenSpec.ofChange fnExactHarshPairsSpec)

/-- ITS FALSE NEIGHBOUR: 'it returns false'. Refute it at one input. -/
def fnExactHarshPairsWrong : ChangeSpec := { name := "fnExactHarshPairs", vars := ["loop.example/g03309/impl.sweetSteps"], fn := fun _ => fun
  | [d, g1] => { results := [.lit (.bool false)], args := [d], vars := [g1] }
  | _ => none }
def FnExactHarshPairsWrongFalsely : Prop := fnExactHarshPairsRow.holds Tryd.pinned (OpenSpec.ofChange fnExactHarshPairsWrong)

/-- 'laws.FnExactSweetFor': WHATEVER THE INPUT: true; the input reads as it did. -/
def fnExactSweetForSpec : ChangeSpec := { name := "fnExactSweetFor", vars := ["loop.example/g03309/impl.sweetSteps"], fn := fun _ => fun
  | [d1, d2, d3, g1] => { results := [.lit (.bool true)], args := [d1, d2, d3], vars := [g1] }
  | _ => none }
def fnExactSweetForRow : OpenClaim := { program := "ytceebblokibapaadoor", sum := "9f153497c5448bed5187aea5b996705defff0b5dfa965b5168cf1dce3ec4651d", func := "loop.example/g03309/laws.FnExactSweetFor", spec := "fnExactSweetFor", named := ["loop.example/g03309/impl.sweetSteps"], apart := false, laid := [("loop.example/g03309/impl.sweetSteps", laid_loop_example_g03309_impl_sweetSteps)] }
def FnExactSweetForSaid : Prop := fnExactSweetForRow.holds Tryd.pinned (OpenSpec.ofChange fnExactSweetForSpec)

/-- ITS FALSE NEIGHBOUR: 'it returns false'. Refute it at one input. -/
def fnExactSweetForWrong : ChangeSpec := { name := "fnExactSweetFor", vars := ["loop.example/g03309/impl.sweetSteps"], fn := fun _ => fun
  | [d1, d2, d3, g1] => { results := [.lit (.bool false)], args := [d1, d2, d3], vars := [g1] }
  | _ => none }
def FnExactSweetForWrongFalsely : Prop := fnExactSweetForRow.holds Tryd.pinned (OpenSpec.ofChange fnExactSweetForWrong)

/- THE SECOND FORM. 'bulk': how many values and letters a reading holds, each counted each time it is reached (what is shared counts as often as it is met; a slice's spare places count too). A statement '..UptoSaid' is the law's where the arguments, and the package variables that the reading takes, are together of bulk at most 1048576: NARROWER than '..Said'. Prove '..Said' where nothing that the law and all that it calls make is longer than what came in: it says more and counts as full. Else prove '..UptoSaid'. A law counts once. -/
mutual
def uptoBulk {H : Type} : DataW H → Nat
  | .lit (.string bytes) => bytes.length + 1
  | .lit _ => 1
  | .nil => 1
  | .ptr d => uptoBulk d + 1
  | .slice elems spare => uptoBulkAll elems + uptoBulkAll spare + 1
  | .agg parts => uptoBulkAll parts + 1
  | .iface _ d => uptoBulk d + 1
  | .map entries => uptoBulkEntries entries + 1
  | .held _ => 1
def uptoBulkAll {H : Type} : List (DataW H) → Nat
  | [] => 0
  | d :: r => uptoBulk d + uptoBulkAll r
def uptoBulkEntries {H : Type} : List (Lit × DataW H) → Nat
  | [] => 0
  | x :: r => uptoBulkEntry x + uptoBulkEntries r
def uptoBulkEntry {H : Type} : Lit × DataW H → Nat
  | (.string bytes, d) => bytes.length + uptoBulk d + 1
  | (_, d) => uptoBulk d + 1
 end
def uptoSmall : (H : Type) → List (DataW H) → Bool := fun _ ds => decide (uptoBulkAll ds ≤ 1048576)
def OpenSpec.upto (s : _root_.Go.ChangeSpec) : _root_.Go.OpenSpec := { _root_.Go.OpenSpec.ofChange s with cond := some uptoSmall }

/-- 'laws.FnChords', WHERE WHAT IT READS IS OF BULK AT MOST 1048576: true; the input reads as it did. -/
def fnChordsUptoRow : OpenClaim := { program := "ytceebblokibapaadoor", sum := "9f153497c5448bed5187aea5b996705defff0b5dfa965b5168cf1dce3ec4651d", func := "loop.example/g03309/laws.FnChords", spec := "fnChords", named := ["loop.example/g03309/impl.sweetSteps"], apart := false, laid := [("loop.example/g03309/impl.sweetSteps", laid_loop_example_g03309_impl_sweetSteps)], narrowed := true }
def FnChordsUptoSaid : Prop := fnChordsUptoRow.holds Tryd.pinned (OpenSpec.upto fnChordsSpec)

/-- 'laws.FnExactIsSweet', WHERE WHAT IT READS IS OF BULK AT MOST 1048576: true; the input reads as it did. -/
def fnExactIsSweetUptoRow : OpenClaim := { program := "ytceebblokibapaadoor", sum := "9f153497c5448bed5187aea5b996705defff0b5dfa965b5168cf1dce3ec4651d", func := "loop.example/g03309/laws.FnExactIsSweet", spec := "fnExactIsSweet", named := ["loop.example/g03309/impl.sweetSteps"], apart := false, laid := [("loop.example/g03309/impl.sweetSteps", laid_loop_example_g03309_impl_sweetSteps)], narrowed := true }
def FnExactIsSweetUptoSaid : Prop := fnExactIsSweetUptoRow.holds Tryd.pinned (OpenSpec.upto fnExactIsSweetSpec)

/-- 'laws.FnExactIsChord', WHERE WHAT IT READS IS OF BULK AT MOST 1048576: true; the input reads as it did. -/
def fnExactIsChordUptoRow : OpenClaim := { program := "ytceebblokibapaadoor", sum := "9f153497c5448bed5187aea5b996705defff0b5dfa965b5168cf1dce3ec4651d", func := "loop.example/g03309/laws.FnExactIsChord", spec := "fnExactIsChord", named := ["loop.example/g03309/impl.sweetSteps"], apart := false, laid := [("loop.example/g03309/impl.sweetSteps", laid_loop_example_g03309_impl_sweetSteps)], narrowed := true }
def FnExactIsChordUptoSaid : Prop := fnExactIsChordUptoRow.holds Tryd.pinned (OpenSpec.upto fnExactIsChordSpec)

/-- 'laws.FnExactHarshPairs', WHERE WHAT IT READS IS OF BULK AT MOST 1048576: true; the input reads as it did. -/
def fnExactHarshPairsUptoRow : OpenClaim := { program := "ytceebblokibapaadoor", sum := "9f153497c5448bed5187aea5b996705defff0b5dfa965b5168cf1dce3ec4651d", func := "loop.example/g03309/laws.FnExactHarshPairs", spec := "fnExactHarshPairs", named := ["loop.example/g03309/impl.sweetSteps"], apart := false, laid := [("loop.example/g03309/impl.sweetSteps", laid_loop_example_g03309_impl_sweetSteps)], narrowed := true }
def FnExactHarshPairsUptoSaid : Prop := fnExactHarshPairsUptoRow.holds Tryd.pinned (OpenSpec.upto fnExactHarshPairsSpec)

/-- 'laws.FnExactSweetFor', WHERE WHAT IT READS IS OF BULK AT MOST 1048576: true; the input reads as it did. -/
def fnExactSweetForUptoRow : OpenClaim := { program := "ytceebblokibapaadoor", sum := "9f153497c5448bed5187aea5b996705defff0b5dfa965b5168cf1dce3ec4651d", func := "loop.example/g03309/laws.FnExactSweetFor", spec := "fnExactSweetFor", named := ["loop.example/g03309/impl.sweetSteps"], apart := false, laid := [("loop.example/g03309/impl.sweetSteps", laid_loop_example_g03309_impl_sweetSteps)], narrowed := true }
def FnExactSweetForUptoSaid : Prop := fnExactSweetForUptoRow.holds Tryd.pinned (OpenSpec.upto fnExactSweetForSpec)

end Rows
end Go.Proofs.YtceebblokibapaaDoor
