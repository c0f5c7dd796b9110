/-
  No cell of these rows narrows 'for every input' (looked for: loops, veiled, ifaces, maps, wideKeys, modest, calm, conditions, laid).
  DERIVED. THE GIVEN ROWS OF THIS SEAT. 8 by the template 'for every input the law returns true; each argument reads behind the call as it read before'; 0 by the template 'total and deterministic' (their statements: YtglehmffmailkaaTotals.lean).
  GIVEN WITH THE SEED: the statements are not yours to turn. If you find one false, say at which input.
  Laid BY PROGRAM, IN A SANDBOX (cutbox-rows.mjs): the forced cells as the released guide's own fill.sh prints them over the translation 65641944f7130bc5… (all of the seat's roots in one cut). By AI agents, Wed Nov 11 2026. No macro, syntax, notation, axiom, sorry.
-/
import Derived.Test.YtglehmffmailkaaChecked
import GoSem.Claim
import GoSem.ClaimJoined
import GoSem.ClaimMapViews
import Derived.JoinedTies
import Derived.KernelRfl
namespace Go.Proofs.Ytglehmffmailkaa
/- THE CELL 'sum', in the pinned program and in every row, IS THE sha256 OF THE DUMP (.gsa) THAT YtglehmffmailkaaProg.lean LOADS. Nothing in Lean hashes anything: it is a label: what it is worth is what the hold of that sum in a sandbox is worth. -/
noncomputable def Try.pinned : Pinned := { name := "ytglehmffmailkaa", sum := "65641944f7130bc5652466ed23ee228eb30a95cc8c452edcc4e6d05b61efd581", checked := Try.checked }
namespace Rows
def none {H : Type} : Left H := { results := [], args := [] }

/-- 'laws.FnMotifs': WHATEVER THE INPUT: true; the input reads as it did. -/
def fnMotifsSpec : ChangeSpec := { name := "fnMotifs", fn := fun _ => fun
  | [d] => { results := [.lit (.bool true)], args := [d] }
  | _ => none }
def fnMotifsRow : OpenClaim := { program := "ytglehmffmailkaa", sum := "65641944f7130bc5652466ed23ee228eb30a95cc8c452edcc4e6d05b61efd581", func := "loop.example/g03309/laws.FnMotifs", spec := "fnMotifs", unfollowed := true, recurses := true, apart := false }
def FnMotifsSaid : Prop := fnMotifsRow.holds Try.pinned (OpenSpec.ofChange fnMotifsSpec)

/-- ITS FALSE NEIGHBOUR: 'it returns false'. Refute it at one input. -/
def fnMotifsWrong : ChangeSpec := { name := "fnMotifs", fn := fun _ => fun
  | [d] => { results := [.lit (.bool false)], args := [d] }
  | _ => none }
def FnMotifsWrongFalsely : Prop := fnMotifsRow.holds Try.pinned (OpenSpec.ofChange fnMotifsWrong)

/-- 'laws.FnExactOccursAt': WHATEVER THE INPUT: true; the input reads as it did. -/
def fnExactOccursAtSpec : ChangeSpec := { name := "fnExactOccursAt", fn := fun _ => fun
  | [d1, d2, d3] => { results := [.lit (.bool true)], args := [d1, d2, d3] }
  | _ => none }
def fnExactOccursAtRow : OpenClaim := { program := "ytglehmffmailkaa", sum := "65641944f7130bc5652466ed23ee228eb30a95cc8c452edcc4e6d05b61efd581", func := "loop.example/g03309/laws.FnExactOccursAt", spec := "fnExactOccursAt", unfollowed := true, recurses := true, apart := false }
def FnExactOccursAtSaid : Prop := fnExactOccursAtRow.holds Try.pinned (OpenSpec.ofChange fnExactOccursAtSpec)

/-- ITS FALSE NEIGHBOUR: 'it returns false'. Refute it at one input. -/
def fnExactOccursAtWrong : ChangeSpec := { name := "fnExactOccursAt", fn := fun _ => fun
  | [d1, d2, d3] => { results := [.lit (.bool false)], args := [d1, d2, d3] }
  | _ => none }
def FnExactOccursAtWrongFalsely : Prop := fnExactOccursAtRow.holds Try.pinned (OpenSpec.ofChange fnExactOccursAtWrong)

/-- 'laws.FnExactOccurrences': WHATEVER THE INPUT: true; the input reads as it did. -/
def fnExactOccurrencesSpec : ChangeSpec := { name := "fnExactOccurrences", fn := fun _ => fun
  | [d1, d2] => { results := [.lit (.bool true)], args := [d1, d2] }
  | _ => none }
def fnExactOccurrencesRow : OpenClaim := { program := "ytglehmffmailkaa", sum := "65641944f7130bc5652466ed23ee228eb30a95cc8c452edcc4e6d05b61efd581", func := "loop.example/g03309/laws.FnExactOccurrences", spec := "fnExactOccurrences", unfollowed := true, recurses := true, apart := false }
def FnExactOccurrencesSaid : Prop := fnExactOccurrencesRow.holds Try.pinned (OpenSpec.ofChange fnExactOccurrencesSpec)

/-- ITS FALSE NEIGHBOUR: 'it returns false'. Refute it at one input. -/
def fnExactOccurrencesWrong : ChangeSpec := { name := "fnExactOccurrences", fn := fun _ => fun
  | [d1, d2] => { results := [.lit (.bool false)], args := [d1, d2] }
  | _ => none }
def FnExactOccurrencesWrongFalsely : Prop := fnExactOccurrencesRow.holds Try.pinned (OpenSpec.ofChange fnExactOccurrencesWrong)

/-- 'laws.FnExactLongestRepeat': WHATEVER THE INPUT: true; the input reads as it did. -/
def fnExactLongestRepeatSpec : ChangeSpec := { name := "fnExactLongestRepeat", fn := fun _ => fun
  | [d] => { results := [.lit (.bool true)], args := [d] }
  | _ => none }
def fnExactLongestRepeatRow : OpenClaim := { program := "ytglehmffmailkaa", sum := "65641944f7130bc5652466ed23ee228eb30a95cc8c452edcc4e6d05b61efd581", func := "loop.example/g03309/laws.FnExactLongestRepeat", spec := "fnExactLongestRepeat", unfollowed := true, recurses := true, apart := false }
def FnExactLongestRepeatSaid : Prop := fnExactLongestRepeatRow.holds Try.pinned (OpenSpec.ofChange fnExactLongestRepeatSpec)

/-- ITS FALSE NEIGHBOUR: 'it returns false'. Refute it at one input. -/
def fnExactLongestRepeatWrong : ChangeSpec := { name := "fnExactLongestRepeat", fn := fun _ => fun
  | [d] => { results := [.lit (.bool false)], args := [d] }
  | _ => none }
def FnExactLongestRepeatWrongFalsely : Prop := fnExactLongestRepeatRow.holds Try.pinned (OpenSpec.ofChange fnExactLongestRepeatWrong)

/-- 'laws.FnExactCountMotifs': WHATEVER THE INPUT: true; the input reads as it did. -/
def fnExactCountMotifsSpec : ChangeSpec := { name := "fnExactCountMotifs", fn := fun _ => fun
  | [d1, d2] => { results := [.lit (.bool true)], args := [d1, d2] }
  | _ => none }
def fnExactCountMotifsRow : OpenClaim := { program := "ytglehmffmailkaa", sum := "65641944f7130bc5652466ed23ee228eb30a95cc8c452edcc4e6d05b61efd581", func := "loop.example/g03309/laws.FnExactCountMotifs", spec := "fnExactCountMotifs", unfollowed := true, recurses := true, apart := false }
def FnExactCountMotifsSaid : Prop := fnExactCountMotifsRow.holds Try.pinned (OpenSpec.ofChange fnExactCountMotifsSpec)

/-- ITS FALSE NEIGHBOUR: 'it returns false'. Refute it at one input. -/
def fnExactCountMotifsWrong : ChangeSpec := { name := "fnExactCountMotifs", fn := fun _ => fun
  | [d1, d2] => { results := [.lit (.bool false)], args := [d1, d2] }
  | _ => none }
def FnExactCountMotifsWrongFalsely : Prop := fnExactCountMotifsRow.holds Try.pinned (OpenSpec.ofChange fnExactCountMotifsWrong)

/-- 'laws.FnExactPartOf': WHATEVER THE INPUT: true; the input reads as it did. -/
def fnExactPartOfSpec : ChangeSpec := { name := "fnExactPartOf", fn := fun _ => fun
  | [d1, d2, d3] => { results := [.lit (.bool true)], args := [d1, d2, d3] }
  | _ => none }
def fnExactPartOfRow : OpenClaim := { program := "ytglehmffmailkaa", sum := "65641944f7130bc5652466ed23ee228eb30a95cc8c452edcc4e6d05b61efd581", func := "loop.example/g03309/laws.FnExactPartOf", spec := "fnExactPartOf", apart := false }
def FnExactPartOfSaid : Prop := fnExactPartOfRow.holds Try.pinned (OpenSpec.ofChange fnExactPartOfSpec)

/-- ITS FALSE NEIGHBOUR: 'it returns false'. Refute it at one input. -/
def fnExactPartOfWrong : ChangeSpec := { name := "fnExactPartOf", fn := fun _ => fun
  | [d1, d2, d3] => { results := [.lit (.bool false)], args := [d1, d2, d3] }
  | _ => none }
def FnExactPartOfWrongFalsely : Prop := fnExactPartOfRow.holds Try.pinned (OpenSpec.ofChange fnExactPartOfWrong)

/-- 'laws.FnExactSameTune': WHATEVER THE INPUT: true; the input reads as it did. -/
def fnExactSameTuneSpec : ChangeSpec := { name := "fnExactSameTune", fn := fun _ => fun
  | [d1, d2] => { results := [.lit (.bool true)], args := [d1, d2] }
  | _ => none }
def fnExactSameTuneRow : OpenClaim := { program := "ytglehmffmailkaa", sum := "65641944f7130bc5652466ed23ee228eb30a95cc8c452edcc4e6d05b61efd581", func := "loop.example/g03309/laws.FnExactSameTune", spec := "fnExactSameTune", unfollowed := true, recurses := true, apart := false }
def FnExactSameTuneSaid : Prop := fnExactSameTuneRow.holds Try.pinned (OpenSpec.ofChange fnExactSameTuneSpec)

/-- ITS FALSE NEIGHBOUR: 'it returns false'. Refute it at one input. -/
def fnExactSameTuneWrong : ChangeSpec := { name := "fnExactSameTune", fn := fun _ => fun
  | [d1, d2] => { results := [.lit (.bool false)], args := [d1, d2] }
  | _ => none }
def FnExactSameTuneWrongFalsely : Prop := fnExactSameTuneRow.holds Try.pinned (OpenSpec.ofChange fnExactSameTuneWrong)

/-- 'laws.FnChanges': WHATEVER THE INPUT: true; the input reads as it did. -/
def fnChangesSpec : ChangeSpec := { name := "fnChanges", fn := fun _ => fun
  | [d] => { results := [.lit (.bool true)], args := [d] }
  | _ => none }
def fnChangesRow : OpenClaim := { program := "ytglehmffmailkaa", sum := "65641944f7130bc5652466ed23ee228eb30a95cc8c452edcc4e6d05b61efd581", func := "loop.example/g03309/laws.FnChanges", spec := "fnChanges", unfollowed := true, recurses := true, apart := false }
def FnChangesSaid : Prop := fnChangesRow.holds Try.pinned (OpenSpec.ofChange fnChangesSpec)

/-- ITS FALSE NEIGHBOUR: 'it returns false'. Refute it at one input. -/
def fnChangesWrong : ChangeSpec := { name := "fnChanges", fn := fun _ => fun
  | [d] => { results := [.lit (.bool false)], args := [d] }
  | _ => none }
def FnChangesWrongFalsely : Prop := fnChangesRow.holds Try.pinned (OpenSpec.ofChange fnChangesWrong)

/- THE SECOND FORM. 'bulk': how many values and letters a reading holds, each counted each time it is reached (what is shared counts as often as it is met; a slice's spare places count too). A statement '..UptoSaid' is the law's where the arguments, and the package variables that the reading takes, are together of bulk at most 1048576: NARROWER than '..Said'. Prove '..Said' where nothing that the law and all that it calls make is longer than what came in: it says more and counts as full. Else prove '..UptoSaid'. A law counts once. -/
mutual
def uptoBulk {H : Type} : DataW H → Nat
  | .lit (.string bytes) => bytes.length + 1
  | .lit _ => 1
  | .nil => 1
  | .ptr d => uptoBulk d + 1
  | .slice elems spare => uptoBulkAll elems + uptoBulkAll spare + 1
  | .agg parts => uptoBulkAll parts + 1
  | .iface _ d => uptoBulk d + 1
  | .map entries => uptoBulkEntries entries + 1
  | .held _ => 1
def uptoBulkAll {H : Type} : List (DataW H) → Nat
  | [] => 0
  | d :: r => uptoBulk d + uptoBulkAll r
def uptoBulkEntries {H : Type} : List (Lit × DataW H) → Nat
  | [] => 0
  | x :: r => uptoBulkEntry x + uptoBulkEntries r
def uptoBulkEntry {H : Type} : Lit × DataW H → Nat
  | (.string bytes, d) => bytes.length + uptoBulk d + 1
  | (_, d) => uptoBulk d + 1
 end
def uptoSmall : (H : Type) → List (DataW H) → Bool := fun _ ds => decide (uptoBulkAll ds ≤ 1048576)
def OpenSpec.upto (s : _root_.Go.ChangeSpec) : _root_.Go.OpenSpec := { _root_.Go.OpenSpec.ofChange s with cond := some uptoSmall }

/-- 'laws.FnMotifs', WHERE WHAT IT READS IS OF BULK AT MOST 1048576: true; the input reads as it did. -/
def fnMotifsUptoRow : OpenClaim := { program := "ytglehmffmailkaa", sum := "65641944f7130bc5652466ed23ee228eb30a95cc8c452edcc4e6d05b61efd581", func := "loop.example/g03309/laws.FnMotifs", spec := "fnMotifs", unfollowed := true, recurses := true, apart := false, narrowed := true }
def FnMotifsUptoSaid : Prop := fnMotifsUptoRow.holds Try.pinned (OpenSpec.upto fnMotifsSpec)

/-- 'laws.FnExactOccursAt', WHERE WHAT IT READS IS OF BULK AT MOST 1048576: true; the input reads as it did. -/
def fnExactOccursAtUptoRow : OpenClaim := { program := "ytglehmffmailkaa", sum := "65641944f7130bc5652466ed23ee228eb30a95cc8c452edcc4e6d05b61efd581", func := "loop.example/g03309/laws.FnExactOccursAt", spec := "fnExactOccursAt", unfollowed := true, recurses := true, apart := false, narrowed := true }
def FnExactOccursAtUptoSaid : Prop := fnExactOccursAtUptoRow.holds Try.pinned (OpenSpec.upto fnExactOccursAtSpec)

/-- 'laws.FnExactOccurrences', WHERE WHAT IT READS IS OF BULK AT MOST 1048576: true; the input reads as it did. -/
def fnExactOccurrencesUptoRow : OpenClaim := { program := "ytglehmffmailkaa", sum := "65641944f7130bc5652466ed23ee228eb30a95cc8c452edcc4e6d05b61efd581", func := "loop.example/g03309/laws.FnExactOccurrences", spec := "fnExactOccurrences", unfollowed := true, recurses := true, apart := false, narrowed := true }
def FnExactOccurrencesUptoSaid : Prop := fnExactOccurrencesUptoRow.holds Try.pinned (OpenSpec.upto fnExactOccurrencesSpec)

/-- 'laws.FnExactLongestRepeat', WHERE WHAT IT READS IS OF BULK AT MOST 1048576: true; the input reads as it did. -/
def fnExactLongestRepeatUptoRow : OpenClaim := { program := "ytglehmffmailkaa", sum := "65641944f7130bc5652466ed23ee228eb30a95cc8c452edcc4e6d05b61efd581", func := "loop.example/g03309/laws.FnExactLongestRepeat", spec := "fnExactLongestRepeat", unfollowed := true, recurses := true, apart := false, narrowed := true }
def FnExactLongestRepeatUptoSaid : Prop := fnExactLongestRepeatUptoRow.holds Try.pinned (OpenSpec.upto fnExactLongestRepeatSpec)

/-- 'laws.FnExactCountMotifs', WHERE WHAT IT READS IS OF BULK AT MOST 1048576: true; the input reads as it did. -/
def fnExactCountMotifsUptoRow : OpenClaim := { program := "ytglehmffmailkaa", sum := "65641944f7130bc5652466ed23ee228eb30a95cc8c452edcc4e6d05b61efd581", func := "loop.example/g03309/laws.FnExactCountMotifs", spec := "fnExactCountMotifs", unfollowed := true, recurses := true, apart := false, narrowed := true }
def FnExactCountMotifsUptoSaid : Prop := fnExactCountMotifsUptoRow.holds Try.pinned (OpenSpec.upto fnExactCountMotifsSpec)

/-- 'laws.FnExactPartOf', WHERE WHAT IT READS IS OF BULK AT MOST 1048576: true; the input reads as it did. -/
def fnExactPartOfUptoRow : OpenClaim := { program := "ytglehmffmailkaa", sum := "65641944f7130bc5652466ed23ee228eb30a95cc8c452edcc4e6d05b61efd581", func := "loop.example/g03309/laws.FnExactPartOf", spec := "fnExactPartOf", apart := false, narrowed := true }
def FnExactPartOfUptoSaid : Prop := fnExactPartOfUptoRow.holds Try.pinned (OpenSpec.upto fnExactPartOfSpec)

/-- 'laws.FnExactSameTune', WHERE WHAT IT READS IS OF BULK AT MOST 1048576: true; the input reads as it did. -/
def fnExactSameTuneUptoRow : OpenClaim := { program := "ytglehmffmailkaa", sum := "65641944f7130bc5652466ed23ee228eb30a95cc8c452edcc4e6d05b61efd581", func := "loop.example/g03309/laws.FnExactSameTune", spec := "fnExactSameTune", unfollowed := true, recurses := true, apart := false, narrowed := true }
def FnExactSameTuneUptoSaid : Prop := fnExactSameTuneUptoRow.holds Try.pinned (OpenSpec.upto fnExactSameTuneSpec)

/-- 'laws.FnChanges', WHERE WHAT IT READS IS OF BULK AT MOST 1048576: true; the input reads as it did. -/
def fnChangesUptoRow : OpenClaim := { program := "ytglehmffmailkaa", sum := "65641944f7130bc5652466ed23ee228eb30a95cc8c452edcc4e6d05b61efd581", func := "loop.example/g03309/laws.FnChanges", spec := "fnChanges", unfollowed := true, recurses := true, apart := false, narrowed := true }
def FnChangesUptoSaid : Prop := fnChangesUptoRow.holds Try.pinned (OpenSpec.upto fnChangesSpec)

end Rows
end Go.Proofs.Ytglehmffmailkaa
