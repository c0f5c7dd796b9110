/- The walks of the laws FnExactTuneOk, FnExactLasts, FnExactPitchRange, FnExactNotesAt, FnExactSampleTune. No condition. -/
import Derived.Test.YtcklhdbfgchgkaaImplTune2
import Derived.Test.YtcklhdbfgchgkaaTuneOpen
import Derived.Test.YtcklhdbfgchgkaaWalkKit
namespace Go.Proofs.Ytcklhdbfgchgkaa
open Go.ChangeShapes Go.WideShapes Go.ChangeAt Go.RowKit

theorem notesAtM_len (l : List (Int × Int)) (t : Int) : (notesAtM l t).length ≤ l.length := by
  unfold notesAtM; split
  · exact atM_length l t
  · simp

end Go.Proofs.Ytcklhdbfgchgkaa
