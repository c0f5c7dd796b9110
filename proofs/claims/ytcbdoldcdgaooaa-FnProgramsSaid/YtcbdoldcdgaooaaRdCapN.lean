/- Rows of rows of notes, each within its capacity. No condition. -/
import Derived.Test.YtcbdoldcdgaooaaRdCap
import Derived.Test.YtcbdoldcdgaooaaNestOps
namespace Go.Proofs.Ytcbdoldcdgaooaa
open Go.ChangeShapes Go.WideShapes Go.ChangeAt Go.RowKit

def RcN (w : World) (v : Value) (us : List Value) (ll : List (List (Int × Int))) : Prop := RdN w v us ll ∧ ∀ (i : Nat) (u : Value), us[i]? = some u → CapOk u
theorem RcN.below {w w' : World} {v : Value} {us : List Value} {ll : List (List (Int × Int))} (h : RcN w v us ll) (hb : Below w.heap.size w w') : RcN w' v us ll := ⟨h.1.below hb, h.2⟩
theorem OwN.rc {lo hi : Nat} {w : World} {v : Value} {us : List Value} {ll : List (List (Int × Int))} (h : OwN lo hi w v us ll) : RcN w v us ll :=
  ⟨h.rd, fun i u hu => by
    obtain ⟨l, hl⟩ : ∃ l, ll[i]? = some l := ⟨_, List.getElem?_eq_getElem (by rw [← h.1]; exact (List.getElem?_eq_some_iff.1 hu).1)⟩
    exact capOk_of_own (h.2.2.2.1 i u l hu hl).1⟩
def RcT (w : World) (v : Value) (ll : List (List (Int × Int))) : Prop := ∃ us, RcN w v us ll
theorem RcT.below {w w' : World} {v : Value} {ll : List (List (Int × Int))} (h : RcT w v ll) (hb : Below w.heap.size w w') : RcT w' v ll := h.imp fun _ k => k.below hb
theorem OwT.rc {lo hi : Nat} {w : World} {v : Value} {ll : List (List (Int × Int))} (h : OwT lo hi w v ll) : RcT w v ll := h.imp fun _ k => k.rc
end Go.Proofs.Ytcbdoldcdgaooaa
