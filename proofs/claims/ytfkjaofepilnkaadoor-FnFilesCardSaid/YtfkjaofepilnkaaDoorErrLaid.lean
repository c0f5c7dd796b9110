/- What a row's list of one sentinel gives, and one world that meets it. No condition. Made by gen_laid1.py. -/
import Derived.Test.YtfkjaofepilnkaaDoorCards
import Derived.Test.YtfkjaofepilnkaaDoorTie
import Derived.Test.YtfkjaofepilnkaaDoorImplSteps
import Derived.Deep.DeepHandedRow
import Derived.Deep.DeepWitnessRowRef
import Derived.Stop.LaidErr
import Derived.MakeChecks
import Derived.WalkSmall
namespace Go.Proofs.YtfkjaofepilnkaaDoor
open Go.ChangeShapes Go.WideShapes Go.ChangeAt Go.RowKit

def laid1 : List (String × DataW Unit) := [("loop.example/g03309/impl.errNotReached", Rows.laid_loop_example_g03309_impl_errNotReached)]
theorem gE : Tryd.prog.globalNamed "loop.example/g03309/impl.errNotReached" = some 0 := by kernel_rfl
theorem gEType : (Tryd.prog.globals[0]?).map (·.type) = some 43 := by kernel_rfl
theorem starErr : "*" ++ "errors.errorString" = "*errors.errorString" := by decide
theorem rowErr : ∀ u, Tryd.prog.typeName? 3 u = some "*errors.errorString" → u = 70 := fun u h =>
  typeName_ptr_named (nm := "errors.errorString") (by rw [starErr]; kernel_rfl) (by kernel_rfl) (by decide) u (by rw [starErr]; exact h)
theorem errs1 {W : World} (h : laidMetH Tryd.prog laid1 W) : ∃ a : Addr, ErrAt W a ∧ W.var? Tryd.prog "loop.example/g03309/impl.errNotReached" = some #[.iface 70 (.pointer (some a))] := by
  have h' : laidMet Tryd.prog laid1 W := h
  obtain ⟨a0, s0, hv0, -, -, -⟩ := laid_sentinel h' gE gEType Tryd.underlying43 rowErr Tryd.underlying70 Tryd.underlying96 rfl rfl Tryd.underlying9 (by kernel_rfl) (by kernel_rfl)
  have hg : W.cell? ⟨0, 0, none⟩ = some (.iface 70 (.pointer (some a0))) := by simpa using World.var?_cell gE hv0 0
  exact ⟨a0, ⟨World.block_lt_of_cell? _ _ hg, hg⟩, hv0⟩
theorem var_read {H : Type} (enc : TypeId × Value → H) {W : World} {a : Addr} (h : W.var? Tryd.prog "loop.example/g03309/impl.errNotReached" = some #[.iface 70 (.pointer (some a))]) (sp : Nat → Bool) :
    DataW.TrodVars enc Tryd.prog W sp ["loop.example/g03309/impl.errNotReached"] [tok enc (.iface 70 (.pointer (some a)))] [.cell 0 0] :=
  vars_read1 enc gE gEType Tryd.underlying43 h trivial sp

/-- The settled world with one block more, an errors.errorString; the variable holds a pointer to it. -/
noncomputable def low : Nat := (World.holding Tryd.prog default ⟨#[], #[], []⟩).heap.size
def errS : ByteArray := { data := #[116, 104, 101, 32, 116, 111, 110, 101, 32, 99, 97, 110, 110, 111, 116, 32, 98, 101, 32, 114, 101, 97, 99, 104, 101, 100, 32, 119, 105, 116, 104, 32, 116, 104, 101, 32, 102, 105, 108, 101, 115, 32, 116, 104, 97, 116, 32, 97, 114, 101, 32, 108, 101, 102, 116] }
noncomputable def laidWorld1 (os : Os) : World :=
  let w0 := World.holding Tryd.prog os ⟨#[.cells #[.string errS] 96], #[], []⟩
  { w0 with heap := w0.heap.modify 0 fun
      | .cells _ t frozen => .cells #[.iface 70 (.pointer (some ⟨low, 0, none⟩))] t frozen
      | o => o }
theorem laid1_met (os : Os) (args : Array Value) : laidMet Tryd.prog laid1 ((laidWorld1 os).forCall (fun _ _ => 0) ⟨#[], args, []⟩).memory :=
  laidMet_of_run (ps := [.cell 0 0, .cell low 0]) 8 (by kernel_rfl) (by kernel_rfl) (by kernel_rfl)
end Go.Proofs.YtfkjaofepilnkaaDoor
