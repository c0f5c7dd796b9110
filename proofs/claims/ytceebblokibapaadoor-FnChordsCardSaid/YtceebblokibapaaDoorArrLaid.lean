/- What a row's list of one package-level array gives, and one world that meets it. No condition. Made by gen_laidarr.py. -/
import Derived.Test.YtceebblokibapaaDoorCards
import Derived.Test.YtceebblokibapaaDoorTie
import Derived.Test.YtceebblokibapaaDoorArrAt
import Derived.Deep.DeepHandedRow
import Derived.Deep.DeepWitnessRowRef
import Derived.Lib.LaidTab
import Derived.MakeChecks
import Derived.WalkSmall
namespace Go.Proofs.YtceebblokibapaaDoor
open Go.ChangeShapes Go.WideShapes Go.ChangeAt Go.RowKit

def laid1 : List (String × DataW Unit) := [("loop.example/g03309/impl.sweetSteps", Rows.laid_loop_example_g03309_impl_sweetSteps)]
theorem gEType : (Tryd.prog.globals[0]?).map (·.type) = some 51 := by kernel_rfl
/-- An array of bools that reads as these holds them, cell for cell. -/
theorem cells_of_flags {H : Type} {enc : TypeId × Value → H} {P : Program} {w : World} {base : Nat} {sp : Nat → Bool} {held : Bool} {fuel : Nat} {t e : TypeId} {n : Nat} {cs : List Value} {zs : List Bool} {p : List MemPlace}
    (ht : P.underlying t = some (.array n e)) (he : P.underlying e = some .bool) (hce : P.cellsOf e = 1) (hct : P.cellsOf t = n)
    (h : DataW.trod enc P w base sp held fuel t cs = some (.agg (zs.map fun z => .lit (.bool z)), p)) : cs = zs.map fun z => Value.bool z := by
  cases fuel with
  | zero => simp [DataW.trod] at h
  | succ fuel =>
    simp only [DataW.trod, ht, hce, hct, Nat.mul_one] at h
    split at h
    · rename_i hl
      obtain ⟨xs, hm, hx⟩ := Option.map_eq_some_iff.1 h
      have hxs : xs.map (·.1) = zs.map fun z => (DataW.lit (.bool z) : DataW H) := by
        have := congrArg Prod.fst hx
        simpa using this
      have hxl : xs.length = n := by simpa using Lib.mapM_length hm
      have hzl : zs.length = n := by
        have := congrArg List.length hxs
        simp at this
        omega
      apply List.ext_getElem?
      intro i
      by_cases hi : i < n
      · obtain ⟨b, hb, hf⟩ := Lib.mapM_at hm i i (by simp [hi])
        obtain ⟨z, hc, rfl⟩ := DataW.trod_bool he hf
        have h1 : cs[i]? = some (.bool z) := by
          have := congrArg (·[0]?) hc
          simpa [List.getElem?_take, List.getElem?_drop] using this
        have h2 : (xs.map (·.1))[i]? = some (DataW.lit (.bool z) : DataW H) := by simp [hb]
        rw [hxs] at h2
        simp only [List.getElem?_map, Option.map_eq_some_iff, DataW.lit.injEq, Lit.bool.injEq] at h2
        obtain ⟨z', hz', rfl⟩ := h2
        simp [h1, hz']
      · rw [List.getElem?_eq_none (by omega), List.getElem?_eq_none (by simp; omega)]
    · cases h
theorem flags1 {W : World} (h : laidMetH Tryd.prog laid1 W) : TabAt W := by
  have h' : laidMet Tryd.prog laid1 W := h
  obtain ⟨ps, ⟨g', t', cs, fuel, p, q, hg', ht', hvar, hd, _, _⟩, _⟩ := h'
  obtain rfl := Option.some.inj (gE.symm.trans hg')
  obtain rfl := Option.some.inj (gEType.symm.trans ht')
  have hc : cs.toList = sweetL.map fun z => Value.bool z := cells_of_flags Tryd.underlying51 Tryd.underlying4 (by kernel_rfl) (by kernel_rfl) hd
  have hv : W.var? Tryd.prog "loop.example/g03309/impl.sweetSteps" = some #[.bool true, .bool false, .bool false, .bool true, .bool true, .bool true, .bool false] := by rw [hvar, ← Array.toArray_toList (xs := cs), hc]; rfl
  exact tabAt_of hv
theorem var_read {H : Type} (enc : TypeId × Value → H) {W : World} (h : TabAt W) (sp : Nat → Bool) :
    DataW.TrodVars enc Tryd.prog W sp ["loop.example/g03309/impl.sweetSteps"] [Rows.laid_loop_example_g03309_impl_sweetSteps] (MemPlace.row ⟨0, 0, none⟩ 7) :=
  ⟨0, 51, #[.bool true, .bool false, .bool false, .bool true, .bool true, .bool true, .bool false], 3, [], [], gE, gEType, h.2, by kernel_rfl, rfl, rfl⟩

/-- The settled world; the variable holds what its initialiser lays. -/
noncomputable def laidWorld1 (os : Os) : World :=
  let w0 := World.holding Tryd.prog os ⟨#[], #[], []⟩
  { w0 with heap := w0.heap.modify 0 fun
      | .cells _ t frozen => .cells #[.bool true, .bool false, .bool false, .bool true, .bool true, .bool true, .bool false] t frozen
      | o => o }
theorem laid1_met (os : Os) (args : Array Value) : laidMet Tryd.prog laid1 ((laidWorld1 os).forCall (fun _ _ => 0) ⟨#[], args, []⟩).memory :=
  laidMet_of_run' 8 (by kernel_rfl) (by kernel_rfl)
end Go.Proofs.YtceebblokibapaaDoor
