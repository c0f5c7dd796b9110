/- A deferred call of a builtin; a deferred close of an open channel, as one step of a goroutine on its way out. For every program. No condition. -/
import Derived.Conc.TokenWords
import Derived.Conc.QuitsD
set_option linter.unusedSimpArgs false
set_option linter.unusedVariables false
namespace Go.Proofs.Ytodpkfohihfndaa
open Go Go.Conc

section
variable {P : Program} {main : Bool} {b : Frame} {a : Act} {k : List Item} {cs : List Frame} {w : World}

def dclose (ats : Array TypeId) (ty : TypeId) (ks : Array Bool) (x : Value) : Deferred := { target := .builtin .close ats ty ks, args := #[x] }

theorem stepG_defer_close {ops : Array Oper} {i : Nat} {rest : List Nat} {o : Oper} {t : Nat} {ats : Array TypeId} (ho : ops[i]? = some o) (hw : Region.wanted o (yielded ops a.tmps) = true) (hk : b.kind ≠ .early)
    (hop : o.op = .defer { callee := .builtin .close, args := #[.tmp t], argTypes := ats }) :
    stepG P main (G (b.at a (.inRegion ops (i :: rest) :: k)) cs) w = .go (G (b.at (Act.put ⟨a.tmps, dclose ats o.type #[false] (a.tmps.getD t undef) :: a.defers⟩ o.dst undef) (.inRegion ops rest :: k)) cs) w #[] := by
  have hr : (execOp a.eval o).run P w = .ok (.defer (dclose ats o.type #[false] (a.tmps.getD t undef))) w := by
    unfold execOp
    simp [hop, resolve, dclose, Act.eval]
  have he : (execOp a.eval o).events P w #[] = #[] := by
    unfold execOp
    simp [hop, resolve]
  have hfin : (b.at ⟨a.tmps, dclose ats o.type #[false] (a.tmps.getD t undef) :: a.defers⟩ (.inRegion ops (i :: rest) :: k)).finish undef = b.at (Act.put ⟨a.tmps, dclose ats o.type #[false] (a.tmps.getD t undef) :: a.defers⟩ o.dst undef) (.inRegion ops rest :: k) := by rw [Frame.finish_at, ho]; rfl
  have hk' : (b.kind == CallKind.early) = false := by simpa using hk
  rw [stepG_oper ho hw, ← hfin]
  simp [stepG.apply, hr, he, G, Frame.at, hk', GStep.after, seen_none]

theorem stepG_unwind_close {todo : List Item} {ds : List Deferred} {ats : Array TypeId} {ty : TypeId} {ks : Array Bool} {c cap s r : Nat} {buf : Array Value} {tm : Bool} (hd : a.defers = dclose ats ty ks (.chan (some c)) :: ds)
    (hc : w.heap[c]? = some (.chan cap buf false s r tm)) (hq : (P.funcs[b.fn]?).any (·.norace) = false) :
    stepG P main (G { b.at a todo with mode := .returning } cs) w = .go (G { b.at ⟨a.tmps, ds⟩ todo with mode := .returning } cs) (w.setChan c cap buf true s r tm) (closeEvents c) := by
  have hr : (invoke (.builtin .close ats ty ks) #[.chan (some c)]).run P w = .ok (.value (.tuple #[])) (w.setChan c cap buf true s r tm) := by
    unfold invoke
    simp [go_sem, run_close_open _ _ hc, World.setChan]
  have he : (invoke (.builtin .close ats ty ks) #[.chan (some c)]).events P w #[] = closeEvents c := by
    unfold invoke
    simp [go_sem, events_close_open _ _ hc, closeEvents]
  have hs : seen P b.fn (closeEvents c) = closeEvents c := seen_eq hq (by intro e he f; simp only [closeEvents, List.mem_toArray, List.mem_cons, List.not_mem_nil, or_false] at he; rcases he with rfl | rfl <;> simp)
  simp [G, stepG, unwind, callDeferred, Frame.at, hd, dclose, hr, he, hs, GStep.after]

/-- Whoever is on its way out, a close of c deferred last, meets AtShut. -/
theorem atShut_unwind {After : Goroutine → Prop} {todo : List Item} {ds : List Deferred} {ats : Array TypeId} {ty : TypeId} {ks : Array Bool} {c : Nat} (hd : a.defers = dclose ats ty ks (.chan (some c)) :: ds) (hq : (P.funcs[b.fn]?).any (·.norace) = false)
    (h : After (G { b.at ⟨a.tmps, ds⟩ todo with mode := .returning } cs)) (w : World) : AtShut P main c After (G { b.at a todo with mode := .returning } cs) w :=
  ⟨rfl, rfl, _, rfl, fun _ _ hc d => stepG_unwind_close (w := w.at d) hd hc hq, h⟩
end
end Go.Proofs.Ytodpkfohihfndaa
