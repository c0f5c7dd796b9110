/- The contracts of the program's order of notes: cmp.Compare, cmp.Or, compareNotes, noteOk, TuneOk. No condition. -/
import Derived.Test.YtceebblokibapaaTuneSpec2
import Derived.Sort.Grow
import Derived.Shelf.SlSortCmp.QuietGrown
namespace Go.Proofs.Ytceebblokibapaa
open Go.ChangeShapes Go.WideShapes Go.ChangeAt Go.RowKit

/-- Draws and new blocks, nothing else. -/
def Gr (w w' : World) : Prop := ∃ q os, w' = Sort.grow (w.drewN q) os
theorem Gr.below {w w' : World} (h : Gr w w') : Below w.heap.size w w' := by
  obtain ⟨q, os, rfl⟩ := h
  exact ⟨rfl, rfl, rfl, by show w.heap.size ≤ (w.heap ++ os).size; simp, fun k hk => by show (w.heap ++ os)[k]? = _; simp [Array.getElem?_append, hk]⟩
theorem gr_of_below {w w' : World} (h : Below w.heap.size w w') (hd : w.drawn ≤ w'.drawn) : Gr w w' := by
  refine ⟨w'.drawn - w.drawn, w'.heap.extract w.heap.size w'.heap.size, ?_⟩
  have h1 := h.os; have h2 := h.tape; have h3 := h.output; have h4 := h.size; have h5 := h.block
  obtain ⟨hp, tp, dr, os, out⟩ := w
  obtain ⟨hp', tp', dr', os', out'⟩ := w'
  simp only at h1 h2 h3 h4 h5 hd ⊢
  subst h1 h2 h3
  have e1 : dr + (dr' - dr) = dr' := by omega
  have e2 : hp ++ hp'.extract hp.size hp'.size = hp' := by
    apply Array.ext_getElem?
    intro k
    by_cases hk : k < hp.size
    · rw [Array.getElem?_append_left hk, h5 k hk]
    · rw [Array.getElem?_append_right (by omega), Array.getElem?_extract]
      by_cases hk2 : k < hp'.size
      · rw [if_pos (by omega)]; congr 1; omega
      · rw [if_neg (by omega), Array.getElem?_eq_none (by omega)]
  show ({ heap := hp', tape := tp', drawn := dr', os := os', output := out' } : World) = { heap := hp ++ hp'.extract hp.size hp'.size, tape := tp', drawn := dr + (dr' - dr), os := os', output := out' }
  rw [e1, e2]

def cmpI (x y : Int) : Int := if x < y then -1 else if y < x then 1 else 0
def orI (x y : Int) : Int := if x = 0 then y else x
def cmpN (p q : Int × Int) : Int := orI (cmpI p.1 q.1) (cmpI p.2 q.2)
theorem cmpI_zero {x y : Int} : cmpI x y = 0 ↔ x = y := by unfold cmpI; split <;> (try split) <;> omega
theorem cmpI_bd (x y : Int) : -1 ≤ cmpI x y ∧ cmpI x y ≤ 1 := by unfold cmpI; split <;> (try split) <;> omega
theorem cmpN_lt {p q : Int × Int} : cmpN p q < 0 ↔ lessB p q = true := by
  unfold cmpN orI cmpI lessB
  simp only [decide_eq_true_eq]
  repeat' split
  all_goals omega
theorem cmpN_ge {p q : Int × Int} : 0 ≤ cmpN p q ↔ lessB p q = false := by
  rw [← Bool.not_eq_true, ← cmpN_lt]; omega
theorem cmpN_zero {p q : Int × Int} : cmpN p q = 0 ↔ p = q := by
  obtain ⟨a, b⟩ := p; obtain ⟨c, d⟩ := q
  unfold cmpN orI cmpI
  simp only [Prod.mk.injEq]
  repeat' split
  all_goals omega
theorem cmpN_bd (p q : Int × Int) : -1 ≤ cmpN p q ∧ cmpN p q ≤ 1 := by
  unfold cmpN orI; split
  · exact cmpI_bd _ _
  · exact cmpI_bd _ _

theorem ret_i {a b : Int} (h : a = b) : Ending.returned (.int .i64 a) = .returned (.int .i64 b) := by rw [h]

theorem cell_new (W : World) (vs : Array Value) (t : TypeId) (k : Nat) : (W.alloc (.cells vs t)).drew.cell? ⟨W.heap.size, k, none⟩ = vs[k]? :=
  World.cell?_alloc_mark W vs t (0, 0) k
theorem size2 (w : World) (a b : Obj) : w.heap.size + 1 + 1 = ((w.alloc a).alloc b).heap.size := by simp

def nOkB (p : Int × Int) : Bool := inB p.1 0 1000 && inB p.2 0 60
theorem nOkB_true {p : Int × Int} : nOkB p = true ↔ (0 ≤ p.1 ∧ p.1 ≤ 1000) ∧ (0 ≤ p.2 ∧ p.2 ≤ 60) := by unfold nOkB inB; simp
theorem nOkB_false {p : Int × Int} : nOkB p = false ↔ ¬ ((0 ≤ p.1 ∧ p.1 ≤ 1000) ∧ (0 ≤ p.2 ∧ p.2 ≤ 60)) := by rw [← nOkB_true]; simp

theorem pitok_any (x : Int) (w : World) :
    Calls Try.prog 12 #[.int .i64 x] w fun e w' => e = .returned (.bool (inB x 0 60)) ∧ w = w' := by
  by_cases h1 : 0 ≤ x <;> by_cases h2 : x ≤ 60
  all_goals
    go_enter Try.func12, Try.ntmps12
    go_wp2
    go_ret
    exact ⟨by unfold inB; simp; omega, rfl⟩

theorem cell0 (W : World) (vs : Array Value) (t : TypeId) (k : Nat) : (W.alloc (.cells vs t)).cell? ⟨W.heap.size, k, none⟩ = vs[k]? :=
  World.cell?_alloc_mark W vs t (0, 0) k
theorem grown_gr {P : Program} {f : FuncId} {args : Array Value} {w : World} {n : Nat} {os : Array Obj} {v : Value}
    (h : Calls P f args (Sort.grow (w.drewN n) os) fun e w' => e = .returned v ∧ Gr (Sort.grow (w.drewN n) os) w') : Calls P f args (Sort.grow (w.drewN n) os) fun e w'' => e = .returned v ∧ ∃ p : GrownBy, w'' = Sort.grow (w.drewN p.n) p.os :=
  Calls.grown_of h
end Go.Proofs.Ytceebblokibapaa
