/- A region that copies a row of pins, lays a pin in a row of its own and makes a variable, in whatever order: what holds between. No condition. -/
import Derived.Test.YtcbdoldcdgaooaaImplWith
import Derived.Test.YtcbdoldcdgaooaaPinInsert
namespace Go.Proofs.Ytcbdoldcdgaooaa
open Go.ChangeShapes Go.WideShapes Go.ChangeAt Go.RowKit

abbrev zeroO : Obj := .cells #[.int .i64 0, .int .i64 0, .slice none 0 0] 26
abbrev pinO (x : Int × Int) : Obj := .cells #[.int .i64 x.1, .int .i64 x.2] 32
/-- Behind w0: the variable's block (if it is made), the pin's row (if it is made). -/
def Mid (w0 w : World) (x : Int × Int) (zb pb : Option Nat) : Prop := Below w0.heap.size w0 w ∧ (∀ b, zb = some b → w.heap[b]? = some zeroO ∧ w0.heap.size ≤ b) ∧ (∀ b, pb = some b → w.ownsRow w0.heap.size 32 2 (.slice (some ⟨b, 0, none⟩) 1 1) 1 (flat2 [x]))
theorem mid_0 (w : World) (x : Int × Int) : Mid w w x none none := ⟨Below.refl _ _, (fun _ h => by cases h), (fun _ h => by cases h)⟩
theorem heap_old {W w : World} (hb : Below W.heap.size W w) {b : Nat} {o : Obj} (h : W.heap[b]? = some o) : w.heap[b]? = some o := by
  rw [hb.block b (Array.getElem?_eq_some_iff.1 h).1]; exact h
theorem Mid.below {w0 w w' : World} {x : Int × Int} {zb pb : Option Nat} (h : Mid w0 w x zb pb) (hb : Below w.heap.size w w') : Mid w0 w' x zb pb :=
  ⟨bstep h.1 hb, fun b e => ⟨heap_old hb (h.2.1 b e).1, (h.2.1 b e).2⟩, fun b e => ownS_below (h.2.2 b e) hb⟩
theorem Mid.drew {w0 w : World} {x : Int × Int} {zb pb : Option Nat} (h : Mid w0 w x zb pb) : Mid w0 w.drew x zb pb := h.below (Below.refl _ _).drew
theorem Mid.z {w0 w : World} {x : Int × Int} {pb : Option Nat} {n : Nat} (h : Mid w0 w x none pb) (hn : w.heap.size = n) : Mid w0 (w.alloc zeroO) x (some n) pb := by
  subst hn
  have hb : Below w.heap.size w (w.alloc zeroO) := (Below.refl _ _).alloc (Nat.le_refl _) _
  exact ⟨bstep h.1 hb, fun b e => by injection e with e; subst e; exact ⟨heap_alloc_new w _, h.1.size⟩, fun b e => ownS_below (h.2.2 b e) hb⟩
theorem Mid.p {w0 w : World} {x : Int × Int} {zb : Option Nat} {n : Nat} (h : Mid w0 w x zb none) (hn : w.heap.size = n) : Mid w0 (w.alloc (pinO x)) x zb (some n) := by
  subst hn
  have hb : Below w.heap.size w (w.alloc (pinO x)) := (Below.refl _ _).alloc (Nat.le_refl _) _
  exact ⟨bstep h.1 hb, fun b e => ⟨heap_old hb (h.2.1 b e).1, (h.2.1 b e).2⟩, fun b e => by injection e with e; subst e; exact one_row0P h.1 x⟩
/-- The same with the copied row beside. -/
def Mid2 (w0 w : World) (x : Int × Int) (zb pb : Option Nat) (v : Value) (l : List (Int × Int)) : Prop := Mid w0 w x zb pb ∧ w.ownsRow w0.heap.size 32 2 v l.length (flat2 l) ∧ ∀ b, pb = some b → v.ownBlock ≠ some b
theorem mid_clone {w0 w w' : World} {x : Int × Int} {zb pb : Option Nat} {v : Value} {l : List (Int × Int)} (h : Mid w0 w x zb pb) (ho : w'.ownsRow w.heap.size 32 2 v l.length (flat2 l)) (hb : Below w.heap.size w w') : Mid2 w0 w' x zb pb v l :=
  ⟨h.below hb, own_low ho h.1.size, fun b e => ob_of_lt ho ((h.2.2 b e).lt b rfl).2⟩
theorem Mid2.z {w0 w : World} {x : Int × Int} {pb : Option Nat} {v : Value} {l : List (Int × Int)} {n : Nat} (h : Mid2 w0 w x none pb v l) (hn : w.heap.size = n) : Mid2 w0 (w.alloc zeroO) x (some n) pb v l :=
  ⟨h.1.z hn, h.2.1.alloc _, h.2.2⟩
theorem Mid2.p {w0 w : World} {x : Int × Int} {zb : Option Nat} {v : Value} {l : List (Int × Int)} {n : Nat} (h : Mid2 w0 w x zb none v l) (hn : w.heap.size = n) : Mid2 w0 (w.alloc (pinO x)) x zb (some n) v l :=
  ⟨h.1.p hn, h.2.1.alloc _, fun b e k => by injection e with e; subst e; have := (h.2.1.lt _ k).2; omega⟩
/-- A row of pins does not lie in a cylinder's block. -/
theorem own_no_cyl {w : World} {B n b : Nat} {v : Value} {xs : List Value} (h : w.ownsRow B 32 2 v n xs) (hz : w.heap[b]? = some zeroO) : v.ownBlock ≠ some b := by
  intro e
  rcases h.2 with ⟨rfl, _⟩ | ⟨g, cap, cur, rfl, _, hg, _⟩
  · cases e
  · injection e with e
    subst e
    rw [hz] at hg
    injection hg with hg
    injection hg with _ h2
    exact absurd h2 (by decide)
/-- Behind the insertion. -/
def Mid3 (w0 w : World) (zb : Option Nat) (v : Value) (l : List (Int × Int)) : Prop := Below w0.heap.size w0 w ∧ (∀ b, zb = some b → w.heap[b]? = some zeroO ∧ w0.heap.size ≤ b) ∧ w.ownsRow w0.heap.size 32 2 v l.length (flat2 l)
theorem mid_ins {w0 w : World} {x : Int × Int} {zb : Option Nat} {pb r : Nat} {v : Value} {l M : List (Int × Int)} (h : Mid2 w0 w x zb (some pb) v l) (hl : l.length ≤ 1000) (hr : r ≤ l.length) (hM : l.take r ++ [x] ++ l.drop r = M) :
    Calls Try.prog 69 #[v, .int .i64 (r : Nat), .slice (some ⟨pb, 0, none⟩) 1 1] w fun e w' => ∃ v', e = .returned v' ∧ Mid3 w0 w' zb v' M := by
  refine (insertP_any h.2.1 h.1.1.size (h.1.2.2 pb rfl) (h.2.2 pb rfl) hl hr).mono ?_
  rintro e w' ⟨v', rfl, h1, h2⟩
  rw [hM] at h1
  refine ⟨v', rfl, h.1.1.grown h2 h.1.1.size (fun k hk => (h.2.1.lt k hk).1), fun b e => ?_, h1⟩
  obtain ⟨hz, hle⟩ := h.1.2.1 b e
  refine ⟨?_, hle⟩
  rw [h2.block b (Array.getElem?_eq_some_iff.1 hz).1 (fun k => own_no_cyl h.2.1 hz k.symm)]
  exact hz
theorem Mid3.below {w0 w w' : World} {zb : Option Nat} {v : Value} {l : List (Int × Int)} (h : Mid3 w0 w zb v l) (hb : Below w.heap.size w w') : Mid3 w0 w' zb v l :=
  ⟨bstep h.1 hb, fun b e => ⟨heap_old hb (h.2.1 b e).1, (h.2.1 b e).2⟩, ownS_below h.2.2 hb⟩
theorem Mid3.z {w0 w : World} {v : Value} {l : List (Int × Int)} {n : Nat} (h : Mid3 w0 w none v l) (hn : w.heap.size = n) : Mid3 w0 (w.alloc zeroO) (some n) v l := by
  subst hn
  exact ⟨h.1.alloc h.1.size _, fun b e => by injection e with e; subst e; exact ⟨heap_alloc_new w _, h.1.size⟩, h.2.2.alloc _⟩
theorem Mid3.box {w0 w : World} {b : Nat} {v : Value} {l : List (Int × Int)} (h : Mid3 w0 w (some b) v l) : BoxW w b (.int .i64 0) (.int .i64 0) (.slice none 0 0) := by
  obtain ⟨hz, -⟩ := h.2.1 b rfl
  refine ⟨(Array.getElem?_eq_some_iff.1 hz).1, ⟨?_, ?_, ?_⟩, fun o => ?_⟩ <;> simp [World.cell?, World.frozen?, hz]
theorem Mid3.stored {w0 w : World} {s t : Int} {b : Nat} {v : Value} {l : List (Int × Int)} (h : Mid3 w0 w (some b) v l) :
    Laid w0 (((w.setCell ⟨b, 0, none⟩ (.int .i64 s)).setCell ⟨b, 1, none⟩ (.int .i64 t)).setCell ⟨b, 2, none⟩ v) s t b v l :=
  laid_store h.box h.2.2 (Nat.le_refl _) (own_no_cyl h.2.2 (h.2.1 b rfl).1) h.1 (h.2.1 b rfl).2
theorem Mid3.made {w0 w : World} {s t : Int} {v : Value} {l : List (Int × Int)} (h : Mid3 w0 w none v l) :
    Laid w0 (w.alloc (.cells #[.int .i64 s, .int .i64 t, v] 26)) s t w.heap.size v l := laid_alloc _ h.2.2 (Nat.le_refl _) h.1
theorem Mid3.far {w0 w : World} {s t : Int} {b : Nat} {v u : Value} {l : List (Int × Int)} {a : Addr} (h : Mid3 w0 w (some b) v l) (hc : w0.cell? a = some u) :
    (((w.setCell ⟨b, 0, none⟩ (.int .i64 s)).setCell ⟨b, 1, none⟩ (.int .i64 t)).setCell ⟨b, 2, none⟩ v).cell? a = some u :=
  (set3_cell w b _ _ _ (Nat.ne_of_gt (Nat.lt_of_lt_of_le (World.block_lt_of_cell? _ _ hc) (h.2.1 b rfl).2))).trans (old_cell h.1 hc)
end Go.Proofs.Ytcbdoldcdgaooaa
