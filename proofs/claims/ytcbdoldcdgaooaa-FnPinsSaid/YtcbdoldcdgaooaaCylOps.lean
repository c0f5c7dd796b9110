/- The contracts of the laws' own helpers on cylinders: szCylinder, toCylinder, eqCylinder, markCylinder, heldCylinder. No condition. -/
import Derived.Test.YtcbdoldcdgaooaaPins
namespace Go.Proofs.Ytcbdoldcdgaooaa
open Go.ChangeShapes Go.WideShapes Go.ChangeAt Go.RowKit

set_option maxHeartbeats 1000000 in
theorem eqCyl_same {w : World} {v1 v2 : Value} {l : List (Int × Int)} (s t : Int) (h1 : Rd2 w v1 l) (h2 : Rd2 w v2 l) :
    Calls Try.prog 26 #[.agg #[.int .i64 s, .int .i64 t, v1], .agg #[.int .i64 s, .int .i64 t, v2]] w fun e w' => e = .returned (.bool true) ∧ Below w.heap.size w w' := by
  obtain ⟨a1, cap1, rfl⟩ := Rd.slice h1
  obtain ⟨a2, cap2, rfl⟩ := Rd.slice h2
  have hb : ∀ o1 o2, Below w.heap.size w ((w.alloc o1).alloc o2) := fun o1 o2 => ((Below.refl _ _).alloc (Nat.le_refl _) _).alloc (by simp) _
  go_enter Try.func26, Try.ntmps26
  go_wp2_with fail
  refine (eqPins_same (Rd.below h1 (hb _ _)) (Rd.below h2 (hb _ _))).mono ?_
  rintro e w1 ⟨rfl, hb1⟩
  have g1 := bstep (hb _ _) hb1
  clear hb1 hb
  go_wp2
  go_ret
  exact ⟨rfl, g1⟩

theorem markCyl_any {B : Nat} {w : World} {v : Value} {n : Nat} {xs : List Value} (s t : Int) (k0 : Nat) (hn : k0 + n * 2 ≤ 8000000) (hown : w.ownsRow B 32 2 v n xs) :
    Calls Try.prog 31 #[.agg #[.int .i64 s, .int .i64 t, v], .int .i64 (k0 : Int)] w fun e w' => e = .returned (.int .i64 ((k0 + n * 2 : Nat) : Int)) ∧ w.grownBy w' v.ownBlock ∧ ∃ ys, w'.ownsRow B 32 2 v n ys ∧ Mk k0 (n * 2) ys := by
  obtain ⟨a1, cap1, rfl⟩ := ownS_slice hown
  go_enter Try.func31, Try.ntmps31
  go_wp2_with fail
  refine (markPins_any k0 hn (hown.alloc _)).mono ?_
  rintro e w1 ⟨rfl, hg, ys, hy, hmk⟩
  have hg1 := World.grownBy.trans (World.grownBy_alloc w _ _) hg
  have HM := Lib.hid hmk
  clear hmk hg
  go_wp2
  go_ret
  exact ⟨rfl, hg1, ys, hy, HM.out⟩

theorem heldCyl_any {w : World} {v : Value} {n : Nat} {ys : List Value} (s t : Int) (k0 : Nat) (hn : k0 + n * 2 ≤ 8000000) (hr : Rd 2 w v n ys) (hmk : Mk k0 (n * 2) ys) :
    Calls Try.prog 32 #[.agg #[.int .i64 s, .int .i64 t, v], .int .i64 (k0 : Int)] w fun e w' => e = .returned (.int .i64 ((k0 + n * 2 : Nat) : Int)) ∧ Below w.heap.size w w' := by
  obtain ⟨a1, cap1, rfl⟩ := Rd.slice hr
  have HM := Lib.hid hmk
  clear hmk
  have hb : ∀ o, Below w.heap.size w (w.alloc o) := fun o => (Below.refl _ _).alloc (Nat.le_refl _) _
  go_enter Try.func32, Try.ntmps32
  go_wp2_with fail
  refine (heldPins_any k0 hn (Rd.below hr (hb _)) HM.out).mono ?_
  rintro e w1 ⟨rfl, hb1⟩
  have g1 := bstep (hb _) hb1
  obtain ⟨x, hx⟩ : ∃ x : Nat, x = k0 + n * 2 := ⟨_, rfl⟩
  rw [← hx]
  have hd : decide ((x : Int) < 0) = false := decide_eq_false (by omega)
  clear hb1 hb hr
  go_wp2
  go_ret
  exact ⟨rfl, g1⟩

theorem own_low {w : World} {B C e s n : Nat} {v : Value} {xs : List Value} (h : w.ownsRow C e s v n xs) (hB : B ≤ C) : w.ownsRow B e s v n xs := by
  obtain ⟨h0, h⟩ := h
  exact ⟨h0, h.imp id fun ⟨g, cap, cur, hv, hb, r⟩ => ⟨g, cap, cur, hv, Nat.le_trans hB hb, r⟩⟩
theorem own_set {w : World} {C e s n : Nat} {v u : Value} {xs : List Value} {p : Addr} (h : w.ownsRow C e s v n xs) (hp : p.block < C) : (w.setCell p u).ownsRow C e s v n xs := by
  refine h.kept (only_setCell (World.grownBy.refl _ _) (Or.inl rfl) u) ?_
  cases hv : v.ownBlock with
  | none => exact Or.inl rfl
  | some g => exact Or.inr fun e => by have := (h.lt g hv).1; simp at e; omega
/-- A cell of a block that was there, after a call. -/
theorem old_cell {W w : World} (hb : Below W.heap.size W w) {a : Addr} {v : Value} (h : W.cell? a = some v) : w.cell? a = some v := (hb.cell (World.block_lt_of_cell? W _ h)).trans h
theorem old_frozen {W w : World} (hb : Below W.heap.size W w) {b o : Nat} {x : Bool} (hlt : b < W.heap.size) (h : W.frozen? ⟨b, o, none⟩ = x) : w.frozen? ⟨b, o, none⟩ = x := by rw [(bcell hb).2 b o hlt, h]

end Go.Proofs.Ytcbdoldcdgaooaa
