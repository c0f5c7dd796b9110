/- The contracts of the laws' own helpers on cylinders: szCylinder, toCylinder, eqCylinder, markCylinder, heldCylinder. No condition. -/
import Derived.Test.YtemhmbaacpfnaaaPins
namespace Go.Proofs.Ytemhmbaacpfnaaa
open Go.ChangeShapes Go.WideShapes Go.ChangeAt Go.RowKit

theorem szCyl_yes {w : World} {n cap : Nat} {a : Option Addr} (s t : Int) (h : n ≤ 1048576) :
    Calls Try.prog 17 #[.agg #[.int .i64 s, .int .i64 t, .slice a n cap], .int .i64 1048576] w fun e w' => ∃ x : Int, 0 ≤ x ∧ e = .returned (.int .i64 x) ∧ Below w.heap.size w w' := by
  go_enter Try.func17, Try.ntmps17
  go_wp2_with fail
  refine (szPin_yes 1048576 (Nat.le_refl _) h).mono ?_
  rintro e w1 ⟨rfl, rfl⟩
  obtain ⟨x, hx⟩ : ∃ x : Nat, x = 1048576 - n := ⟨_, rfl⟩
  rw [← hx]
  have hd : decide ((x : Int) < 0) = false := decide_eq_false (by omega)
  clear hx
  go_wp2
  go_ret
  exact ⟨_, by omega, rfl, (Below.refl _ _).alloc (Nat.le_refl _) _⟩
theorem szCyl_no {w : World} {n cap : Nat} {a : Option Addr} (s t : Int) (h : ¬ n ≤ 1048576) (h3 : n ≤ 9223372036854775807) :
    Calls Try.prog 17 #[.agg #[.int .i64 s, .int .i64 t, .slice a n cap], .int .i64 1048576] w fun e w' => e = .returned (.int .i64 (-1)) ∧ Below w.heap.size w w' := by
  go_enter Try.func17, Try.ntmps17
  go_wp2_with fail
  refine (szPin_no 1048576 (Nat.le_refl _) (by omega) h3).mono ?_
  rintro e w1 ⟨rfl, rfl⟩
  go_wp2
  go_ret
  exact ⟨rfl, (Below.refl _ _).alloc (Nat.le_refl _) _⟩

set_option maxHeartbeats 1000000 in
theorem eqCyl_same {w : World} {v1 v2 : Value} {l : List (Int × Int)} (s t : Int) (h1 : Rd2 w v1 l) (h2 : Rd2 w v2 l) :
    Calls Try.prog 20 #[.agg #[.int .i64 s, .int .i64 t, v1], .agg #[.int .i64 s, .int .i64 t, v2]] w fun e w' => e = .returned (.bool true) ∧ Below w.heap.size w w' := by
  obtain ⟨a1, cap1, rfl⟩ := Rd.slice h1
  obtain ⟨a2, cap2, rfl⟩ := Rd.slice h2
  have hb : ∀ o1 o2, Below w.heap.size w ((w.alloc o1).alloc o2) := fun o1 o2 => ((Below.refl _ _).alloc (Nat.le_refl _) _).alloc (by simp) _
  go_enter Try.func20, Try.ntmps20
  go_wp2_with fail
  refine (eqPins_same (Rd.below h1 (hb _ _)) (Rd.below h2 (hb _ _))).mono ?_
  rintro e w1 ⟨rfl, hb1⟩
  have g1 := bstep (hb _ _) hb1
  clear hb1 hb
  go_wp2
  go_ret
  exact ⟨rfl, g1⟩

theorem markCyl_any {B : Nat} {w : World} {v : Value} {n : Nat} {xs : List Value} (s t : Int) (k0 : Nat) (hn : k0 + n * 2 ≤ 8000000) (hown : w.ownsRow B 34 2 v n xs) :
    Calls Try.prog 21 #[.agg #[.int .i64 s, .int .i64 t, v], .int .i64 (k0 : Int)] w fun e w' => e = .returned (.int .i64 ((k0 + n * 2 : Nat) : Int)) ∧ w.grownBy w' v.ownBlock ∧ ∃ ys, w'.ownsRow B 34 2 v n ys ∧ Mk k0 (n * 2) ys := by
  obtain ⟨a1, cap1, rfl⟩ := ownS_slice hown
  go_enter Try.func21, Try.ntmps21
  go_wp2_with fail
  refine (markPins_any k0 hn (hown.alloc _)).mono ?_
  rintro e w1 ⟨rfl, hg, ys, hy, hmk⟩
  have hg1 := World.grownBy.trans (World.grownBy_alloc w _ _) hg
  have HM := Lib.hid hmk
  clear hmk hg
  go_wp2
  go_ret
  exact ⟨rfl, hg1, ys, hy, HM.out⟩

theorem heldCyl_any {w : World} {v : Value} {n : Nat} {ys : List Value} (s t : Int) (k0 : Nat) (hn : k0 + n * 2 ≤ 8000000) (hr : Rd 2 w v n ys) (hmk : Mk k0 (n * 2) ys) :
    Calls Try.prog 22 #[.agg #[.int .i64 s, .int .i64 t, v], .int .i64 (k0 : Int)] w fun e w' => e = .returned (.int .i64 ((k0 + n * 2 : Nat) : Int)) ∧ Below w.heap.size w w' := by
  obtain ⟨a1, cap1, rfl⟩ := Rd.slice hr
  have HM := Lib.hid hmk
  clear hmk
  have hb : ∀ o, Below w.heap.size w (w.alloc o) := fun o => (Below.refl _ _).alloc (Nat.le_refl _) _
  go_enter Try.func22, Try.ntmps22
  go_wp2_with fail
  refine (heldPins_any k0 hn (Rd.below hr (hb _)) HM.out).mono ?_
  rintro e w1 ⟨rfl, hb1⟩
  have g1 := bstep (hb _) hb1
  obtain ⟨x, hx⟩ : ∃ x : Nat, x = k0 + n * 2 := ⟨_, rfl⟩
  rw [← hx]
  have hd : decide ((x : Int) < 0) = false := decide_eq_false (by omega)
  clear hb1 hb hr
  go_wp2
  go_ret
  exact ⟨rfl, g1⟩

theorem own_low {w : World} {B C e s n : Nat} {v : Value} {xs : List Value} (h : w.ownsRow C e s v n xs) (hB : B ≤ C) : w.ownsRow B e s v n xs := by
  obtain ⟨h0, h⟩ := h
  exact ⟨h0, h.imp id fun ⟨g, cap, cur, hv, hb, r⟩ => ⟨g, cap, cur, hv, Nat.le_trans hB hb, r⟩⟩
theorem own_set {w : World} {C e s n : Nat} {v u : Value} {xs : List Value} {p : Addr} (h : w.ownsRow C e s v n xs) (hp : p.block < C) : (w.setCell p u).ownsRow C e s v n xs := by
  refine h.kept (only_setCell (World.grownBy.refl _ _) (Or.inl rfl) u) ?_
  cases hv : v.ownBlock with
  | none => exact Or.inl rfl
  | some g => exact Or.inr fun e => by have := (h.lt g hv).1; simp at e; omega
/-- A cell of a block that was there, after a call. -/
theorem old_cell {W w : World} (hb : Below W.heap.size W w) {a : Addr} {v : Value} (h : W.cell? a = some v) : w.cell? a = some v := (hb.cell (World.block_lt_of_cell? W _ h)).trans h
theorem old_frozen {W w : World} (hb : Below W.heap.size W w) {b o : Nat} {x : Bool} (hlt : b < W.heap.size) (h : W.frozen? ⟨b, o, none⟩ = x) : w.frozen? ⟨b, o, none⟩ = x := by rw [(bcell hb).2 b o hlt, h]

set_option maxHeartbeats 2000000 in
theorem toCyl_any {w : World} {v : Value} {l : List (Int × Int)} (s t : Int) (h1 : Rd2 w v l) (hl : l.length ≤ 1048576) :
    Calls Try.prog 19 #[.agg #[.int .i64 s, .int .i64 t, v]] w fun e w' => ∃ v', e = .returned (.agg #[.int .i64 s, .int .i64 t, v']) ∧ w'.ownsRow w.heap.size 34 2 v' l.length (flat2 l) ∧ Below w.heap.size w w' := by
  obtain ⟨a1, cap1, rfl⟩ := Rd.slice h1
  go_enter Try.func19, Try.ntmps19
  go_wp2_with fail
  obtain ⟨W, hW⟩ : ∃ W, W = ((w.alloc (.cells #[.int .i64 s, .int .i64 t, .slice a1 l.length cap1] 40)).alloc (.cells #[.int .i64 0, .int .i64 0, .slice none 0 0] 26)).alloc (.cells #[.int .i64 s, .int .i64 t, .slice none 0 0] 26) := ⟨_, rfl⟩
  have hsz : W.heap.size = w.heap.size + 1 + 1 + 1 := by rw [hW]; simp
  have hb : Below w.heap.size w W := by rw [hW]; exact (((Below.refl _ _).alloc (Nat.le_refl _) _).alloc (by simp) _).alloc (by simp; omega) _
  have c0 : W.cell? ⟨w.heap.size + 1 + 1, 0, none⟩ = some (.int .i64 s) := by rw [hW]; simp [go_sem]
  have c1 : W.cell? ⟨w.heap.size + 1 + 1, 1, none⟩ = some (.int .i64 t) := by rw [hW]; simp [go_sem]
  have c2 : W.cell? ⟨w.heap.size + 1 + 1, 2, none⟩ = some (.slice none 0 0) := by rw [hW]; simp [go_sem]
  have d0 : W.cell? ⟨w.heap.size + 1, 0, none⟩ = some (.int .i64 0) := by rw [hW]; simp [go_sem]
  have d1 : W.cell? ⟨w.heap.size + 1, 1, none⟩ = some (.int .i64 0) := by rw [hW]; simp [go_sem]
  have d2 : W.cell? ⟨w.heap.size + 1, 2, none⟩ = some (.slice none 0 0) := by rw [hW]; simp [go_sem]
  have f2 : W.frozen? ⟨w.heap.size + 1 + 1, 2, none⟩ = false := by rw [hW]; simp [go_sem]
  have g0 : W.frozen? ⟨w.heap.size + 1, 0, none⟩ = false := by rw [hW]; simp [go_sem]
  have g1 : W.frozen? ⟨w.heap.size + 1, 1, none⟩ = false := by rw [hW]; simp [go_sem]
  have g2 : W.frozen? ⟨w.heap.size + 1, 2, none⟩ = false := by rw [hW]; simp [go_sem]
  rw [← hW]
  clear hW
  refine (toPins_any (Rd.below h1 hb) hl).mono ?_
  rintro e w2 ⟨v', rfl, ho, hb2⟩
  have c0' := old_cell hb2 c0
  have c1' := old_cell hb2 c1
  have c2' := old_cell hb2 c2
  have d0' := old_cell hb2 d0
  have d1' := old_cell hb2 d1
  have d2' := old_cell hb2 d2
  have f2' := old_frozen hb2 (by omega) f2
  have g0' := old_frozen hb2 (by omega) g0
  have g1' := old_frozen hb2 (by omega) g1
  have g2' := old_frozen hb2 (by omega) g2
  have hB := bstep hb hb2
  have hs2 : w.heap.size + 1 + 1 < w2.heap.size := by have := hb2.size; omega
  clear c0 c1 c2 d0 d1 d2 f2 g0 g1 g2 hb hb2
  obtain ⟨a2, cap2, rfl⟩ := ownS_slice ho
  go_wp2
  refine bodyPost_ret (v := .agg #[.int .i64 s, .int .i64 t, .slice a2 l.length cap2]) ?_ rfl ⟨_, rfl, ?_, ?_⟩
  · have h0 : ((w2.setCell ⟨w.heap.size + 1 + 1, 2, none⟩ (.slice a2 l.length cap2)).setCell ⟨w.heap.size + 1, 0, none⟩ (.int .i64 s)).cell? ⟨w.heap.size + 1, 0, none⟩ = some (.int .i64 s) :=
      World.cell?_setCell_same _ _ _ (u := .int .i64 0) (by rw [World.cell?_setCell_far _ _ _ _ (by simp)]; exact d0')
    have h1 : (((w2.setCell ⟨w.heap.size + 1 + 1, 2, none⟩ (.slice a2 l.length cap2)).setCell ⟨w.heap.size + 1, 0, none⟩ (.int .i64 s)).setCell ⟨w.heap.size + 1, 1, none⟩ (.int .i64 t)).cell? ⟨w.heap.size + 1, 1, none⟩ = some (.int .i64 t) :=
      World.cell?_setCell_same _ _ _ (u := .int .i64 0) (by rw [World.cell?_setCell_other (h := by simp), World.cell?_setCell_far _ _ _ _ (by simp)]; exact d1')
    have h2 : ((((w2.setCell ⟨w.heap.size + 1 + 1, 2, none⟩ (.slice a2 l.length cap2)).setCell ⟨w.heap.size + 1, 0, none⟩ (.int .i64 s)).setCell ⟨w.heap.size + 1, 1, none⟩ (.int .i64 t)).setCell ⟨w.heap.size + 1, 2, none⟩ (.slice a2 l.length cap2)).cell? ⟨w.heap.size + 1, 2, none⟩ = some (.slice a2 l.length cap2) :=
      World.cell?_setCell_same _ _ _ (u := .slice none 0 0) (by rw [World.cell?_setCell_other (h := by simp), World.cell?_setCell_other (h := by simp), World.cell?_setCell_far _ _ _ _ (by simp)]; exact d2')
    simp [results, Try.results19, go_sem, h0, h1, h2]
  · exact own_low (own_set (own_set (own_set (own_set ho (by simp; omega)) (by simp; omega)) (by simp; omega)) (by simp; omega)) (by omega)
  · exact (((hB.setCell (by simp; omega) _).setCell (by simp) _).setCell (by simp) _).setCell (by simp) _
end Go.Proofs.Ytemhmbaacpfnaaa
