/- A set of pitches, a map from int to bool, by its keys: add and remove. No condition. -/
import Derived.Test.YtkciolegfonabaaMissSpec
import Derived.Maps.OwnSet
import Derived.Maps.AppendAt
namespace Go.Proofs.Ytkciolegfonabaa
open Go.ChangeShapes Go.WideShapes Go.ChangeAt Go.RowKit

theorem lawK : Go.Maps.Keyed Try.prog 3 := Go.Maps.int_keyed Try.underlying3
/-- Block b is a map of at most n entries, and its keys are where p says. -/
def PSet (w : World) (b n : Nat) (p : Int → Bool) : Prop := ∃ D : DataW Unit, w.ownsMap Try.prog 3 (plainElem Try.prog 4) b n D ∧ ∀ x, Go.Maps.has D (.int .i64 x) = p x
theorem pset_made (w : World) : PSet (w.alloc (.map #[] 0)) w.heap.size 0 (fun _ => false) := ⟨_, World.ownsMap_made _ _ _ _, fun x => rfl⟩
theorem pset_eq {w : World} {b n m : Nat} {p q : Int → Bool} (h : PSet w b n p) (hn : n ≤ m) (hq : ∀ x, p x = q x) : PSet w b m q := by
  obtain ⟨D, ho, hD⟩ := h
  exact ⟨D, ho.mono hn, fun x => by rw [hD, hq]⟩
theorem pset_below {w w' : World} {b n : Nat} {p : Int → Bool} (h : PSet w b n p) (hb : Below w.heap.size w w') : PSet w' b n p := by
  obtain ⟨D, ho, hD⟩ := h
  exact ⟨D, ho.kept (only_of_below hb none) (by simp), hD⟩
theorem pset_lt {w : World} {b n : Nat} {p : Int → Bool} (h : PSet w b n p) : b < w.heap.size := by
  obtain ⟨D, ho, _⟩ := h; exact ho.lt
theorem has_add {D : DataW Unit} {p : Int → Bool} (hM : Go.Maps.IsMap D) (h : ∀ x, Go.Maps.has D (.int .i64 x) = p x) (y : Int) (d : DataW Unit) (x : Int) : Go.Maps.has (D.put (.int .i64 y) d) (.int .i64 x) = (p x || decide (y = x)) := by
  by_cases hx : y = x
  · subst hx; rw [Go.Maps.has_put_same hM (show WideAt.IsKeyLit (Lit.int .i64 y) from True.intro)]; simp
  · rw [Go.Maps.has_put_other (by intro e; exact hx (by simpa using e.symm)), h]; simp [hx]
theorem has_cut {D : DataW Unit} {p : Int → Bool} (h : ∀ x, Go.Maps.has D (.int .i64 x) = p x) (y : Int) (x : Int) : Go.Maps.has (D.del (.int .i64 y)) (.int .i64 x) = (p x && !(decide (y = x))) := by
  by_cases hx : y = x
  · subst hx; rw [Go.Maps.has_del_same]; simp
  · rw [Go.Maps.has_del_other (by intro e; exact hx (by simpa using e.symm)), h]; simp [hx]

set_option maxHeartbeats 4000000 in
theorem add_any {w0 w : World} {v : Value} {l : List (Int × Int)} {b n : Nat} {p : Int → Bool} (h : Rd2 w0 v l) (hb : Below w0.heap.size w0 w) (hB : w0.heap.size ≤ b) (hs : PSet w b n p) (hn : n + l.length ≤ 2000000)
    (hw : ∀ q ∈ l, (Lit.int .i64 q.2).wf = true) :
    Calls Try.prog 68 #[.map (some b), v] w fun e w' => e = .returned (.tuple #[]) ∧ PSet w' b (n + l.length) (fun x => p x || hasP l x) ∧ Below w0.heap.size w0 w' := by
  obtain ⟨a1, cap1, rfl⟩ := Rd.slice h
  have hm := h.2.1
  unfold maxLen at hm
  have HW := Lib.hid hw; clear hw
  have HS0 := Lib.hid (pset_eq (q := fun x => p x || hasP (l.take 0) x) (m := n + 0) hs (by omega) (fun x => by simp [hasP]))
  clear hs
  go_enter Try.func68, Try.ntmps68
  go_wp2
  go_loopw [8] (fun v8 wr => ∃ j : Nat, j ≤ l.length ∧ v8 = .int .i64 j ∧ Below w0.heap.size w0 wr ∧ Hid (PSet wr b (n + j) (fun x => p x || hasP (l.take j) x))) (fun v8 _ => l.length - (Go.RowKit.intOf v8).toNat)
  case atStart => exact ⟨0, Nat.zero_le _, rfl, hb, HS0⟩
  case round =>
    obtain ⟨j, hj, rfl, hbr, HS⟩ := hrel
    clear HS0 hb
    by_cases hlt : j < l.length
    · obtain ⟨q, hq⟩ : ∃ q, l[j]? = some q := ⟨_, List.getElem?_eq_getElem hlt⟩
      have HP := Lib.hid (fun x => hasP_succ x hq)
      have hwq := HW.out q (List.mem_of_getElem? hq)
      obtain ⟨b1, o1, c1, hv1, x1, y1⟩ := Rd2.cells (Rd.below h hbr) hq
      simp only [Value.slice.injEq, true_and] at hv1
      obtain ⟨rfl, rfl⟩ := hv1
      obtain ⟨D, hown, hD⟩ := HS.out
      have HD := Lib.hid hD
      have HI := Lib.hid hown.isMap
      clear hq hD HS
      go_wp2_with (at_mapUpdate; refine wpList_mapUpdate_own _ rfl _ _ _ 79 rfl 3 4 lawK Try.underlying79 _ b (n + j) D rfl (hown.alloc _) (by unfold maxLen; omega) _ _ _ rfl rfl (Go.Maps.keyOf_int_mk Try.underlying3 hwq) _ [] (plainElem_bool Try.underlying4 true) ?_)
      intro w1 hown1 hgrow1
      have hb1 := (hbr.alloc hbr.size _).grown hgrow1 (by have := hbr.size; simp; omega) (fun k hk => by cases hk; exact hB)
      have HS1 : Hid (PSet w1 b (n + (j + 1)) (fun x => p x || hasP (l.take (j + 1)) x)) := Lib.hid ⟨_, hown1.mono (by omega), fun x => by show _ = (p x || hasP (l.take (j + 1)) x); rw [has_add HI.out HD.out, HP.out, Bool.or_assoc]⟩
      clear hown hown1 hgrow1 x1 y1
      go_wp2
      go_roundw
      case rel => exact ⟨j + 1, by omega, by go_num, hb1, HS1⟩
      case measure => simp [Go.RowKit.intOf]; omega
    · obtain rfl : j = l.length := by omega
      have HS2 := Lib.hid (pset_eq (q := fun x => p x || hasP l x) HS.out (Nat.le_refl _) (fun x => by rw [List.take_length]))
      clear HS
      go_wp2
      go_end0
      exact ⟨rfl, HS2.out, hbr⟩

set_option maxHeartbeats 4000000 in
theorem remove_any {w0 w : World} {v : Value} {c : List Int} {b n : Nat} {p : Int → Bool} (h : Rd1 w0 v c) (hb : Below w0.heap.size w0 w) (hB : w0.heap.size ≤ b) (hs : PSet w b n p)
    (hw : ∀ x ∈ c, (Lit.int .i64 x).wf = true) :
    Calls Try.prog 69 #[.map (some b), v] w fun e w' => e = .returned (.tuple #[]) ∧ PSet w' b n (fun x => p x && !(decide (x ∈ c))) ∧ Below w0.heap.size w0 w' := by
  obtain ⟨a1, cap1, rfl⟩ := Rd.slice h
  have hm := h.2.1
  unfold maxLen at hm
  have HW := Lib.hid hw; clear hw
  have HS0 := Lib.hid (pset_eq (q := fun x => p x && !(decide (x ∈ c.take 0))) (m := n) hs (Nat.le_refl _) (fun x => by simp))
  clear hs
  go_enter Try.func69, Try.ntmps69
  go_wp2
  go_loopw [8] (fun v8 wr => ∃ j : Nat, j ≤ c.length ∧ v8 = .int .i64 j ∧ Below w0.heap.size w0 wr ∧ Hid (PSet wr b n (fun x => p x && !(decide (x ∈ c.take j))))) (fun v8 _ => c.length - (Go.RowKit.intOf v8).toNat)
  case atStart => exact ⟨0, Nat.zero_le _, rfl, hb, HS0⟩
  case round =>
    obtain ⟨j, hj, rfl, hbr, HS⟩ := hrel
    clear HS0 hb
    by_cases hlt : j < c.length
    · obtain ⟨q, hq⟩ : ∃ q, c[j]? = some q := ⟨_, List.getElem?_eq_getElem hlt⟩
      have HP := Lib.hid (show ∀ x, x ∈ c.take (j + 1) ↔ x ∈ c.take j ∨ q = x from fun x => by rw [List.take_add_one, hq]; simp [eq_comm])
      have hwq := HW.out q (List.mem_of_getElem? hq)
      obtain ⟨b1, o1, c1, hv1, x1⟩ := Rd1.cell (Rd.below h hbr) hq
      simp only [Value.slice.injEq, true_and] at hv1
      obtain ⟨rfl, rfl⟩ := hv1
      obtain ⟨D, hown, hD⟩ := HS.out
      have HD := Lib.hid hD
      clear hq hD HS
      go_wp2_with (at_delete; refine wpList_delete_own _ rfl _ _ 79 3 rfl 4 lawK Try.underlying79 _ b n D rfl hown _ _ rfl (Go.Maps.keyOf_int_mk Try.underlying3 hwq) ?_)
      intro w1 hown1 hturn1
      have hb1 := hbr.grown hturn1.grown hbr.size (fun k hk => by cases hk; exact hB)
      have HS1 : Hid (PSet w1 b n (fun x => p x && !(decide (x ∈ c.take (j + 1))))) := Lib.hid ⟨_, hown1, fun x => by
        show _ = (p x && !(decide (x ∈ c.take (j + 1)))); rw [has_cut HD.out, Bool.and_assoc]; congr 1
        by_cases h1 : x ∈ c.take j <;> by_cases h2 : q = x <;> simp [HP.out, h1, h2]⟩
      clear hown hown1 hturn1 x1
      go_wp2
      go_roundw
      case rel => exact ⟨j + 1, by omega, by go_num, hb1, HS1⟩
      case measure => simp [Go.RowKit.intOf]; omega
    · obtain rfl : j = c.length := by omega
      have HS2 := Lib.hid (pset_eq (q := fun x => p x && !(decide (x ∈ c))) HS.out (Nat.le_refl _) (fun x => by rw [List.take_length]))
      clear HS
      go_wp2
      go_end0
      exact ⟨rfl, HS2.out, hbr⟩
end Go.Proofs.Ytkciolegfonabaa
