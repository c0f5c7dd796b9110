/- The contracts of the program's order of notes: cmp.Compare, cmp.Or, compareNotes, noteOk, TuneOk. No condition. -/
import Derived.Test.YtcbdoldcdgaooaaTuneSpec2
import Derived.Sort.Grow
import Derived.Shelf.SlSortCmp.QuietGrown
namespace Go.Proofs.Ytcbdoldcdgaooaa
open Go.ChangeShapes Go.WideShapes Go.ChangeAt Go.RowKit

/-- Draws and new blocks, nothing else. -/
def Gr (w w' : World) : Prop := ∃ q os, w' = Sort.grow (w.drewN q) os
theorem Gr.below {w w' : World} (h : Gr w w') : Below w.heap.size w w' := by
  obtain ⟨q, os, rfl⟩ := h
  exact ⟨rfl, rfl, rfl, by show w.heap.size ≤ (w.heap ++ os).size; simp, fun k hk => by show (w.heap ++ os)[k]? = _; simp [Array.getElem?_append, hk]⟩
theorem gr_of_below {w w' : World} (h : Below w.heap.size w w') (hd : w.drawn ≤ w'.drawn) : Gr w w' := by
  refine ⟨w'.drawn - w.drawn, w'.heap.extract w.heap.size w'.heap.size, ?_⟩
  have h1 := h.os; have h2 := h.tape; have h3 := h.output; have h4 := h.size; have h5 := h.block
  obtain ⟨hp, tp, dr, os, out⟩ := w
  obtain ⟨hp', tp', dr', os', out'⟩ := w'
  simp only at h1 h2 h3 h4 h5 hd ⊢
  subst h1 h2 h3
  have e1 : dr + (dr' - dr) = dr' := by omega
  have e2 : hp ++ hp'.extract hp.size hp'.size = hp' := by
    apply Array.ext_getElem?
    intro k
    by_cases hk : k < hp.size
    · rw [Array.getElem?_append_left hk, h5 k hk]
    · rw [Array.getElem?_append_right (by omega), Array.getElem?_extract]
      by_cases hk2 : k < hp'.size
      · rw [if_pos (by omega)]; congr 1; omega
      · rw [if_neg (by omega), Array.getElem?_eq_none (by omega)]
  show ({ heap := hp', tape := tp', drawn := dr', os := os', output := out' } : World) = { heap := hp ++ hp'.extract hp.size hp'.size, tape := tp', drawn := dr + (dr' - dr), os := os', output := out' }
  rw [e1, e2]

def cmpI (x y : Int) : Int := if x < y then -1 else if y < x then 1 else 0
def orI (x y : Int) : Int := if x = 0 then y else x
def cmpN (p q : Int × Int) : Int := orI (cmpI p.1 q.1) (cmpI p.2 q.2)
theorem cmpI_zero {x y : Int} : cmpI x y = 0 ↔ x = y := by unfold cmpI; split <;> (try split) <;> omega
theorem cmpI_bd (x y : Int) : -1 ≤ cmpI x y ∧ cmpI x y ≤ 1 := by unfold cmpI; split <;> (try split) <;> omega
theorem cmpN_lt {p q : Int × Int} : cmpN p q < 0 ↔ lessB p q = true := by
  unfold cmpN orI cmpI lessB
  simp only [decide_eq_true_eq]
  repeat' split
  all_goals omega
theorem cmpN_ge {p q : Int × Int} : 0 ≤ cmpN p q ↔ lessB p q = false := by
  rw [← Bool.not_eq_true, ← cmpN_lt]; omega
theorem cmpN_zero {p q : Int × Int} : cmpN p q = 0 ↔ p = q := by
  obtain ⟨a, b⟩ := p; obtain ⟨c, d⟩ := q
  unfold cmpN orI cmpI
  simp only [Prod.mk.injEq]
  repeat' split
  all_goals omega
theorem cmpN_bd (p q : Int × Int) : -1 ≤ cmpN p q ∧ cmpN p q ≤ 1 := by
  unfold cmpN orI; split
  · exact cmpI_bd _ _
  · exact cmpI_bd _ _

theorem ret_i {a b : Int} (h : a = b) : Ending.returned (.int .i64 a) = .returned (.int .i64 b) := by rw [h]

theorem compare_any (x y : Int) (w : World) :
    Calls Try.prog 108 #[.int .i64 x, .int .i64 y] w fun e w' => e = .returned (.int .i64 (cmpI x y)) ∧ w' = w := by
  by_cases h1 : x < y
  · go_enter Try.func108, Try.ntmps108
    go_wp2
    go_ret
    exact ⟨ret_i (by unfold cmpI; rw [if_pos h1]), rfl⟩
  · by_cases h2 : y < x
    · go_enter Try.func108, Try.ntmps108
      go_wp2
      go_ret
      exact ⟨ret_i (by unfold cmpI; rw [if_neg (by omega), if_pos h2]), rfl⟩
    · go_enter Try.func108, Try.ntmps108
      go_wp2
      go_ret
      exact ⟨ret_i (by unfold cmpI; rw [if_neg (by omega), if_neg (by omega)]), rfl⟩

theorem or2_any {w : World} {b : Nat} (x y : Int) (hx : w.cell? ⟨b, 0, none⟩ = some (.int .i64 x)) (hy : w.cell? ⟨b, 1, none⟩ = some (.int .i64 y)) :
    Calls Try.prog 107 #[.slice (some ⟨b, 0, none⟩) 2 2] w fun e w' => e = .returned (.int .i64 (orI x y)) ∧ w' = w := by
  by_cases h1 : x = 0
  · subst h1
    by_cases h2 : y = 0
    · subst h2
      go_enter Try.func107, Try.ntmps107
      go_wp2
      refine wp_loop_rounds 3 ?_
      rw [rounds_succ]; go_wp2
      rw [rounds_succ]; go_wp2
      rw [rounds_succ]; go_wp2
      go_ret
      exact ⟨rfl, rfl⟩
    · have h2' : (y == 0) = false := by simpa using h2
      go_enter Try.func107, Try.ntmps107
      go_wp2
      refine wp_loop_rounds 3 ?_
      rw [rounds_succ]; go_wp2
      rw [rounds_succ]; go_wp2
      go_ret
      exact ⟨rfl, rfl⟩
  · have h1' : (x == 0) = false := by simpa using h1
    go_enter Try.func107, Try.ntmps107
    go_wp2
    refine wp_loop_rounds 3 ?_
    rw [rounds_succ]; go_wp2
    go_ret
    exact ⟨ret_i (show x = orI x y by unfold orI; rw [if_neg h1]), rfl⟩

theorem cell_new (W : World) (vs : Array Value) (t : TypeId) (k : Nat) : (W.alloc (.cells vs t)).drew.cell? ⟨W.heap.size, k, none⟩ = vs[k]? :=
  World.cell?_alloc_mark W vs t (0, 0) k
theorem or2_new (W : World) (n : Nat) (t : TypeId) (x y : Int) (hn : n = W.heap.size) :
    Calls Try.prog 107 #[.slice (some ⟨n, 0, none⟩) 2 2] (W.alloc (.cells #[.int .i64 x, .int .i64 y] t)).drew fun e w' => e = .returned (.int .i64 (orI x y)) ∧ w' = (W.alloc (.cells #[.int .i64 x, .int .i64 y] t)).drew := by
  subst hn
  exact or2_any x y (cell_new W _ t 0) (cell_new W _ t 1)
theorem size2 (w : World) (a b : Obj) : w.heap.size + 1 + 1 = ((w.alloc a).alloc b).heap.size := by simp

theorem comp_any (p q : Int × Int) (w : World) :
    Calls Try.prog 114 #[.agg #[.int .i64 p.1, .int .i64 p.2], .agg #[.int .i64 q.1, .int .i64 q.2]] w fun e w' => e = .returned (.int .i64 (cmpN p q)) ∧ Gr w w' := by
  obtain ⟨a, b⟩ := p
  obtain ⟨c, d⟩ := q
  have hgr : ∀ x y z : Obj, Gr w ((((w.alloc x).alloc y).alloc z).drew) := fun x y z => gr_of_below (Below.drew (((Below.refl _ _).alloc (Nat.le_refl _) _).alloc (by simp) _ |>.alloc (by simp; omega) _)) (Nat.le_succ _)
  have HG := Lib.hid hgr; clear hgr
  go_enter Try.func114, Try.ntmps114
  go_wp2_with fail
  go_region_held3 (fun w' => w'.cell? ⟨w.heap.size, 0, none⟩ = some (.int .i64 a) ∧ w'.cell? ⟨w.heap.size, 1, none⟩ = some (.int .i64 b) ∧ w'.cell? ⟨w.heap.size + 1, 0, none⟩ = some (.int .i64 c) ∧ w'.cell? ⟨w.heap.size + 1, 1, none⟩ = some (.int .i64 d)) (go_keep)
    (first
      | (go_at_call 108; refine (compare_any _ _ _).mono ?_; rintro e w1 ⟨rfl, rfl⟩)
      | (go_at_call 107; refine (or2_new _ _ _ _ _ (size2 _ _ _)).mono ?_; rintro e w1 ⟨rfl, rfl⟩))
  all_goals
    go_wp2
    go_ret
    exact ⟨rfl, HG.out _ _ _⟩

def nOkB (p : Int × Int) : Bool := inB p.1 0 1000 && inB p.2 0 60
theorem nOkB_true {p : Int × Int} : nOkB p = true ↔ (0 ≤ p.1 ∧ p.1 ≤ 1000) ∧ (0 ≤ p.2 ∧ p.2 ≤ 60) := by unfold nOkB inB; simp
theorem nOkB_false {p : Int × Int} : nOkB p = false ↔ ¬ ((0 ≤ p.1 ∧ p.1 ≤ 1000) ∧ (0 ≤ p.2 ∧ p.2 ≤ 60)) := by rw [← nOkB_true]; simp

theorem pitok_any (x : Int) (w : World) :
    Calls Try.prog 141 #[.int .i64 x] w fun e w' => e = .returned (.bool (inB x 0 60)) ∧ w = w' := by
  by_cases h1 : 0 ≤ x <;> by_cases h2 : x ≤ 60
  all_goals
    go_enter Try.func141, Try.ntmps141
    go_wp2
    go_ret
    exact ⟨by unfold inB; simp; omega, rfl⟩

theorem noteok_any (p : Int × Int) (w : World) :
    Calls Try.prog 113 #[.agg #[.int .i64 p.1, .int .i64 p.2]] w fun e w' => e = .returned (.bool (nOkB p)) ∧ Gr w w' := by
  obtain ⟨a, b⟩ := p
  have hb : ∀ x : Obj, Gr w (w.alloc x) := fun x => gr_of_below ((Below.refl _ _).alloc (Nat.le_refl _) _) (Nat.le_refl _)
  have HB := Lib.hid hb; clear hb
  have HP := Lib.hid (fun W : World => pitok_any b W)
  generalize hB60 : inB b 0 60 = B at HP
  by_cases h1 : 0 ≤ a <;> by_cases h2 : a ≤ 1000
  all_goals try (exfalso; omega)
  all_goals
    have e := (rfl : nOkB (a, b) = nOkB (a, b))
    conv at e => rhs; unfold nOkB; unfold inB
    have hB' : decide (0 ≤ b ∧ b ≤ 60) = B := hB60
    simp only [hB', h1, h2, and_true, and_false, true_and, false_and, decide_true, decide_false, Bool.and_true, Bool.and_false, Bool.true_and, Bool.false_and] at e
    have HE := Lib.hid e; clear e hB' hB60
    cases B
    all_goals
      go_enter Try.func113, Try.ntmps113
      first
        | (go_wp2_with fail; refine (HP.out _).mono ?_; rintro e w1 ⟨rfl, rfl⟩; go_wp2; go_ret; exact ⟨by rw [HE.out]; rfl, HB.out _⟩)
        | (go_wp2; go_ret; exact ⟨by rw [HE.out]; rfl, HB.out _⟩)

theorem noteok_yes {p : Int × Int} (h : nOkB p = true) (w : World) :
    Calls Try.prog 113 #[.agg #[.int .i64 p.1, .int .i64 p.2]] w fun e w' => e = .returned (.bool true) ∧ Gr w w' :=
  (noteok_any p w).mono fun _ _ ⟨he, hb⟩ => ⟨by rw [he, h], hb⟩
theorem noteok_no {p : Int × Int} (h : nOkB p = false) (w : World) :
    Calls Try.prog 113 #[.agg #[.int .i64 p.1, .int .i64 p.2]] w fun e w' => e = .returned (.bool false) ∧ Gr w w' :=
  (noteok_any p w).mono fun _ _ ⟨he, hb⟩ => ⟨by rw [he, h], hb⟩

theorem cell0 (W : World) (vs : Array Value) (t : TypeId) (k : Nat) : (W.alloc (.cells vs t)).cell? ⟨W.heap.size, k, none⟩ = vs[k]? :=
  World.cell?_alloc_mark W vs t (0, 0) k
theorem grown_gr {P : Program} {f : FuncId} {args : Array Value} {w : World} {n : Nat} {os : Array Obj} {v : Value}
    (h : Calls P f args (Sort.grow (w.drewN n) os) fun e w' => e = .returned v ∧ Gr (Sort.grow (w.drewN n) os) w') : Calls P f args (Sort.grow (w.drewN n) os) fun e w'' => e = .returned v ∧ ∃ p : GrownBy, w'' = Sort.grow (w.drewN p.n) p.os :=
  Calls.grown_of h
end Go.Proofs.Ytcbdoldcdgaooaa
