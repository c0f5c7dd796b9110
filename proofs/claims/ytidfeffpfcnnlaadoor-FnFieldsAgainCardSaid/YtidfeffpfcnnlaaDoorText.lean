/- The contracts of the draws' texts: l01Text, l01Long, l01Pick. No condition. -/
import Derived.Test.YtidfeffpfcnnlaaDoorBytes
import Derived.Test.YtidfeffpfcnnlaaDoorDraw
namespace Go.Proofs.YtidfeffpfcnnlaaDoor
open Go.ChangeShapes Go.WideShapes Go.ChangeAt Go.RowKit

/-- A string of at most m bytes. -/
def Texted (P : TypeId) (B c : Nat) (w : World) (m : Nat) (e : Ending) (w' : World) : Prop :=
  ∃ s : ByteArray, s.size ≤ m ∧ e = .returned (.string s) ∧ w.grownBy w' (some c) ∧ Cur P B w' c

theorem only_below {a w w1 : World} {row : Option Nat} (h : a.grownBy w row) (hb : Below w.heap.size w w1) : a.grownBy w1 row := only_trans h (only_of_below hb row)

theorem own_only {w w1 : World} {B c : Nat} {e : TypeId} {v : Value} {n : Nat} {xs : List Value} (h : w.ownsRow B e 1 v n xs) (hg : w.grownBy w1 (some c)) (hlt : c < B) : w1.ownsRow B e 1 v n xs :=
  h.kept hg (by
    cases hv : v.ownBlock with
    | none => exact Or.inl rfl
    | some b => exact Or.inr (by intro e; have := (h.lt b hv).1; injection e; omega))
/-- The cursor's block, and a row from the call's own blocks, alone are written. -/
theorem only_own {w w1 w2 : World} {c : Nat} {row : Option Nat} (h : w.grownBy w1 (some c)) (hg : w1.grownBy w2 row) (hrow : ∀ j, row = some j → w.heap.size ≤ j) : w.grownBy w2 (some c) :=
  ⟨hg.os.trans h.os, hg.tape.trans h.tape, hg.output.trans h.output, Nat.le_trans h.size hg.size, fun k hk hne =>
    (hg.block k (Nat.lt_of_lt_of_le hk h.size) (fun e => by have := hrow k e.symm; omega)).trans (h.block k hk hne)⟩

set_option maxHeartbeats 1000000 in
theorem text_any {B c : Nat} {w : World} (n : Nat) (hn : n ≤ 5000) (hC : Cur 54 B w c) :
    Calls Tryd.prog 25 #[.pointer (some ⟨c, 0, none⟩), .int .i64 (n : Int)] w (Texted 54 B c w 5000) := by
  obtain ⟨i0, hi, hz0, hz1, hz2⟩ := info_parts info5
  have hcl := hC.lt
  have hBc := hC.1
  go_enter Tryd.func25, Tryd.ntmps25
  go_wp2
  go_loopw [5, 6] (fun v5 v6 wr => ∃ (k : Nat) (xs : List Int), k ≤ n ∧ v6 = .int .i64 k ∧ wr.ownsRow w.heap.size 5 1 v5 k (xs.map (Value.int .u8)) ∧ w.grownBy wr (some c) ∧ Cur 54 B wr c)
    (fun _ v6 _ => n - (intOf v6).toNat)
  case atStart => exact ⟨0, [], Nat.zero_le _, rfl, World.ownsRow_made w #[] 0 (Nat.le_refl _) (by simp) rfl, only_alloc (World.grownBy.refl _ _) _, hC.kept (World.grownBy_alloc w _ none) (by intro r hr; cases hr)⟩
  case round =>
    obtain ⟨k, xs, hk, rfl, hown, hg, hC1⟩ := hrel
    by_cases hlt : k < n
    · go_wp2_with fail
      refine (byte_any hC1).mono ?_
      rintro e w1 ⟨x, hx0, hx1, rfl, hg1, hC2⟩
      have hown1 := own_only hown hg1 hcl
      have hg2 := only_trans hg hg1
      clear hown hg hg1 hC1
      have hxl : xs.length = k := by simpa using hown1.1
      have HXL := Lib.hid hxl; clear hxl
      go_wp2_with (at_builtin; refine wpList_append_own _ rfl _ _ 22 rfl w.heap.size 5 i0 (.int .u8 0) 1 1 Tryd.underlying22 hi hz0 hz1 hz2 rfl (by decide) _ k _ rfl (hown1.alloc _) ⟨w1.heap.size, 0, none⟩ 1 1 [.int .u8 x] rfl rfl ?c1 ?c2 ?c3 ?c4 ?c5 ?_)
      case c1 => first | exact World.news_of_block (heap_alloc_new w1 _) | exact fun _ _ h => h
      case c2 => simp [Value.oneCell']
      case c3 => unfold maxLen; omega
      case c4 => omega
      case c5 => have := hg2.size; simp; omega
      intro v' w2 hown2 hgrow _
      have hg3 := only_own (only_alloc hg2 _) hgrow (fun j hj => (hown1.lt j hj).1)
      have hC3 := (hC2.kept (World.grownBy_alloc w1 _ none) (by intro r hr; cases hr)).kept hgrow (fun j hj => by have := (hown1.lt j hj).1; omega)
      have hown3 : w2.ownsRow w.heap.size 5 1 v' (k + 1) ((xs ++ [x]).map (Value.int .u8)) := by rw [List.map_append]; exact hown2
      clear hown1 hown2 hgrow hg2 hC2
      go_wp2
      go_roundw
      case rel => exact ⟨k + 1, xs ++ [x], by omega, by go_num, hown3, hg3, hC3⟩
      case measure => simp [intOf]; omega
    · obtain rfl : k = n := by omega
      have hxl : xs.length = k := by simpa using hown.1
      have hcv := convert_own (P := Tryd.prog) Tryd.underlying22 Tryd.underlying5 hown 9 Tryd.underlying9
      have HXL := Lib.hid hxl; clear hxl
      go_wp2
      go_ret
      exact ⟨_, by rw [strOfNums_size]; have := HXL.out; omega, rfl, hg, hC1⟩

/-- A string of n bytes, all new. -/
def Longed (w : World) (n : Nat) (e : Ending) (w' : World) : Prop :=
  ∃ s : ByteArray, s.size = n ∧ e = .returned (.string s) ∧ Below w.heap.size w w'

set_option maxHeartbeats 1000000 in
theorem long_any {w : World} (n : Nat) (hn : n ≤ 8000000) (x : Int) :
    Calls Tryd.prog 23 #[.int .i64 (n : Int), .int .u8 x] w (Longed w n) := by
  obtain ⟨i0, hi, hz0, hz1, hz2⟩ := info_parts info5
  go_enter Tryd.func23, Tryd.ntmps23
  go_wp2_with (at_make; refine wpList_make_full _ rfl _ _ 22 rfl w.heap.size 5 i0 (.int .u8 0) 1 Tryd.underlying22 hi hz0 hz1 _ _ _ _ n rfl rfl (by omega) (by omega) (by rw [hz2]; omega) (by unfold maxLen; omega) (Nat.le_refl _) ?_)
  intro w1 hown hgrow
  have hb1 : Below w.heap.size w w1 := (Below.refl _ _).grown hgrow (Nat.le_refl _) (by intro k hk; cases hk)
  have hown0 : w1.ownsRow w.heap.size 5 1 (.slice (some ⟨w.heap.size, 0, none⟩) n n) n ((List.replicate n (0 : Int)).map (Value.int .u8)) := by
    rw [List.map_replicate, ← toList_madeCells_one]; simpa using hown
  clear hown hgrow
  go_wp2_with fail
  go_loopw [6] (fun v6 wr => ∃ (k : Nat) (xs : List Int), k ≤ n ∧ v6 = .int .i64 k ∧ wr.ownsRow w.heap.size 5 1 (.slice (some ⟨w.heap.size, 0, none⟩) n n) n (xs.map (Value.int .u8)) ∧ Below w.heap.size w wr)
    (fun v6 _ => n - (intOf v6).toNat)
  case atStart => exact ⟨0, _, Nat.zero_le _, rfl, hown0, hb1⟩
  case round =>
    obtain ⟨k, xs, hk, rfl, hown1, hbr⟩ := hrel
    clear hown0 hb1
    have hxl : xs.length = n := by simpa using hown1.1
    have HXL := Lib.hid hxl; clear hxl
    by_cases hlt : k < n
    · obtain ⟨y, hy⟩ : ∃ y, xs[k]? = some y := ⟨_, List.getElem?_eq_getElem (by rw [HXL.out]; exact hlt)⟩
      have hcell : wr.cell? ⟨w.heap.size, k, none⟩ = some (.int .u8 y) := by rw [hown1.cellAt k (by omega), List.getElem?_map, hy]; rfl
      have HY := Lib.hid hy; clear hy
      have hfz := hown1.frozenAt k
      have hst := hown1.stored k (.int .u8 x)
      rw [← List.map_set] at hst
      obtain ⟨h1, h2⟩ := hst
      have hb2 : Below w.heap.size w (wr.setCell ⟨w.heap.size, k, none⟩ (.int .u8 x)) := hbr.setCell (Nat.le_refl _) _
      have H1 := Lib.hid h1; clear h1 h2 hown1
      go_wp2
      go_roundw
      case rel => exact ⟨k + 1, _, by omega, by go_num, H1.out, hb2⟩
      case measure => simp [intOf]; omega
    · obtain rfl : k = n := by omega
      have hcv := convert_own (P := Tryd.prog) Tryd.underlying22 Tryd.underlying5 hown1 9 Tryd.underlying9
      go_wp2
      go_ret
      exact ⟨_, by rw [strOfNums_size]; exact HXL.out, rfl, hbr⟩
end Go.Proofs.YtidfeffpfcnnlaaDoor
