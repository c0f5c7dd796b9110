/- Rows of rows of ints: made, kept, one row of two ints more. No condition. -/
import Derived.Test.YtpdjceafjdlknaaNestI
import Derived.Test.YtpdjceafjdlknaaBoxKit
import Derived.Maps.AppendAt
namespace Go.Proofs.Ytpdjceafjdlknaa
open Go.ChangeShapes Go.WideShapes Go.ChangeAt Go.RowKit

theorem infoIS : (Try.prog.info? 34).map (fun i => (i.zero, i.size, i.bytes)) = some (some (.slice none 0 0), 1, 24) := by kernel_rfl
theorem OwI.nil {lo : Nat} {w : World} {v : Value} (h : w.ownsRow lo 34 1 v 0 []) : OwI lo w.heap.size w v [] [] :=
  ⟨rfl, h, fun g hg => (h.lt g hg).2, fun i u l hu => by simp at hu, fun i j u t g hu => by simp at hu⟩
theorem OwI.low {lo lo' hi : Nat} {w : World} {v : Value} {us : List Value} {ll : List (List Int)} (h : OwI lo hi w v us ll) (h0 : lo' ≤ lo) : OwI lo' hi w v us ll :=
  ⟨h.1, own_low h.2.1 h0, h.2.2.1, fun i u l hu hl => ⟨own_low (h.2.2.2.1 i u l hu hl).1 h0, (h.2.2.2.1 i u l hu hl).2⟩, h.2.2.2.2⟩
theorem OwI.step {lo : Nat} {a b : World} {v : Value} {us : List Value} {ll : List (List Int)} (h : OwI lo a.heap.size a v us ll) (k : Below a.heap.size a b) : OwI lo b.heap.size b v us ll := by
  have h' := h.below k
  have hs := k.size
  exact ⟨h'.1, h'.2.1, fun g hg => Nat.lt_of_lt_of_le (h'.2.2.1 g hg) hs, fun i u l hu hl => ⟨(h'.2.2.2.1 i u l hu hl).1, fun g hg => ⟨Nat.lt_of_lt_of_le ((h'.2.2.2.1 i u l hu hl).2 g hg).1 hs, ((h'.2.2.2.1 i u l hu hl).2 g hg).2⟩⟩, h'.2.2.2.2⟩
/-- A row of two ints, and the cell that holds it. -/
def twoW (a : World) (x y : Int) : World := (a.alloc (.cells #[.int .i64 x, .int .i64 y] 3)).alloc (.cells #[.slice (some ⟨a.heap.size, 0, none⟩) 2 2] 34)
theorem twoW_size (a : World) (x y : Int) : (twoW a x y).heap.size = a.heap.size + 2 := by unfold twoW; simp
theorem twoW_below (a : World) (x y : Int) : Below a.heap.size a (twoW a x y) := by
  unfold twoW; exact ((Below.refl _ _).alloc (Nat.le_refl _) _).alloc (by simp) _
theorem twoW_row (a : World) (x y : Int) : (twoW a x y).ownsRow a.heap.size 3 1 (.slice (some ⟨a.heap.size, 0, none⟩) 2 2) 2 ([x, y].map intV) := by
  have h : (a.alloc (.cells #[.int .i64 x, .int .i64 y] 3)).ownsRow a.heap.size 3 1 (.slice (some ⟨a.heap.size, 0, none⟩) 2 2) 2 ([x, y].map intV) :=
    ⟨rfl, .inr ⟨a.heap.size, 2, _, rfl, Nat.le_refl _, heap_alloc_new a _, Nat.le_refl _, by unfold maxLen; omega, rfl, rfl⟩⟩
  exact h.alloc _
theorem two_cell (a : World) (x y : Int) : ∀ j u, [(.slice (some ⟨a.heap.size, 0, none⟩) 2 2 : Value)][j]? = some u → (twoW a x y).cell? ((⟨a.heap.size + 1, 0, none⟩ : Addr).add j) = some u := by
  have := cell_one_new (a.alloc (.cells #[.int .i64 x, .int .i64 y] 3)) (.slice (some ⟨a.heap.size, 0, none⟩) 2 2) 34
  rw [size_alloc] at this
  exact this
theorem push_two {lo : Nat} {a c : World} {v v' : Value} {us : List Value} {ll : List (List Int)} {x y : Int} (h : OwI lo a.heap.size a v us ll) (hlo : lo ≤ a.heap.size)
    (ho : c.ownsRow lo 34 1 v' (us.length + 1) (us ++ [.slice (some ⟨a.heap.size, 0, none⟩) 2 2])) (hg : (twoW a x y).grownBy c v.ownBlock) (hat : v'.ownBlock = v.ownBlock ∨ v'.ownBlock = some (twoW a x y).heap.size) :
    OwI lo c.heap.size c v' (us ++ [.slice (some ⟨a.heap.size, 0, none⟩) 2 2]) (ll ++ [[x, y]]) :=
  h.push (Nat.le_refl _) hlo (twoW_below a x y) (twoW_row a x y) (by simp [Value.ownBlock]) ho hg hat
theorem two_below {w a c : World} {B lo : Nat} {v : Value} {us : List Value} {ll : List (List Int)} {x y : Int} (hb : Below B w a) (h : OwI lo a.heap.size a v us ll) (hB : B ≤ lo) (hs : B ≤ a.heap.size) (hg : (twoW a x y).grownBy c v.ownBlock) : Below B w c :=
  ((hb.trans ((twoW_below a x y).mono hs)).grown hg (by rw [twoW_size]; omega) fun k hk => Nat.le_trans hB (h.2.1.lt k hk).1)
theorem two_box {a c : World} {lo b : Nat} {s t : Int} {u v : Value} {us : List Value} {ll : List (List Int)} {x y : Int} (hX : Box a b s t u) (h : OwI lo a.heap.size a v us ll) (hb : b < lo) (hg : (twoW a x y).grownBy c v.ownBlock) : Box c b s t u :=
  (hX.below (twoW_below a x y)).grown hg fun e => by have := (h.2.1.lt b e.symm).1; omega
theorem two_keep {a c : World} {b o : Nat} {z v : Value} {x y : Int} (hz : a.cell? ⟨b, o, none⟩ = some z) (hne : v.ownBlock ≠ some b) (hg : (twoW a x y).grownBy c v.ownBlock) : c.cell? ⟨b, o, none⟩ = some z :=
  (cell_grown_by hg (a := ⟨b, o, none⟩) (Nat.lt_of_lt_of_le (World.block_lt_of_cell? _ _ hz) (twoW_below a x y).size) (fun e => hne e.symm)).trans (old_cell (twoW_below a x y) hz)
end Go.Proofs.Ytpdjceafjdlknaa
