/- The model's draws from a list: l01Once, l01PickInt. No condition. -/
import Derived.Test.YtkciolegfonabaaDrawB
namespace Go.Proofs.Ytkciolegfonabaa
open Go.ChangeShapes Go.WideShapes Go.ChangeAt Go.RowKit

set_option maxHeartbeats 400000 in
theorem pickint_any {B c : Nat} {w : World} (b off n cap : Nat) (z : Nat → Int) (lo hi : Int) (h1 : 1 ≤ n) (h2 : n ≤ 4294967296) (hb : b < w.heap.size) (hbc : b ≠ c)
    (hz : ∀ k, k < n → w.cell? ⟨b, off + k, none⟩ = some (.int .i64 (z k)) ∧ lo ≤ z k ∧ z k ≤ hi) (hC : Cur 89 B w c) :
    Calls Try.prog 86 #[.pointer (some ⟨c, 0, none⟩), .slice (some ⟨b, off, none⟩) n cap] w (Drawn 89 B c w lo hi) := by
  go_enter Try.func86, Try.ntmps86
  have HZ := Lib.hid hz; clear hz
  go_wp2_with (go_at_call 81; refine (below_any n (by omega) (by omega) hC).mono ?_; rintro e w1 ⟨x, hx0, hx1, rfl, hg1, hC1⟩; obtain ⟨k, rfl⟩ := Int.eq_ofNat_of_zero_le hx0; obtain ⟨hk, hlo, hhi⟩ := HZ.out k (by omega); have hk1 : w1.cell? ⟨b, off + k, none⟩ = some (.int .i64 (z k)) := by (rw [← hk]; exact World.cell?_of_block (hg1.block b hb (by intro e; injection e; omega))))
  go_ret
  exact ⟨_, by assumption, by assumption, rfl, by assumption, by assumption⟩

set_option maxHeartbeats 400000 in
theorem pickint_new {B c : Nat} {w : World} (xs : List Int) (cs : Array Value) (hcs : cs = (xs.map (Value.int .i64)).toArray) (n : Nat) (hn : n = xs.length) (h1 : 1 ≤ n) (h2 : n ≤ 4294967296) (t : TypeId) (lo hi : Int)
    (hx : ∀ x ∈ xs, lo ≤ x ∧ x ≤ hi) (hC : Cur 89 B w c) :
    Calls Try.prog 86 #[.pointer (some ⟨c, 0, none⟩), .slice (some ⟨w.heap.size, 0, none⟩) n n] (w.alloc (.cells cs t)) (Drawn 89 B c w lo hi) := by
  have hlt := hC.lt
  have hB := hC.1
  refine (pickint_any w.heap.size 0 n n (fun k => xs.getD k 0) lo hi h1 h2 (by simp) (by omega) ?_ (hC.kept (World.grownBy_alloc w _ none) (by intro r hr; cases hr))).mono ?_
  · intro k hk
    have hk' : k < xs.length := by omega
    have e : xs.getD k 0 = xs[k] := by simp [List.getD, hk']
    refine ⟨?_, ?_⟩
    · have e1 : (w.alloc (.cells cs t)).heap[w.heap.size]? = some (.cells cs t (0, 0)) := (MapKept.heap_alloc w _).1
      unfold World.cell?
      rw [show (⟨w.heap.size, 0 + k, none⟩ : Addr).block = w.heap.size from rfl, e1]
      simp [hcs, hk']
    · simp only [e]; exact hx _ (List.getElem_mem _)
  · rintro e w' ⟨x, h1, h2, he, hg, hc⟩
    exact ⟨x, h1, h2, he, only_trans (only_alloc (World.grownBy.refl _ _) _) hg, hc⟩
end Go.Proofs.Ytkciolegfonabaa
