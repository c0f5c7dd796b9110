/- The contract of the program's comparePins. No condition. Made by mk_implpin.py. -/
import Derived.Test.YtcbdoldcdgaooaaCmp
import Derived.Test.YtcbdoldcdgaooaaPinMath
namespace Go.Proofs.Ytcbdoldcdgaooaa
open Go.ChangeShapes Go.WideShapes Go.ChangeAt Go.RowKit


def cmpP (p q : Int × Int) : Int := cmpN (swp p) (swp q)
theorem cmpP_lt {p q : Int × Int} : cmpP p q < 0 ↔ pless p q = true := cmpN_lt
theorem cmpP_ge {p q : Int × Int} : 0 ≤ cmpP p q ↔ pless p q = false := cmpN_ge
theorem cmpP_zero {p q : Int × Int} : cmpP p q = 0 ↔ p = q := cmpN_zero.trans ⟨swp_inj, fun h => by rw [h]⟩
theorem pless_irrefl (p : Int × Int) : pless p p = false := less_irrefl (swp p)
theorem pless_trans {p q r : Int × Int} (h : pless p q = true) (k : pless q r = true) : pless p r = true := less_trans h k
theorem pless_asymm {p q : Int × Int} (h : pless p q = true) : pless q p = false := less_asymm h
theorem pless_total {p q : Int × Int} (h : pless p q = false) (k : pless q p = false) : p = q := swp_inj (less_total h k)

theorem compP_any (p q : Int × Int) (w : World) :
    Calls Try.prog 63 #[.agg #[.int .i64 p.1, .int .i64 p.2], .agg #[.int .i64 q.1, .int .i64 q.2]] w fun e w' => e = .returned (.int .i64 (cmpP p q)) ∧ Gr w w' := by
  obtain ⟨a, b⟩ := p
  obtain ⟨c, d⟩ := q
  have hgr : ∀ x y z : Obj, Gr w ((((w.alloc x).alloc y).alloc z).drew) := fun x y z => gr_of_below (Below.drew (((Below.refl _ _).alloc (Nat.le_refl _) _).alloc (by simp) _ |>.alloc (by simp; omega) _)) (Nat.le_succ _)
  have HG := Lib.hid hgr; clear hgr
  go_enter Try.func63, Try.ntmps63
  go_wp2_with fail
  go_region_held3 (fun w' => w'.cell? ⟨w.heap.size, 0, none⟩ = some (.int .i64 a) ∧ w'.cell? ⟨w.heap.size, 1, none⟩ = some (.int .i64 b) ∧ w'.cell? ⟨w.heap.size + 1, 0, none⟩ = some (.int .i64 c) ∧ w'.cell? ⟨w.heap.size + 1, 1, none⟩ = some (.int .i64 d)) (go_keep)
    (first
      | (go_at_call 108; refine (compare_any _ _ _).mono ?_; rintro e w1 ⟨rfl, rfl⟩)
      | (go_at_call 107; refine (or2_new _ _ _ _ _ (size2 _ _ _)).mono ?_; rintro e w1 ⟨rfl, rfl⟩))
  all_goals
    go_wp2
    go_ret
    exact ⟨rfl, HG.out _ _ _⟩
end Go.Proofs.Ytcbdoldcdgaooaa
