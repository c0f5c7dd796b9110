/- The contract of the draw of a ratio: DrawRatio. No condition. -/
import Derived.Test.YtjikpkigncomfaaDrawB
namespace Go.Proofs.Ytjikpkigncomfaa
open Go.ChangeShapes Go.WideShapes Go.ChangeAt Go.RowKit

set_option maxHeartbeats 1000000 in
theorem drawratio_any {w : World} {v : Value} {n : Nat} (hC : Code w w.heap.size v n) :
    Calls Try.prog 10 #[v] w fun e w' => ∃ a b : Nat, (1 ≤ a ∧ a ≤ 200) ∧ (1 ≤ b ∧ b ≤ 200) ∧ e = .returned (.tuple #[.int .i64 (a : Int), .int .i64 (b : Int)]) ∧ Below w.heap.size w w' := by
  go_enter Try.func10, Try.ntmps10
  go_wp2_with fail
  refine (new_any hC).mono ?_
  rintro e w1 ⟨c, rfl, hb1, hC1⟩
  go_wp2_with fail
  refine (below_any 200 (by omega) (by omega) hC1).mono ?_
  rintro e w2 ⟨x, hx0, hx1, rfl, hg2, hC2⟩
  obtain ⟨a, rfl⟩ := Int.eq_ofNat_of_zero_le hx0
  have hb2 := hb1.grown hg2 hb1.size (fun k hk => by injection hk with e; rw [← e]; exact hC1.1)
  have ea : IntKind.i64.wrap (1 + (a : Int)) = 1 + (a : Int) := IntWalk.i64_in _ (by omega)
  have hC3 := hC2
  have hb3 := hb2
  have HB := Lib.hid (show ∀ (W : World), Cur 60 w.heap.size W c → Calls Try.prog 32 #[.pointer (some ⟨c, 0, none⟩), .int .i64 200] W (fun e w' => ∃ y : Nat, (y ≤ 199 ∧ IntKind.i64.wrap (1 + (y : Int)) = 1 + (y : Int)) ∧ e = .returned (.int .i64 (y : Int)) ∧ W.grownBy w' (some c)) from fun W h => (below_any 200 (by omega) (by omega) h).mono fun e w' ⟨y, h0, h1, he, hg, _⟩ => by
    obtain ⟨z, rfl⟩ := Int.eq_ofNat_of_zero_le h0
    exact ⟨z, ⟨by omega, IntWalk.i64_in _ (by omega)⟩, he, hg⟩)
  have hcB := hC2.1
  clear hC1 hC2 hg2 hb1 hb2
  go_wp2_with fail
  refine (HB.out _ hC3).mono ?_
  rintro e w5 ⟨y, ⟨hy1, ey⟩, rfl, hg5⟩
  have hb5 := hb3.grown hg5 hb3.size (fun k hk => by injection hk with e; rw [← e]; exact hcB)
  go_wp2
  go_ret2
  exact ⟨a + 1, y + 1, ⟨by omega, by omega⟩, ⟨by omega, by omega⟩, by
    have e1 : ((a + 1 : Nat) : Int) = 1 + (a : Int) := by omega
    have e2 : ((y + 1 : Nat) : Int) = 1 + (y : Int) := by omega
    rw [e1, e2]; rfl, hb5⟩
end Go.Proofs.Ytjikpkigncomfaa
