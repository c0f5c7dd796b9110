/- The contracts of chapter 10's model: GearOk, l10Gcd, TrainRatio, TurnsOf, LeastWhole. No condition. -/
import Derived.Test.YtjikpkigncomfaaGearMath
import Derived.Test.YtjikpkigncomfaaGears
import Derived.Test.YtjikpkigncomfaaSortSpec
namespace Go.Proofs.Ytjikpkigncomfaa
open Go.ChangeShapes Go.WideShapes Go.ChangeAt Go.RowKit

theorem gearG_any {w : World} (p : Int × Int) :
    Calls Try.prog 14 #[.agg #[.int .i64 p.1, .int .i64 p.2]] w fun e w' => e = .returned (.bool (gearB p)) ∧ Below w.heap.size w w' := by
  have hb0 : Below w.heap.size w (w.alloc (.cells #[.int .i64 p.1, .int .i64 p.2] 31)) := (Below.refl _ _).alloc (Nat.le_refl _) _
  by_cases h1 : 6 ≤ p.1 ∧ p.1 ≤ 120
  · by_cases h2 : 6 ≤ p.2 ∧ p.2 ≤ 120
    · have HG : Hid (gearB p = true) := Lib.hid (gearB_true.2 ⟨h1, h2⟩)
      go_enter Try.func14, Try.ntmps14
      go_wp2_with fail
      refine (in_yes _ _ _ h1 _).mono ?_
      rintro e w1 ⟨rfl, rfl⟩
      go_wp2_with fail
      refine (in_yes _ _ _ h2 _).mono ?_
      rintro e w1 ⟨rfl, rfl⟩
      go_wp2
      go_ret
      exact ⟨by rw [HG.out]; rfl, hb0⟩
    · have HG : Hid (gearB p = false) := Lib.hid (gearB_false.2 fun k => h2 k.2)
      go_enter Try.func14, Try.ntmps14
      go_wp2_with fail
      refine (in_yes _ _ _ h1 _).mono ?_
      rintro e w1 ⟨rfl, rfl⟩
      go_wp2_with fail
      refine (in_no _ _ _ h2 _).mono ?_
      rintro e w1 ⟨rfl, rfl⟩
      go_wp2
      go_ret
      exact ⟨by rw [HG.out]; rfl, hb0⟩
  · have HG : Hid (gearB p = false) := Lib.hid (gearB_false.2 fun k => h1 k.1)
    go_enter Try.func14, Try.ntmps14
    go_wp2_with fail
    refine (in_no _ _ _ h1 _).mono ?_
    rintro e w1 ⟨rfl, rfl⟩
    go_wp2
    go_ret
    exact ⟨by rw [HG.out]; rfl, hb0⟩

theorem gcd_step {x y : Nat} : Nat.gcd y (x % y) = Nat.gcd x y := by rw [Nat.gcd_comm, ← Nat.gcd_rec, Nat.gcd_comm]
theorem tmod_nat (x y : Nat) : (x : Int).tmod (y : Int) = ((x % y : Nat) : Int) := rfl

theorem ratM_nat {l : List (Int × Int)} (h : trainB l = true) : ∃ x y : Nat, topL l = (x : Int) ∧ botL l = (y : Int) ∧ 1 ≤ x ∧ 1 ≤ y ∧ x ≤ 207360000 ∧ y ≤ 207360000 ∧ 1 ≤ Nat.gcd x y ∧ Nat.gcd x y ≤ x ∧ ratM l = ((x : Int) / ((Nat.gcd x y : Nat) : Int), (y : Int) / ((Nat.gcd x y : Nat) : Int)) := by
  have hp := trainB_true.1 h
  have ht := topL_pos hp.2 hp.1
  have hb := botL_pos hp.2 hp.1
  obtain ⟨x, hx⟩ := Int.eq_ofNat_of_zero_le (show 0 ≤ topL l by omega)
  obtain ⟨y, hy⟩ := Int.eq_ofNat_of_zero_le (show 0 ≤ botL l by omega)
  refine ⟨x, y, hx, hy, by omega, by omega, by omega, by omega, Nat.gcd_pos_of_pos_left _ (by omega), Nat.gcd_le_left _ (by omega), ?_⟩
  rw [ratM_yes h, hx, hy]; rfl

end Go.Proofs.Ytjikpkigncomfaa
