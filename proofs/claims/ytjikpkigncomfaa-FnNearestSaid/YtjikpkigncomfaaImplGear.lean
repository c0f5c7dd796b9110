/- The program's own gears: wheelOk, GearOk, trainOk with its closure and slices.ContainsFunc, greatestDivisor, ratioOf, TrainRatio, LeastWhole. No condition. -/
import Derived.Test.YtjikpkigncomfaaGearPure
import Derived.Test.YtjikpkigncomfaaGearSpec2
import Derived.Test.YtjikpkigncomfaaRdCap
namespace Go.Proofs.Ytjikpkigncomfaa
open Go.ChangeShapes Go.WideShapes Go.ChangeAt Go.RowKit

theorem wheel_yes {n : Int} (h : 6 ≤ n ∧ n ≤ 120) (w : World) : Calls Try.prog 46 #[.int .i64 n] w fun e w' => e = .returned (.bool true) ∧ w = w' := by
  have h1 : decide (6 ≤ n) = true := decide_eq_true h.1
  have h2 : decide (n ≤ 120) = true := decide_eq_true h.2
  go_enter Try.func46, Try.ntmps46
  go_wp2
  go_ret
  exact ⟨rfl, rfl⟩
theorem wheel_no {n : Int} (h : ¬ (6 ≤ n ∧ n ≤ 120)) (w : World) : Calls Try.prog 46 #[.int .i64 n] w fun e w' => e = .returned (.bool false) ∧ w = w' := by
  by_cases k : 6 ≤ n
  · have h1 : decide (6 ≤ n) = true := decide_eq_true k
    have h2 : decide (n ≤ 120) = false := decide_eq_false fun j => h ⟨k, j⟩
    go_enter Try.func46, Try.ntmps46
    go_wp2
    go_ret
    exact ⟨rfl, rfl⟩
  · have h1 : decide (6 ≤ n) = false := decide_eq_false k
    go_enter Try.func46, Try.ntmps46
    go_wp2
    go_ret
    exact ⟨rfl, rfl⟩

theorem igear_any (p : Int × Int) (w : World) :
    Calls Try.prog 36 #[.agg #[.int .i64 p.1, .int .i64 p.2]] w fun e w' => e = .returned (.bool (gearB p)) ∧ Below w.heap.size w w' := by
  have hb0 : Below w.heap.size w (w.alloc (.cells #[.int .i64 p.1, .int .i64 p.2] 31)) := (Below.refl _ _).alloc (Nat.le_refl _) _
  by_cases h1 : 6 ≤ p.1 ∧ p.1 ≤ 120
  · by_cases h2 : 6 ≤ p.2 ∧ p.2 ≤ 120
    · have HG : Hid (gearB p = true) := Lib.hid (gearB_true.2 ⟨h1, h2⟩)
      go_enter Try.func36, Try.ntmps36
      go_wp2_with fail
      refine (wheel_yes h1 _).mono ?_
      rintro e w1 ⟨rfl, rfl⟩
      go_wp2_with fail
      refine (wheel_yes h2 _).mono ?_
      rintro e w1 ⟨rfl, rfl⟩
      go_wp2
      go_ret
      exact ⟨by rw [HG.out]; rfl, hb0⟩
    · have HG : Hid (gearB p = false) := Lib.hid (gearB_false.2 fun k => h2 k.2)
      go_enter Try.func36, Try.ntmps36
      go_wp2_with fail
      refine (wheel_yes h1 _).mono ?_
      rintro e w1 ⟨rfl, rfl⟩
      go_wp2_with fail
      refine (wheel_no h2 _).mono ?_
      rintro e w1 ⟨rfl, rfl⟩
      go_wp2
      go_ret
      exact ⟨by rw [HG.out]; rfl, hb0⟩
  · have HG : Hid (gearB p = false) := Lib.hid (gearB_false.2 fun k => h1 k.1)
    go_enter Try.func36, Try.ntmps36
    go_wp2_with fail
    refine (wheel_no h1 _).mono ?_
    rintro e w1 ⟨rfl, rfl⟩
    go_wp2
    go_ret
    exact ⟨by rw [HG.out]; rfl, hb0⟩

/-- What is asked of a test of gears. -/
def TstG (w : World) (g : FuncId) (caps : Array Value) (b : Int × Int → Bool) : Prop :=
  ∀ (p : Int × Int) (W : World), Below w.heap.size w W → Calls Try.prog g (#[.agg #[.int .i64 p.1, .int .i64 p.2]] ++ caps) W fun e W' => e = .returned (.bool (b p)) ∧ Below W.heap.size W W'

theorem trainB_any {l : List (Int × Int)} (h : l.length ≤ 4) : trainB l = !(l.any fun p => !gearB p) := by
  cases ha : l.any fun p => !gearB p with
  | true =>
    obtain ⟨p, hp, hb⟩ := List.any_eq_true.1 ha
    exact trainB_false.2 fun k => gearB_false.1 (by simpa using hb) (k.2 p hp)
  | false => exact trainB_true.2 ⟨h, fun p hp => gearB_true.1 (by have := List.any_eq_false.1 ha p hp; simpa using this)⟩

end Go.Proofs.Ytjikpkigncomfaa
