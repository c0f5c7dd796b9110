/- The program's own gears: wheelOk, GearOk, trainOk with its closure and slices.ContainsFunc, greatestDivisor, ratioOf, TrainRatio, LeastWhole. No condition. -/
import Derived.Test.YtcbdoldcdgaooaaGearPure
import Derived.Test.YtcbdoldcdgaooaaGearSpec2
import Derived.Test.YtcbdoldcdgaooaaRdCap
namespace Go.Proofs.Ytcbdoldcdgaooaa
open Go.ChangeShapes Go.WideShapes Go.ChangeAt Go.RowKit

/-- What is asked of a test of gears. -/
def TstG (w : World) (g : FuncId) (caps : Array Value) (b : Int × Int → Bool) : Prop :=
  ∀ (p : Int × Int) (W : World), Below w.heap.size w W → Calls Try.prog g (#[.agg #[.int .i64 p.1, .int .i64 p.2]] ++ caps) W fun e W' => e = .returned (.bool (b p)) ∧ Below W.heap.size W W'

theorem trainB_any {l : List (Int × Int)} (h : l.length ≤ 4) : trainB l = !(l.any fun p => !gearB p) := by
  cases ha : l.any fun p => !gearB p with
  | true =>
    obtain ⟨p, hp, hb⟩ := List.any_eq_true.1 ha
    exact trainB_false.2 fun k => gearB_false.1 (by simpa using hb) (k.2 p hp)
  | false => exact trainB_true.2 ⟨h, fun p hp => gearB_true.1 (by have := List.any_eq_false.1 ha p hp; simpa using this)⟩

set_option maxHeartbeats 1000000 in
theorem divisor_any {w : World} (a b : Nat) (ha : a ≤ 1000000000000) (hb : b ≤ 1000000000000) :
    Calls Try.prog 99 #[.int .i64 (a : Int), .int .i64 (b : Int)] w fun e w' => e = .returned (.int .i64 ((Nat.gcd a b : Nat) : Int)) ∧ Below w.heap.size w w' := by
  obtain ⟨G, hG⟩ : ∃ G, Nat.gcd a b = G := ⟨_, rfl⟩
  rw [hG]
  have HG := Lib.hid hG
  clear hG
  go_enter Try.func99, Try.ntmps99
  go_wp2
  go_loopw [0, 1] (fun v0 v1 wr => ∃ x y : Nat, v0 = .int .i64 (x : Int) ∧ v1 = .int .i64 (y : Int) ∧ x ≤ 1000000000000 ∧ y ≤ 1000000000000 ∧ Hid (Nat.gcd x y = G) ∧ Below w.heap.size w wr) (fun _ v1 _ => (intOf v1).toNat)
  case atStart => exact ⟨a, b, rfl, rfl, ha, hb, HG, Below.refl _ _⟩
  case round =>
    obtain ⟨x, y, rfl, rfl, hx, hy, HR, hbr⟩ := hrel
    by_cases h0 : y = 0
    · subst h0
      have HN : Hid (x = G) := Lib.hid (by have := HR.out; rwa [Nat.gcd_zero_right] at this)
      go_wp2
      go_ret
      exact ⟨by rw [← HN.out]; rfl, hbr⟩
    · have hyz : ((y : Int) == 0) = false := by rw [beq_eq_false_iff_ne]; omega
      have hxy : x % y < y := Nat.mod_lt _ (by omega)
      have HN : Hid (Nat.gcd y (x % y) = G) := Lib.hid (gcd_step.trans HR.out)
      have ht : (x : Int).tmod (y : Int) = (x : Int) % (y : Int) := Int.tmod_eq_emod_of_nonneg (by omega)
      have hm : (x : Int) % (y : Int) = ((x % y : Nat) : Int) := (Int.natCast_emod x y).symm
      have ew : IntKind.i64.wrap ((x : Int) % (y : Int)) = (x : Int) % (y : Int) := IntWalk.i64_in _ (by omega)
      have HM := Lib.hid hm
      clear hm
      go_wp2_with fail
      go_quiet (fail)
      go_wp2
      go_roundw
      case rel => exact ⟨y, x % y, rfl, by first | rfl | (rw [← HM.out]) | go_num, hy, by omega, HN, below_drewN hbr _⟩
      case measure => simp [intOf]; omega

end Go.Proofs.Ytcbdoldcdgaooaa
